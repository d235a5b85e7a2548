/-
  For every text the law FnExactPutText returns true, and what came in reads behind the call as it read before: no condition.
-/
import Derived.Test.YtgibihacbhjlnaaTextW
import Derived.Test.YtgibihacbhjlnaaMarkW
import Derived.Test.YtgibihacbhjlnaaBytesW
import Derived.Test.YtgibihacbhjlnaaRows
import Derived.WalkKit
import Derived.ProofKit
import Derived.OpenShut
import Derived.ShutString
namespace Go.Proofs.Ytgibihacbhjlnaa.fnExactPutText
open Go.ChangeShapes Go.WideShapes Go.ChangeAt Go.RowKit
open Go.ChangeMaps (open_string shut_string)
set_option linter.unusedVariables false      -- a walk need not use every 'w<i>' (that an integer argument fits its kind)

theorem own : ownKnob Try.prog.godebug = none := by kernel_rfl

set_option maxRecDepth 20000 in
set_option maxHeartbeats 1000000 in
theorem walk (a0 : ByteArray) (w0 : a0.size ≤ maxLen) (w : World) :
    Calls Try.prog 4 #[.string a0] w fun e w' => e = .returned (.bool true) ∧ Below w.heap.size w w' := by
  by_cases hbig : 1048576 < a0.size
  · go_enter Try.func4, Try.ntmps4
    go_wp2
    go_ret
    exact ⟨rfl, Below.refl _ _⟩
  have hs : a0.size ≤ 1048576 := by omega
  clear w0
  have hlen := putText_len a0
  have HU : Hid (U8 (putText a0)) := putText_u8 a0
  go_enter Try.func4, Try.ntmps4
  go_wp2_with fail
  refine (specPutText a0 _ hs).mono ?_
  rintro e w1 ⟨v1, rfl, ho1, hb1⟩
  go_wp2_with fail
  refine (implPutText a0 _ hs).mono ?_
  rintro e w2 ⟨v2, rfl, ho2, hb2⟩
  generalize hL : putText a0 = l at *
  have HL : Hid (putText a0 = l) := hL
  clear hL
  obtain ⟨a1, c1, rfl, _, hr1⟩ := own_rd ho1
  obtain ⟨a2, c2, rfl, _, hr2⟩ := own_rd ho2
  have hr12 := hr1.below hb2 (Nat.le_refl _)
  go_wp2_with fail
  refine (eqB _ _ _ _ l _ (by omega) HU.out (by exact hr2) (by exact hr12)).mono ?_
  rintro e w3 ⟨rfl, hb3⟩
  have ho3 := ownsRow_below ho2 hb3 (Nat.le_refl _)
  have hb13 : Below w1.heap.size w1 w3 := hb2.trans (hb3.mono hb2.size)
  clear ho1 ho2 hr2 hr12 hb2 hb3
  go_wp2_with fail
  refine (markB _ l.length 1 _ l _ (by omega) (by omega) (by exact ho3)).mono ?_
  rintro e w4 ⟨rfl, ho4, hg4⟩
  have hb14 : Below w1.heap.size w1 w4 := hb13.grown hg4 hb13.size (fun k hk => (ho3.lt k hk).1)
  clear ho3 hg4 hb13
  go_wp2_with fail
  refine (heldB _ l.length 1 _ _ (by omega) (by omega) (by exact ho4)).mono ?_
  rintro e w5 ⟨rfl, rfl⟩
  go_wp2_with fail
  refine (implPutText a0 _ hs).mono ?_
  rintro e w6 ⟨v6, rfl, ho6, hb6⟩
  rw [HL.out] at ho6
  obtain ⟨a6, c6, rfl, _, hr6⟩ := own_rd ho6
  have ho46 := ownsRow_below ho4 hb6 (Nat.le_refl _)
  have hb16 : Below w1.heap.size w1 w6 := hb14.trans (hb6.mono hb14.size)
  have hr16 := hr1.below hb16 (Nat.le_refl _)
  clear ho4 ho6 hb6 hb14
  go_wp2_with fail
  refine (eqB _ _ _ _ l _ (by omega) HU.out (by exact hr6) (by exact hr16)).mono ?_
  rintro e w7 ⟨rfl, hb7⟩
  have ho7 := ownsRow_below ho46 hb7 (Nat.le_refl _)
  have hb17 : Below w1.heap.size w1 w7 := hb16.trans (hb7.mono hb16.size)
  clear ho46 hb7 hb16 hr6 hr16
  go_wp2_with fail
  refine (heldB _ l.length 1 _ _ (by omega) (by omega) (by exact ho7)).mono ?_
  rintro e w8 ⟨rfl, rfl⟩
  go_wp2
  go_ret
  exact ⟨rfl, hb1.trans (hb17.mono hb1.size)⟩

set_option maxRecDepth 100000 in
theorem lifted (os : Os) (started : os.Started) (H : Type) (enc : TypeId × Value → H) :
    ReturnsInHanded {} Try.checked os 4 .any (Rows.fnExactPutTextSpec.pre6 enc Try.prog Try.f4 Rows.fnExactPutTextRow.domain false) (Rows.fnExactPutTextSpec.post enc Try.prog Try.f4 false true false false) := by
  refine returnsInHanded_of_change (C := Try.checked) own started (by kernel_rfl) Try.func4
    (ChangeSpec.witness6 (enc := enc) (C := Try.checked) false ⟨#[], #[.string ByteArray.empty], []⟩ 8 (by kernel_rfl) (by kernel_rfl) (by kernel_rfl) (by kernel_rfl)) ?_
  intro W base args ds gs before hval0 hW hcnd _
  have hval : ∀ (j : Nat) t v, Try.f4.params[j]? = some t → args[j]? = some v → Value.okWide Try.prog W .any base t v := hval0
  have hW' := hW
  obtain ⟨p, q, hA0, hV, rfl, hfz, hnd⟩ := hW
  have hA : DataW.TrodAll enc Try.prog W 0 (fun _ => true) true Try.f4.params.toList args.toList ds p := hA0
  rw [Try.params4] at hA hval
  obtain ⟨v0, vs0, d0, ds0, p0, q0, hargs, rfl, rfl, h0, r0⟩ := trodAll_cons hA
  obtain ⟨rfl, rfl, rfl⟩ := trodAll_nil r0
  obtain rfl : args = #[v0] := by cases args; simp_all
  obtain ⟨rfl, rfl⟩ := trodVars_none hV
  obtain ⟨a0, rfl, rfl, rfl, w0⟩ := open_string Try.underlying9 (hval 0 9 v0 rfl rfl) h0
  clear hA0 hval0
  refine (walk a0 w0 W).mono fun e W' ⟨he, bel⟩ => ?_
  subst he
  exact ⟨_, rfl, _, _, _, [], _, [], hW', (trodAll_cons_mk (shut_bool Try.underlying4 _) trodAll_mk0), (trodAll_cons_mk (shut_string Try.underlying9 w0) trodAll_mk0), rfl, bel.frame _, fun h => by cases h⟩

theorem over : Rows.fnExactPutTextRow.holds Try.pinned (OpenSpec.ofChange Rows.fnExactPutTextSpec) :=
  OpenClaim.holds_of_wide 4 Try.f4 rfl rfl rfl rfl rfl rfl rfl ⟨rfl, rfl, rfl, rfl, rfl⟩ rfl rfl rfl rfl rfl (by kernel_rfl) Try.func4 (by kernel_rfl)
    (of_decide_eq_true (by kernel_rfl)) (by unfold Func.isWrapper; first | (rw [if_pos (by decide +kernel)]; kernel_rfl) | (rw [if_neg (by decide +kernel)]; exact ⟨rfl, rfl⟩))
    (fun os started H enc _ => lifted os started H enc)

theorem proved : Rows.FnExactPutTextSaid :=
  over
#print axioms proved
end Go.Proofs.Ytgibihacbhjlnaa.fnExactPutText
