/-
  For every text and every byte the law FnExactParts returns true, and what came in reads behind the call as it read before: no condition.
-/
import Derived.Test.YtgibihacbhjlnaaPartsW
import Derived.Test.YtgibihacbhjlnaaHeldW
import Derived.Test.YtgibihacbhjlnaaRows
import Derived.WalkKit
import Derived.ProofKit
import Derived.OpenShut
import Derived.ShutString
namespace Go.Proofs.Ytgibihacbhjlnaa.fnExactParts
open Go.ChangeShapes Go.WideShapes Go.ChangeAt Go.RowKit
open Go.ChangeMaps (open_string shut_string)
set_option linter.unusedVariables false      -- a walk need not use every 'w<i>' (that an integer argument fits its kind)

theorem own : ownKnob Try.prog.godebug = none := by kernel_rfl

set_option maxRecDepth 20000 in
set_option maxHeartbeats 1000000 in
theorem walk (a0 : ByteArray) (a1 : Int) (w0 : a0.size ≤ maxLen) (w1 : (Lit.int .u8 a1).wf = true) (w : World) :
    Calls Try.prog 5 #[.string a0, .int .u8 a1] w fun e w' => e = .returned (.bool true) ∧ Below w.heap.size w w' := by
  by_cases hbig : 1048576 < a0.size
  · go_enter Try.func5, Try.ntmps5
    go_wp2
    go_ret
    exact ⟨rfl, Below.refl _ _⟩
  have hs : a0.size ≤ 1048576 := by omega
  clear w0 w1
  have hlen := (pst_le a0 a1 (a0.size + 1)).2
  have hlen2 : (parts a0 a1).length ≤ 1048577 := by unfold parts; omega
  clear hlen
  go_enter Try.func5, Try.ntmps5
  go_wp2_with fail
  refine (specParts a0 a1 _ (by omega)).mono ?_
  rintro e w1 ⟨v1, rfl, ho1, hb1⟩
  go_wp2_with fail
  refine (implParts a0 a1 _ (by omega)).mono ?_
  rintro e w2 ⟨v2, rfl, ho2, hb2⟩
  generalize hL : parts a0 a1 = l at *
  have HL : Hid (parts a0 a1 = l) := hL
  clear hL
  obtain ⟨d1, c1, rfl, _, hr1⟩ := own_rdS ho1
  obtain ⟨d2, c2, rfl, _, hr2⟩ := own_rdS ho2
  have hr12 := hr1.below hb2 (Nat.le_refl _)
  go_wp2_with fail
  refine (eqS _ _ _ _ l _ (by omega) (by exact hr2) (by exact hr12)).mono ?_
  rintro e w3 ⟨rfl, hb3⟩
  have ho3 := ownsRow_below ho2 hb3 (Nat.le_refl _)
  have hb13 : Below w1.heap.size w1 w3 := hb2.trans (hb3.mono hb2.size)
  clear ho1 ho2 hr2 hr12 hb2 hb3
  go_wp2_with fail
  refine (markStr _ l.length 1 w1.heap.size l _ (by omega) (by omega) (by exact hb13.size) (by exact ho3)).mono ?_
  rintro e w4 ⟨rfl, ho4, hb4⟩
  have hb14 : Below w1.heap.size w1 w4 := hb13.trans hb4
  clear ho3 hb4 hb13
  go_wp2_with fail
  refine (heldStr _ l.length 1 w1.heap.size _ (by omega) (by omega) (by exact ho4)).mono ?_
  rintro e w5 ⟨rfl, hb5⟩
  have ho5 := ownsRow_below ho4 hb5 (Nat.le_refl _)
  have hb15 : Below w1.heap.size w1 w5 := hb14.trans (hb5.mono hb14.size)
  clear ho4 hb5 hb14
  go_wp2_with fail
  refine (implParts a0 a1 _ (by omega)).mono ?_
  rintro e w6 ⟨v6, rfl, ho6, hb6⟩
  rw [HL.out] at ho6
  obtain ⟨d6, c6, rfl, _, hr6⟩ := own_rdS ho6
  have ho56 := ownsRow_below ho5 hb6 (Nat.le_refl _)
  have hb16 : Below w1.heap.size w1 w6 := hb15.trans (hb6.mono hb15.size)
  have hr16 := hr1.below hb16 (Nat.le_refl _)
  clear ho5 ho6 hb6 hb15
  go_wp2_with fail
  refine (eqS _ _ _ _ l _ (by omega) (by exact hr6) (by exact hr16)).mono ?_
  rintro e w7 ⟨rfl, hb7⟩
  have ho7 := ownsRow_below ho56 hb7 (Nat.le_refl _)
  have hb17 : Below w1.heap.size w1 w7 := hb16.trans (hb7.mono hb16.size)
  clear ho56 hb7 hb16 hr6 hr16
  go_wp2_with fail
  refine (heldStr _ l.length 1 w1.heap.size _ (by omega) (by omega) (by exact ho7)).mono ?_
  rintro e w8 ⟨rfl, hb8⟩
  go_wp2
  go_ret
  exact ⟨rfl, hb1.trans ((hb17.trans (hb8.mono hb17.size)).mono hb1.size)⟩

set_option maxRecDepth 100000 in
theorem lifted (os : Os) (started : os.Started) (H : Type) (enc : TypeId × Value → H) :
    ReturnsInHanded {} Try.checked os 5 .any (Rows.fnExactPartsSpec.pre6 enc Try.prog Try.f5 Rows.fnExactPartsRow.domain false) (Rows.fnExactPartsSpec.post enc Try.prog Try.f5 false true false false) := by
  refine returnsInHanded_of_change (C := Try.checked) own started (by kernel_rfl) Try.func5
    (ChangeSpec.witness6 (enc := enc) (C := Try.checked) false ⟨#[], #[.string ByteArray.empty, .int .u8 0], []⟩ 8 (by kernel_rfl) (by kernel_rfl) (by kernel_rfl) (by kernel_rfl)) ?_
  intro W base args ds gs before hval0 hW hcnd _
  have hval : ∀ (j : Nat) t v, Try.f5.params[j]? = some t → args[j]? = some v → Value.okWide Try.prog W .any base t v := hval0
  have hW' := hW
  obtain ⟨p, q, hA0, hV, rfl, hfz, hnd⟩ := hW
  have hA : DataW.TrodAll enc Try.prog W 0 (fun _ => true) true Try.f5.params.toList args.toList ds p := hA0
  rw [Try.params5] at hA hval
  obtain ⟨v0, vs0, d0, ds0, p0, q0, hargs, rfl, rfl, h0, r0⟩ := trodAll_cons hA
  obtain ⟨v1, vs1, d1, ds1, p1, q1, rfl, rfl, rfl, h1, r1⟩ := trodAll_cons r0
  obtain ⟨rfl, rfl, rfl⟩ := trodAll_nil r1
  obtain rfl : args = #[v0, v1] := by cases args; simp_all
  obtain ⟨rfl, rfl⟩ := trodVars_none hV
  obtain ⟨a0, rfl, rfl, rfl, w0⟩ := open_string Try.underlying9 (hval 0 9 v0 rfl rfl) h0
  obtain ⟨a1, rfl, rfl, rfl, w1⟩ := open_int Try.underlying5 (hval 1 5 v1 rfl rfl) h1
  clear hA0 hval0
  refine (walk a0 a1 w0 w1 W).mono fun e W' ⟨he, bel⟩ => ?_
  subst he
  exact ⟨_, rfl, _, _, _, [], _, [], hW', (trodAll_cons_mk (shut_bool Try.underlying4 _) trodAll_mk0), (trodAll_cons_mk (shut_string Try.underlying9 w0) (trodAll_cons_mk (shut_int Try.underlying5 w1) trodAll_mk0)), rfl, bel.frame _, fun h => by cases h⟩

theorem over : Rows.fnExactPartsRow.holds Try.pinned (OpenSpec.ofChange Rows.fnExactPartsSpec) :=
  OpenClaim.holds_of_wide 5 Try.f5 rfl rfl rfl rfl rfl rfl rfl ⟨rfl, rfl, rfl, rfl, rfl⟩ rfl rfl rfl rfl rfl (by kernel_rfl) Try.func5 (by kernel_rfl)
    (of_decide_eq_true (by kernel_rfl)) (by unfold Func.isWrapper; first | (rw [if_pos (by decide +kernel)]; kernel_rfl) | (rw [if_neg (by decide +kernel)]; exact ⟨rfl, rfl⟩))
    (fun os started H enc _ => lifted os started H enc)

theorem proved : Rows.FnExactPartsSaid :=
  over
#print axioms proved
end Go.Proofs.Ytgibihacbhjlnaa.fnExactParts
