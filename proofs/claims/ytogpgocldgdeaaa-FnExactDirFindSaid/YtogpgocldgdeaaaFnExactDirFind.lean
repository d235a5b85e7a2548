/-
  For every row of entries and name the law FnExactDirFind returns true, and what came in reads behind the call as it read before: no condition.
-/
import Derived.Test.YtogpgocldgdeaaaEntX
import Derived.Deep.RegionHeld3
import Derived.Test.YtogpgocldgdeaaaRows
import Derived.WalkKit
import Derived.ProofKit
import Derived.OpenShut
import Derived.ShutString
import Derived.ChangeOld
import Derived.Below
namespace Go.Proofs.Ytogpgocldgdeaaa.fnExactDirFind
open Go.ChangeShapes Go.WideShapes Go.ChangeAt Go.RowKit
open Go.ChangeMaps (open_string shut_string)
set_option linter.unusedVariables false

theorem own : ownKnob Try.prog.godebug = none := by kernel_rfl
theorem laidOut : laidOutB Try.prog = true := by kernel_rfl

set_option maxRecDepth 20000 in
set_option maxHeartbeats 8000000 in
theorem walk (a0 : Option Addr) (c0 : Nat) (l0 : List EntD) (f0 : FitEn l0) (cc0 : l0.length ≤ c0) (a1 : ByteArray) (w1 : a1.size ≤ maxLen) (w : World) (r0 : RdF encN 2 w a0 l0) :
    Calls Try.prog 5 #[.slice a0 l0.length c0, .string a1] w fun e w' => e = .returned (.bool true) ∧ Below w.heap.size w w' := by
  have HR0 : Hid (∀ W, Below w.heap.size w W → RdEn W (.slice a0 l0.length c0) l0) := fun W h => ⟨_, _, rfl, cc0, r0.below h (Nat.le_refl _)⟩
  have HF0 : Hid (FitEn l0) := f0
  clear r0 f0
  obtain ⟨E0, HE0⟩ : ∃ x, Hid (enFind l0 a1 = x) := ⟨_, rfl⟩
  have SC : Hid (∀ v0 W, szEn l0 ≤ 1048576 → RdEn W v0 l0 → Calls Try.prog 15 #[v0, .string a1] W fun e w' => e = .returned (.int .i64 E0) ∧ Below W.heap.size W w') := by
    intro v0 W hs0 hv0
    rw [← HE0.out]
    exact dirFindX_spec v0 l0 a1 W hs0 hv0
  have IC : Hid (∀ v0 W, szEn l0 ≤ 1048576 → RdEn W v0 l0 → Calls Try.prog 16 #[v0, .string a1] W fun e w' => e = .returned (.int .i64 E0) ∧ Below W.heap.size W w') := by
    intro v0 W hs0 hv0
    rw [← HE0.out]
    exact dirFindX_impl v0 l0 a1 W hs0 hv0
  clear HE0
  go_enter Try.func5, Try.ntmps5
  have hB0 : Below w.heap.size w w := Below.refl _ _
  by_cases hst1 : (1048576 : Int) < (a1.size : Int)
  · go_wp2
    go_ret
    exact ⟨rfl, (Below.refl _ _)⟩
  go_wp2_with fail
  refine (szEnY _ l0 1048576 _ (by omega) (by omega) HF0.out (HR0.out _ hB0)).mono ?_
  rintro e w1 ⟨s0, rfl, hsz0, s0ge, s0le, hb1⟩
  have hz2 : w.heap.size ≤ w1.heap.size := hb1.size
  have hB2 : Below w.heap.size w w1 := hB0.trans (hb1.mono hB0.size)
  clear hB0
  by_cases hneg0 : s0 < 0
  · clear hsz0
    go_wp2
    go_ret
    exact ⟨rfl, hB2⟩
  have HS0 : Hid (szEn l0 ≤ 1048576) := by have := hsz0 (by omega); show szEn l0 ≤ 1048576; omega
  clear hsz0 hb1
  go_wp2_with fail
  refine (toEnX _ l0 _ HS0.out (HR0.out _ hB2)).mono ?_
  rintro e w3 ⟨x2, rfl, ho2, hb3⟩
  have hz4 : w1.heap.size ≤ w3.heap.size := hb3.size
  have hB4 : Below w.heap.size w w3 := hB2.trans (hb3.mono hB2.size)
  clear hB2
  clear hb3
  go_wp2_with fail
  refine (SC.out _ _ HS0.out ho2.rd).mono ?_
  rintro e w5 ⟨rfl, hb5⟩
  have hz6 : w3.heap.size ≤ w5.heap.size := hb5.size
  have hB6 : Below w.heap.size w w5 := hB4.trans (hb5.mono hB4.size)
  clear hB4
  clear hb5
  clear ho2
  go_wp2_with fail
  refine (toEnX _ l0 _ HS0.out (HR0.out _ hB6)).mono ?_
  rintro e w7 ⟨z0, rfl, hOX0, hb7⟩
  have hz8 : w5.heap.size ≤ w7.heap.size := hb7.size
  have hB8 : Below w.heap.size w w7 := hB6.trans (hb7.mono hB6.size)
  clear hB6
  clear hb7
  go_wp2_with fail
  refine (IC.out _ _ HS0.out hOX0.rd).mono ?_
  rintro e w9 ⟨rfl, hb9⟩
  have hz10 : w7.heap.size ≤ w9.heap.size := hb9.size
  have hB10 : Below w.heap.size w w9 := hB8.trans (hb9.mono hB8.size)
  have hOX0_10 := hOX0.below hb9
  clear hB8 hOX0
  clear hb9
  go_wp2_with fail
  refine (toEnX _ l0 _ HS0.out (HR0.out _ hB10)).mono ?_
  rintro e w11 ⟨zq0, rfl, hoq, hb11⟩
  have hz12 : w9.heap.size ≤ w11.heap.size := hb11.size
  have hB12 : Below w.heap.size w w11 := hB10.trans (hb11.mono hB10.size)
  have hOX0_12 := hOX0_10.below hb11
  clear hB10 hOX0_10
  clear hb11
  go_wp2_with fail
  refine (eqEnX _ _ l0 _ (Nat.le_trans (szEn_len _) (Nat.le_trans HS0.out (by omega))) hOX0_12.rd hoq.rd).mono ?_
  rintro e w13 ⟨rfl, hb13⟩
  have hz14 : w11.heap.size ≤ w13.heap.size := hb13.size
  have hB14 : Below w.heap.size w w13 := hB12.trans (hb13.mono hB12.size)
  have hOX0_14 := hOX0_12.below hb13
  clear hB12 hOX0_12
  clear hoq hb13
  have hcb0 := (Nat.le_trans (szEn_len l0) HS0.out)
  go_wp2
  go_ret
  exact ⟨rfl, hB14⟩

set_option maxRecDepth 100000 in
theorem lifted (os : Os) (started : os.Started) (H : Type) (enc : TypeId × Value → H) :
    ReturnsInHanded {} Try.checked os 5 .any (Rows.fnExactDirFindSpec.pre6 enc Try.prog Try.f5 Rows.fnExactDirFindRow.domain false) (Rows.fnExactDirFindSpec.post enc Try.prog Try.f5 false true false false) := by
  refine returnsInHanded_of_change (C := Try.checked) own started (by kernel_rfl) Try.func5
    (ChangeSpec.witness6 (enc := enc) (C := Try.checked) false ⟨#[], #[.slice none 0 0, .string ByteArray.empty], []⟩ 8 (by kernel_rfl) (by kernel_rfl) (by kernel_rfl) (by kernel_rfl)) ?_
  intro W base args ds gs before hval0 hW hcnd _
  have hval : ∀ (j : Nat) t v, Try.f5.params[j]? = some t → args[j]? = some v → Value.okWide Try.prog W .any base t v := hval0
  have hW' := hW
  obtain ⟨p, q, hA0, hV, rfl, hfz, hnd⟩ := hW
  have hA : DataW.TrodAll enc Try.prog W 0 (fun _ => true) true Try.f5.params.toList args.toList ds p := hA0
  rw [Try.params5] at hA hval
  obtain ⟨v0, vs0, d0, ds0, p0, q0, hargs, rfl, rfl, h0, rr0⟩ := trodAll_cons hA
  obtain ⟨v1, vs1, d1, ds1, p1, q1, rfl, rfl, rfl, h1, rr1⟩ := trodAll_cons rr0
  obtain ⟨rfl, rfl, rfl⟩ := trodAll_nil rr1
  obtain rfl : args = #[v0, v1] := by cases args; simp_all
  obtain ⟨rfl, rfl⟩ := trodVars_none hV
  have k0 := h0
  have lt0 : ∀ x ∈ p0, x.block < W.heap.size := by obtain ⟨m, hm⟩ := k0; exact DataW.trod_lt m _ _ _ hm
  have k1 := h1
  have lt1 : ∀ x ∈ p1, x.block < W.heap.size := by obtain ⟨m, hm⟩ := k1; exact DataW.trod_lt m _ _ _ hm
  obtain ⟨a0, c0, l0, rfl, f0, cc0, r0⟩ := open_Entries (hval 0 22 v0 rfl rfl) h0
  obtain ⟨a1, rfl, rfl, rfl, w1⟩ := open_string Try.underlying9 (hval 1 9 v1 rfl rfl) h1
  clear hA0 hval0
  refine (walk a0 c0 l0 f0 cc0 a1 w1 W r0).mono fun e W' ⟨he, bel⟩ => ?_
  subst he
  exact ⟨_, rfl, _, _, _, [], _, [], hW', trodAll_mk1 (shut_bool Try.underlying4 _), (trodAll_cons_mk (Below.trod laidOut (by kernel_rfl) (of_decide_eq_true (by kernel_rfl)) k0 bel lt0) (trodAll_cons_mk (Below.trod laidOut (by kernel_rfl) (of_decide_eq_true (by kernel_rfl)) k1 bel lt1) trodAll_mk0)), rfl, bel.frame _, fun h => by cases h⟩

theorem over : Rows.fnExactDirFindRow.holds Try.pinned (OpenSpec.ofChange Rows.fnExactDirFindSpec) :=
  OpenClaim.holds_of_wide 5 Try.f5 rfl rfl rfl rfl rfl rfl rfl ⟨rfl, rfl, rfl, rfl, rfl⟩ rfl rfl rfl rfl rfl (by kernel_rfl) Try.func5 (by kernel_rfl)
    (of_decide_eq_true (by kernel_rfl)) (by unfold Func.isWrapper; first | (rw [if_pos (by decide +kernel)]; kernel_rfl) | (rw [if_neg (by decide +kernel)]; exact ⟨rfl, rfl⟩))
    (fun os started H enc _ => lifted os started H enc)

theorem proved : Rows.FnExactDirFindSaid := over
#print axioms proved
end Go.Proofs.Ytogpgocldgdeaaa.fnExactDirFind
