/-
  For every row of entries and name the law FnExactDirDrop returns true, and what came in reads behind the call as it read before: no condition.
-/
import Derived.Test.YtogpgocldgdeaaaEntY
import Derived.Deep.RegionHeld3
import Derived.Test.YtogpgocldgdeaaaRows
import Derived.WalkKit
import Derived.ProofKit
import Derived.OpenShut
import Derived.ShutString
import Derived.ChangeOld
import Derived.Below
namespace Go.Proofs.Ytogpgocldgdeaaa.fnExactDirDrop
open Go.ChangeShapes Go.WideShapes Go.ChangeAt Go.RowKit
open Go.ChangeMaps (open_string shut_string)
set_option linter.unusedVariables false

theorem own : ownKnob Try.prog.godebug = none := by kernel_rfl
theorem laidOut : laidOutB Try.prog = true := by kernel_rfl

set_option maxRecDepth 20000 in
set_option maxHeartbeats 8000000 in
theorem walk (a0 : Option Addr) (c0 : Nat) (l0 : List EntD) (f0 : FitEn l0) (cc0 : l0.length ≤ c0) (a1 : ByteArray) (w1 : a1.size ≤ maxLen) (w : World) (r0 : RdF encN 2 w a0 l0) :
    Calls Try.prog 7 #[.slice a0 l0.length c0, .string a1] w fun e w' => e = .returned (.bool true) ∧ Below w.heap.size w w' := by
  have HR0 : Hid (∀ W, Below w.heap.size w W → RdEn W (.slice a0 l0.length c0) l0) := fun W h => ⟨_, _, rfl, cc0, r0.below h (Nat.le_refl _)⟩
  have HF0 : Hid (FitEn l0) := f0
  clear r0 f0
  obtain ⟨E0, HE0⟩ : ∃ x, Hid (enDropped l0 a1 = x) := ⟨_, rfl⟩
  obtain ⟨E1, HE1⟩ : ∃ x, Hid (enHas l0 a1 = x) := ⟨_, rfl⟩
  have HGX0 : Hid (szEn l0 ≤ 1048576 → E0.length ≤ 2097153) := by show _ → E0.length ≤ 2097153; rw [← HE0.out]; exact fun h => enDropped_small h
  have SC : Hid (∀ v0 W, szEn l0 ≤ 1048576 → RdEn W v0 l0 → Calls Try.prog 21 #[v0, .string a1] W fun e w' => ∃ u0, e = .returned (.tuple #[u0, .bool E1]) ∧ OwnEn w' W.heap.size w'.heap.size u0 E0 ∧ Below W.heap.size W w') := by
    intro v0 W hs0 hv0
    rw [← HE0.out]
    rw [← HE1.out]
    exact dirDropX_spec v0 l0 a1 W hs0 hv0
  have IC : Hid (∀ v0 W, szEn l0 ≤ 1048576 → RdEn W v0 l0 → Calls Try.prog 22 #[v0, .string a1] W fun e w' => ∃ u0, e = .returned (.tuple #[u0, .bool E1]) ∧ OwnEn w' W.heap.size w'.heap.size u0 E0 ∧ Below W.heap.size W w') := by
    intro v0 W hs0 hv0
    rw [← HE0.out]
    rw [← HE1.out]
    exact dirDropX_impl v0 l0 a1 W hs0 hv0
  clear HE0
  clear HE1
  go_enter Try.func7, Try.ntmps7
  have hB0 : Below w.heap.size w w := Below.refl _ _
  by_cases hst1 : (1048576 : Int) < (a1.size : Int)
  · go_wp2
    go_ret
    exact ⟨rfl, (Below.refl _ _)⟩
  go_wp2_with fail
  refine (szEnY _ l0 1048576 _ (by omega) (by omega) HF0.out (HR0.out _ hB0)).mono ?_
  rintro e w1 ⟨s0, rfl, hsz0, s0ge, s0le, hb1⟩
  have hz2 : w.heap.size ≤ w1.heap.size := hb1.size
  have hB2 : Below w.heap.size w w1 := hB0.trans (hb1.mono hB0.size)
  clear hB0
  by_cases hneg0 : s0 < 0
  · clear hsz0
    go_wp2
    go_ret
    exact ⟨rfl, hB2⟩
  have HS0 : Hid (szEn l0 ≤ 1048576) := by have := hsz0 (by omega); show szEn l0 ≤ 1048576; omega
  clear hsz0 hb1
  have HG0 : Hid (E0.length ≤ 2097153) := HGX0.out HS0.out
  clear HGX0
  go_wp2_with fail
  refine (toEnX _ l0 _ HS0.out (HR0.out _ hB2)).mono ?_
  rintro e w3 ⟨x2, rfl, ho2, hb3⟩
  have hz4 : w1.heap.size ≤ w3.heap.size := hb3.size
  have hB4 : Below w.heap.size w w3 := hB2.trans (hb3.mono hB2.size)
  clear hB2
  clear hb3
  go_wp2_with fail
  refine (SC.out _ _ HS0.out ho2.rd).mono ?_
  rintro e w5 ⟨uW0, rfl, hOW0, hb5⟩
  have hz6 : w3.heap.size ≤ w5.heap.size := hb5.size
  have hB6 : Below w.heap.size w w5 := hB4.trans (hb5.mono hB4.size)
  clear hB4
  clear hb5
  clear ho2
  go_wp2_with fail
  refine (toEnX _ l0 _ HS0.out (HR0.out _ hB6)).mono ?_
  rintro e w7 ⟨z0, rfl, hOX0, hb7⟩
  have hz8 : w5.heap.size ≤ w7.heap.size := hb7.size
  have hB8 : Below w.heap.size w w7 := hB6.trans (hb7.mono hB6.size)
  have hOW0_8 := hOW0.below hb7
  clear hB6 hOW0
  clear hb7
  go_wp2_with fail
  refine (IC.out _ _ HS0.out hOX0.rd).mono ?_
  rintro e w9 ⟨uG0, rfl, hOG0, hb9⟩
  have hz10 : w7.heap.size ≤ w9.heap.size := hb9.size
  have hB10 : Below w.heap.size w w9 := hB8.trans (hb9.mono hB8.size)
  have hOW0_10 := hOW0_8.below hb9
  have hOX0_10 := hOX0.below hb9
  clear hB8 hOW0_8 hOX0
  clear hb9
  go_wp2_with fail
  refine (eqEnX _ _ E0 _ (Nat.le_trans HG0.out (by omega)) hOG0.rd hOW0_10.rd).mono ?_
  rintro e w11 ⟨rfl, hb11⟩
  have hz12 : w9.heap.size ≤ w11.heap.size := hb11.size
  have hB12 : Below w.heap.size w w11 := hB10.trans (hb11.mono hB10.size)
  have hOW0_12 := hOW0_10.below hb11
  have hOX0_12 := hOX0_10.below hb11
  have hOG0_12 := hOG0.below hb11
  clear hB10 hOW0_10 hOX0_10 hOG0
  clear hb11
  go_wp2_with fail
  refine (toEnX _ l0 _ HS0.out (HR0.out _ hB12)).mono ?_
  rintro e w13 ⟨zq0, rfl, hoq, hb13⟩
  have hz14 : w11.heap.size ≤ w13.heap.size := hb13.size
  have hB14 : Below w.heap.size w w13 := hB12.trans (hb13.mono hB12.size)
  have hOW0_14 := hOW0_12.below hb13
  have hOX0_14 := hOX0_12.below hb13
  have hOG0_14 := hOG0_12.below hb13
  clear hB12 hOW0_12 hOX0_12 hOG0_12
  clear hb13
  go_wp2_with fail
  refine (eqEnX _ _ l0 _ (Nat.le_trans (szEn_len _) (Nat.le_trans HS0.out (by omega))) hOX0_14.rd hoq.rd).mono ?_
  rintro e w15 ⟨rfl, hb15⟩
  have hz16 : w13.heap.size ≤ w15.heap.size := hb15.size
  have hB16 : Below w.heap.size w w15 := hB14.trans (hb15.mono hB14.size)
  have hOW0_16 := hOW0_14.below hb15
  have hOX0_16 := hOX0_14.below hb15
  have hOG0_16 := hOG0_14.below hb15
  clear hB14 hOW0_14 hOX0_14 hOG0_14
  clear hoq hb15
  have hcb0 := (Nat.le_trans (szEn_len l0) HS0.out)
  have hcg0 := HG0.out
  go_wp2_with fail
  refine (markEnX _ _ _ (1) l0 _ (Nat.le_trans (szEn_len _) (Nat.le_trans HS0.out (by omega))) (by omega) (by omega) hOX0_16).mono ?_
  rintro e w17 ⟨rfl, hMX0, hb17⟩
  have hz18 : w15.heap.size ≤ w17.heap.size := hb17.size
  have hB18 : Below w.heap.size w w17 := hB16.trans (hb17.below hB16.size (fun j hj => by omega))
  have hOW0_18 := hOW0_16.only hb17 (fun j h1 h2 hj => by omega)
  have hOG0_18 := hOG0_16.only hb17 (fun j h1 h2 hj => by omega)
  clear hB16 hOW0_16 hOG0_16
  clear hb17 hOX0_16
  have hkq : ¬ ((1 + 2 * l0.length : Nat) : Int) < 0 := by omega
  go_wp2_with fail
  refine (eqEnX _ _ E0 _ (Nat.le_trans HG0.out (by omega)) hOG0_18.rd hOW0_18.rd).mono ?_
  rintro e w19 ⟨rfl, hb19⟩
  have hz20 : w17.heap.size ≤ w19.heap.size := hb19.size
  have hB20 : Below w.heap.size w w19 := hB18.trans (hb19.mono hB18.size)
  have hOW0_20 := hOW0_18.below hb19
  have hOX0_20 := hMX0.below hb19
  have hOG0_20 := hOG0_18.below hb19
  clear hB18 hOW0_18 hMX0 hOG0_18
  clear hb19
  go_wp2_with fail
  refine (markEnX _ _ _ (1) E0 _ (Nat.le_trans HG0.out (by omega)) (by omega) (by omega) hOG0_20).mono ?_
  rintro e w21 ⟨rfl, hMG0, hb21⟩
  have hz22 : w19.heap.size ≤ w21.heap.size := hb21.size
  have hB22 : Below w.heap.size w w21 := hB20.trans (hb21.below hB20.size (fun j hj => by omega))
  have hOW0_22 := hOW0_20.only hb21 (fun j h1 h2 hj => by omega)
  clear hB20 hOW0_20
  clear hb21 hOG0_20
  have hmq : ¬ ((1 + 2 * E0.length : Nat) : Int) < 0 := by omega
  go_wp2_with fail
  refine (heldEnX _ _ _ (1) E0 _ (Nat.le_trans HG0.out (by omega)) (by omega) hMG0).mono ?_
  rintro e w23 ⟨rfl, hb23⟩
  have hz24 : w21.heap.size ≤ w23.heap.size := hb23.size
  have hB24 : Below w.heap.size w w23 := hB22.trans (hb23.mono hB22.size)
  have hOW0_24 := hOW0_22.below hb23
  have hOG0_24 := hMG0.below hb23
  clear hB22 hOW0_22 hMG0
  clear hb23
  go_wp2_with fail
  refine (toEnX _ l0 _ HS0.out (HR0.out _ hB24)).mono ?_
  rintro e w25 ⟨x7, rfl, ho7, hb25⟩
  have hz26 : w23.heap.size ≤ w25.heap.size := hb25.size
  have hB26 : Below w.heap.size w w25 := hB24.trans (hb25.mono hB24.size)
  have hOW0_26 := hOW0_24.below hb25
  have hOG0_26 := hOG0_24.below hb25
  clear hB24 hOW0_24 hOG0_24
  clear hb25
  go_wp2_with fail
  refine (IC.out _ _ HS0.out ho7.rd).mono ?_
  rintro e w27 ⟨uH0, rfl, hOH0, hb27⟩
  have hz28 : w25.heap.size ≤ w27.heap.size := hb27.size
  have hB28 : Below w.heap.size w w27 := hB26.trans (hb27.mono hB26.size)
  have hOW0_28 := hOW0_26.below hb27
  have hOG0_28 := hOG0_26.below hb27
  clear hB26 hOW0_26 hOG0_26
  clear hb27
  clear ho7
  go_wp2_with fail
  refine (eqEnX _ _ E0 _ (Nat.le_trans HG0.out (by omega)) hOH0.rd hOW0_28.rd).mono ?_
  rintro e w29 ⟨rfl, hb29⟩
  have hz30 : w27.heap.size ≤ w29.heap.size := hb29.size
  have hB30 : Below w.heap.size w w29 := hB28.trans (hb29.mono hB28.size)
  have hOW0_30 := hOW0_28.below hb29
  have hOG0_30 := hOG0_28.below hb29
  have hOH0_30 := hOH0.below hb29
  clear hB28 hOW0_28 hOG0_28 hOH0
  clear hb29
  go_wp2_with fail
  refine (heldEnX _ _ _ (1) E0 _ (Nat.le_trans HG0.out (by omega)) (by omega) hOG0_30).mono ?_
  rintro e w31 ⟨rfl, hb31⟩
  have hz32 : w29.heap.size ≤ w31.heap.size := hb31.size
  have hB32 : Below w.heap.size w w31 := hB30.trans (hb31.mono hB30.size)
  have hOW0_32 := hOW0_30.below hb31
  have hOG0_32 := hOG0_30.below hb31
  clear hB30 hOW0_30 hOG0_30
  clear hb31
  go_wp2
  go_ret
  exact ⟨rfl, hB32⟩

set_option maxRecDepth 100000 in
theorem lifted (os : Os) (started : os.Started) (H : Type) (enc : TypeId × Value → H) :
    ReturnsInHanded {} Try.checked os 7 .any (Rows.fnExactDirDropSpec.pre6 enc Try.prog Try.f7 Rows.fnExactDirDropRow.domain false) (Rows.fnExactDirDropSpec.post enc Try.prog Try.f7 false true false false) := by
  refine returnsInHanded_of_change (C := Try.checked) own started (by kernel_rfl) Try.func7
    (ChangeSpec.witness6 (enc := enc) (C := Try.checked) false ⟨#[], #[.slice none 0 0, .string ByteArray.empty], []⟩ 8 (by kernel_rfl) (by kernel_rfl) (by kernel_rfl) (by kernel_rfl)) ?_
  intro W base args ds gs before hval0 hW hcnd _
  have hval : ∀ (j : Nat) t v, Try.f7.params[j]? = some t → args[j]? = some v → Value.okWide Try.prog W .any base t v := hval0
  have hW' := hW
  obtain ⟨p, q, hA0, hV, rfl, hfz, hnd⟩ := hW
  have hA : DataW.TrodAll enc Try.prog W 0 (fun _ => true) true Try.f7.params.toList args.toList ds p := hA0
  rw [Try.params7] at hA hval
  obtain ⟨v0, vs0, d0, ds0, p0, q0, hargs, rfl, rfl, h0, rr0⟩ := trodAll_cons hA
  obtain ⟨v1, vs1, d1, ds1, p1, q1, rfl, rfl, rfl, h1, rr1⟩ := trodAll_cons rr0
  obtain ⟨rfl, rfl, rfl⟩ := trodAll_nil rr1
  obtain rfl : args = #[v0, v1] := by cases args; simp_all
  obtain ⟨rfl, rfl⟩ := trodVars_none hV
  have k0 := h0
  have lt0 : ∀ x ∈ p0, x.block < W.heap.size := by obtain ⟨m, hm⟩ := k0; exact DataW.trod_lt m _ _ _ hm
  have k1 := h1
  have lt1 : ∀ x ∈ p1, x.block < W.heap.size := by obtain ⟨m, hm⟩ := k1; exact DataW.trod_lt m _ _ _ hm
  obtain ⟨a0, c0, l0, rfl, f0, cc0, r0⟩ := open_Entries (hval 0 22 v0 rfl rfl) h0
  obtain ⟨a1, rfl, rfl, rfl, w1⟩ := open_string Try.underlying9 (hval 1 9 v1 rfl rfl) h1
  clear hA0 hval0
  refine (walk a0 c0 l0 f0 cc0 a1 w1 W r0).mono fun e W' ⟨he, bel⟩ => ?_
  subst he
  exact ⟨_, rfl, _, _, _, [], _, [], hW', trodAll_mk1 (shut_bool Try.underlying4 _), (trodAll_cons_mk (Below.trod laidOut (by kernel_rfl) (of_decide_eq_true (by kernel_rfl)) k0 bel lt0) (trodAll_cons_mk (Below.trod laidOut (by kernel_rfl) (of_decide_eq_true (by kernel_rfl)) k1 bel lt1) trodAll_mk0)), rfl, bel.frame _, fun h => by cases h⟩

theorem over : Rows.fnExactDirDropRow.holds Try.pinned (OpenSpec.ofChange Rows.fnExactDirDropSpec) :=
  OpenClaim.holds_of_wide 7 Try.f7 rfl rfl rfl rfl rfl rfl rfl ⟨rfl, rfl, rfl, rfl, rfl⟩ rfl rfl rfl rfl rfl (by kernel_rfl) Try.func7 (by kernel_rfl)
    (of_decide_eq_true (by kernel_rfl)) (by unfold Func.isWrapper; first | (rw [if_pos (by decide +kernel)]; kernel_rfl) | (rw [if_neg (by decide +kernel)]; exact ⟨rfl, rfl⟩))
    (fun os started H enc _ => lifted os started H enc)

theorem proved : Rows.FnExactDirDropSaid := over
#print axioms proved
end Go.Proofs.Ytogpgocldgdeaaa.fnExactDirDrop
