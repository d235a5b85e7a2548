/-
  For every tree and path the law FnExactTreeGet returns true, and what came in reads behind the call as it read before: no condition.
-/
import Derived.Test.YtmnngfaelanbcaaITreeGW
import Derived.Deep.RegionHeld3
import Derived.Test.YtmnngfaelanbcaaRows
import Derived.WalkKit
import Derived.ProofKit
import Derived.OpenShut
import Derived.ShutString
import Derived.ChangeOld
import Derived.Below
namespace Go.Proofs.Ytmnngfaelanbcaa.fnExactTreeGet
open Go.ChangeShapes Go.WideShapes Go.ChangeAt Go.RowKit
open Go.ChangeMaps (open_string shut_string)
set_option linter.unusedVariables false

theorem own : ownKnob Try.prog.godebug = none := by kernel_rfl
theorem laidOut : laidOutB Try.prog = true := by kernel_rfl

set_option maxRecDepth 20000 in
set_option maxHeartbeats 8000000 in
theorem walk (v0 : Value) (l0 : List ItD) (f0 : FitTr l0) (a1 : ByteArray) (w1 : a1.size ≤ maxLen) (w : World) (r0 : RdTr w v0 l0) :
    Calls Try.prog 4 #[v0, .string a1] w fun e w' => e = .returned (.bool true) ∧ Below w.heap.size w w' := by
  obtain ⟨a0, c0, rfl⟩ := r0.lay
  have HR0 : Hid (∀ W, Below w.heap.size w W → RdTr W (.agg #[.slice a0 l0.length c0]) l0) := fun W h => r0.below h (Nat.le_refl _)
  have HF0 : Hid (FitTr l0) := f0
  clear r0 f0
  by_cases hbs1 : 1048576 < a1.size
  · go_enter Try.func4, Try.ntmps4
    go_wp2
    go_ret
    exact ⟨rfl, (below1 _ _)⟩
  have hst1 : a1.size ≤ 1048576 := by omega
  obtain ⟨E0, HE0⟩ : ∃ x, Hid (itAt l0 a1 = x) := ⟨_, rfl⟩
  obtain ⟨E1, HE1⟩ : ∃ x, Hid (itIs l0 a1 = x) := ⟨_, rfl⟩
  have HG0 : Hid (True) := trivial
  have SC : Hid (∀ v0 W, szIt l0 ≤ 1048576 → RdTr W v0 l0 → Calls Try.prog 12 #[v0, .string a1] W fun e w' => ∃ u0, e = .returned (.tuple #[u0, .bool E1]) ∧ OwnIt1 w' W.heap.size w'.heap.size u0 E0 ∧ Below W.heap.size W w') := by
    intro v0 W hs0 hv0
    rw [← HE0.out]
    rw [← HE1.out]
    exact specTreeGetX v0 l0 a1 W hs0 hst1 hv0
  have IC : Hid (∀ v0 W, szIt l0 ≤ 1048576 → RdTr W v0 l0 → Calls Try.prog 13 #[v0, .string a1] W fun e w' => ∃ u0, e = .returned (.tuple #[u0, .bool E1]) ∧ OwnIt1 w' W.heap.size w'.heap.size u0 E0 ∧ Below W.heap.size W w') := by
    intro v0 W hs0 hv0
    rw [← HE0.out]
    rw [← HE1.out]
    exact implTreeGetX v0 l0 a1 W hs0 hst1 hv0
  clear HE0
  clear HE1
  go_enter Try.func4, Try.ntmps4
  go_wp2_with fail
  refine (szTrW _ l0 1048576 _ (by omega) (by omega) HF0.out (HR0.out _ (below1 _ _))).mono ?_
  rintro e w1 ⟨s0, rfl, hsz0, s0ge, s0le, hb1⟩
  have hVA0 : Var w1 w.heap.size #[.slice a0 l0.length c0] 24 := (Var.made w _ _).new hb1
  have hz0 : w.heap.size + 1 ≤ w1.heap.size := by have := hb1.size; simpa using this
  have hB0 : Below w.heap.size w w1 := (below1 w _).trans (hb1.mono (by simp))
  by_cases hneg0 : s0 < 0
  · clear hsz0
    go_wp2
    go_ret
    exact ⟨rfl, hB0⟩
  have HS0 : Hid (szIt l0 ≤ 1048576) := by have := hsz0 (by omega); show szIt l0 ≤ 1048576; omega
  clear hsz0 hb1
  have yA00 := hVA0.cell 0
  simp at yA00
  go_wp2_with fail
  refine (toTrW _ l0 _ HS0.out (HR0.out _ hB0)).mono ?_
  rintro e w2 ⟨x2, rfl, ho2, hb2⟩
  clear yA00
  have hz3 : w1.heap.size ≤ w2.heap.size := hb2.size
  have hB3 : Below w.heap.size w w2 := hB0.trans (hb2.mono hB0.size)
  have hVA0_3 : Var w2 w.heap.size #[.slice a0 l0.length c0] 24 := hVA0.new hb2
  clear hB0 hVA0
  clear hb2
  go_wp2_with fail
  refine (SC.out _ _ HS0.out ho2.rd).mono ?_
  rintro e w4 ⟨uW0, rfl, hOW0, hb4⟩
  have hz5 : w2.heap.size ≤ w4.heap.size := hb4.size
  have hB5 : Below w.heap.size w w4 := hB3.trans (hb4.mono hB3.size)
  have hVA0_5 : Var w4 w.heap.size #[.slice a0 l0.length c0] 24 := hVA0_3.new hb4
  clear hB3 hVA0_3
  clear hb4
  obtain ⟨unW0, rfl⟩ := hOW0.lay
  clear ho2
  have hsz6 : (w4.alloc (.cells #[.string E0.p, .int .i64 E0.k, .string E0.d, .int .i64 E0.t] 34)).heap.size = w4.heap.size + 1 := by simp
  have hz7 : w4.heap.size ≤ (w4.alloc (.cells #[.string E0.p, .int .i64 E0.k, .string E0.d, .int .i64 E0.t] 34)).heap.size := (below1 w4 (.cells #[.string E0.p, .int .i64 E0.k, .string E0.d, .int .i64 E0.t] 34)).size
  have hB7 : Below w.heap.size w (w4.alloc (.cells #[.string E0.p, .int .i64 E0.k, .string E0.d, .int .i64 E0.t] 34)) := hB5.trans ((below1 w4 (.cells #[.string E0.p, .int .i64 E0.k, .string E0.d, .int .i64 E0.t] 34)).mono hB5.size)
  have hVA0_7 : Var (w4.alloc (.cells #[.string E0.p, .int .i64 E0.k, .string E0.d, .int .i64 E0.t] 34)) w.heap.size #[.slice a0 l0.length c0] 24 := hVA0_5.new (below1 w4 (.cells #[.string E0.p, .int .i64 E0.k, .string E0.d, .int .i64 E0.t] 34))
  have hOW0_7 := hOW0.below (below1 w4 (.cells #[.string E0.p, .int .i64 E0.k, .string E0.d, .int .i64 E0.t] 34))
  clear hB5 hVA0_5 hOW0
  have hVW0 : Var (w4.alloc (.cells #[.string E0.p, .int .i64 E0.k, .string E0.d, .int .i64 E0.t] 34)) w4.heap.size #[.string E0.p, .int .i64 E0.k, .string E0.d, .int .i64 E0.t] 34 := Var.made w4 _ _
  have yA00 := hVA0_7.cell 0
  simp at yA00
  go_wp2_with fail
  refine (toTrW _ l0 _ HS0.out (HR0.out _ hB7)).mono ?_
  rintro e w8 ⟨z0, rfl, hOX0, hb8⟩
  clear yA00
  have hz9 : (w4.alloc (.cells #[.string E0.p, .int .i64 E0.k, .string E0.d, .int .i64 E0.t] 34)).heap.size ≤ w8.heap.size := hb8.size
  have hB9 : Below w.heap.size w w8 := hB7.trans (hb8.mono hB7.size)
  have hVA0_9 : Var w8 w.heap.size #[.slice a0 l0.length c0] 24 := hVA0_7.new hb8
  have hVW0_9 : Var w8 w4.heap.size #[.string E0.p, .int .i64 E0.k, .string E0.d, .int .i64 E0.t] 34 := hVW0.new hb8
  have hOW0_9 := hOW0_7.below hb8
  clear hB7 hVA0_7 hVW0 hOW0_7
  clear hb8
  obtain ⟨aX0, cX0, rfl⟩ := hOX0.lay
  have hsz10 : (w8.alloc (.cells #[.slice aX0 l0.length cX0] 29)).heap.size = w8.heap.size + 1 := by simp
  have hz11 : w8.heap.size ≤ (w8.alloc (.cells #[.slice aX0 l0.length cX0] 29)).heap.size := (below1 w8 (.cells #[.slice aX0 l0.length cX0] 29)).size
  have hB11 : Below w.heap.size w (w8.alloc (.cells #[.slice aX0 l0.length cX0] 29)) := hB9.trans ((below1 w8 (.cells #[.slice aX0 l0.length cX0] 29)).mono hB9.size)
  have hVA0_11 : Var (w8.alloc (.cells #[.slice aX0 l0.length cX0] 29)) w.heap.size #[.slice a0 l0.length c0] 24 := hVA0_9.new (below1 w8 (.cells #[.slice aX0 l0.length cX0] 29))
  have hVW0_11 : Var (w8.alloc (.cells #[.slice aX0 l0.length cX0] 29)) w4.heap.size #[.string E0.p, .int .i64 E0.k, .string E0.d, .int .i64 E0.t] 34 := hVW0_9.new (below1 w8 (.cells #[.slice aX0 l0.length cX0] 29))
  have hOW0_11 := hOW0_9.below (below1 w8 (.cells #[.slice aX0 l0.length cX0] 29))
  have hOX0_11 := hOX0.below (below1 w8 (.cells #[.slice aX0 l0.length cX0] 29))
  clear hB9 hVA0_9 hVW0_9 hOW0_9 hOX0
  have hVX0 : Var (w8.alloc (.cells #[.slice aX0 l0.length cX0] 29)) w8.heap.size #[.slice aX0 l0.length cX0] 29 := Var.made w8 _ _
  have yX00 := hVX0.cell 0
  simp at yX00
  go_wp2_with fail
  refine (IC.out _ _ HS0.out hOX0_11.rd).mono ?_
  rintro e w12 ⟨uG0, rfl, hOG0, hb12⟩
  clear yX00
  have hz13 : (w8.alloc (.cells #[.slice aX0 l0.length cX0] 29)).heap.size ≤ w12.heap.size := hb12.size
  have hB13 : Below w.heap.size w w12 := hB11.trans (hb12.mono hB11.size)
  have hVA0_13 : Var w12 w.heap.size #[.slice a0 l0.length c0] 24 := hVA0_11.new hb12
  have hVW0_13 : Var w12 w4.heap.size #[.string E0.p, .int .i64 E0.k, .string E0.d, .int .i64 E0.t] 34 := hVW0_11.new hb12
  have hVX0_13 : Var w12 w8.heap.size #[.slice aX0 l0.length cX0] 29 := hVX0.new hb12
  have hOW0_13 := hOW0_11.below hb12
  have hOX0_13 := hOX0_11.below hb12
  clear hB11 hVA0_11 hVW0_11 hVX0 hOW0_11 hOX0_11
  clear hb12
  obtain ⟨unG0, rfl⟩ := hOG0.lay
  have hsz14 : (w12.alloc (.cells #[.string E0.p, .int .i64 E0.k, .string E0.d, .int .i64 E0.t] 34)).heap.size = w12.heap.size + 1 := by simp
  have hz15 : w12.heap.size ≤ (w12.alloc (.cells #[.string E0.p, .int .i64 E0.k, .string E0.d, .int .i64 E0.t] 34)).heap.size := (below1 w12 (.cells #[.string E0.p, .int .i64 E0.k, .string E0.d, .int .i64 E0.t] 34)).size
  have hB15 : Below w.heap.size w (w12.alloc (.cells #[.string E0.p, .int .i64 E0.k, .string E0.d, .int .i64 E0.t] 34)) := hB13.trans ((below1 w12 (.cells #[.string E0.p, .int .i64 E0.k, .string E0.d, .int .i64 E0.t] 34)).mono hB13.size)
  have hVA0_15 : Var (w12.alloc (.cells #[.string E0.p, .int .i64 E0.k, .string E0.d, .int .i64 E0.t] 34)) w.heap.size #[.slice a0 l0.length c0] 24 := hVA0_13.new (below1 w12 (.cells #[.string E0.p, .int .i64 E0.k, .string E0.d, .int .i64 E0.t] 34))
  have hVW0_15 : Var (w12.alloc (.cells #[.string E0.p, .int .i64 E0.k, .string E0.d, .int .i64 E0.t] 34)) w4.heap.size #[.string E0.p, .int .i64 E0.k, .string E0.d, .int .i64 E0.t] 34 := hVW0_13.new (below1 w12 (.cells #[.string E0.p, .int .i64 E0.k, .string E0.d, .int .i64 E0.t] 34))
  have hVX0_15 : Var (w12.alloc (.cells #[.string E0.p, .int .i64 E0.k, .string E0.d, .int .i64 E0.t] 34)) w8.heap.size #[.slice aX0 l0.length cX0] 29 := hVX0_13.new (below1 w12 (.cells #[.string E0.p, .int .i64 E0.k, .string E0.d, .int .i64 E0.t] 34))
  have hOW0_15 := hOW0_13.below (below1 w12 (.cells #[.string E0.p, .int .i64 E0.k, .string E0.d, .int .i64 E0.t] 34))
  have hOX0_15 := hOX0_13.below (below1 w12 (.cells #[.string E0.p, .int .i64 E0.k, .string E0.d, .int .i64 E0.t] 34))
  have hOG0_15 := hOG0.below (below1 w12 (.cells #[.string E0.p, .int .i64 E0.k, .string E0.d, .int .i64 E0.t] 34))
  clear hB13 hVA0_13 hVW0_13 hVX0_13 hOW0_13 hOX0_13 hOG0
  have hVG0 : Var (w12.alloc (.cells #[.string E0.p, .int .i64 E0.k, .string E0.d, .int .i64 E0.t] 34)) w12.heap.size #[.string E0.p, .int .i64 E0.k, .string E0.d, .int .i64 E0.t] 34 := Var.made w12 _ _
  have yG00 := hVG0.cell 0
  have yG01 := hVG0.cell 1
  have yG02 := hVG0.cell 2
  have yG03 := hVG0.cell 3
  simp at yG00 yG01 yG02 yG03
  have yW00 := hVW0_15.cell 0
  have yW01 := hVW0_15.cell 1
  have yW02 := hVW0_15.cell 2
  have yW03 := hVW0_15.cell 3
  simp at yW00 yW01 yW02 yW03
  go_wp2_with fail
  refine (eqIt1 _ _ E0 _ trivial hOG0_15.rd hOW0_15.rd).mono ?_
  rintro e w16 ⟨rfl, hb16⟩
  clear yG00 yG01 yG02 yG03 yW00 yW01 yW02 yW03
  have hz17 : (w12.alloc (.cells #[.string E0.p, .int .i64 E0.k, .string E0.d, .int .i64 E0.t] 34)).heap.size ≤ w16.heap.size := hb16.size
  have hB17 : Below w.heap.size w w16 := hB15.trans (hb16.mono hB15.size)
  have hVA0_17 : Var w16 w.heap.size #[.slice a0 l0.length c0] 24 := hVA0_15.new hb16
  have hVW0_17 : Var w16 w4.heap.size #[.string E0.p, .int .i64 E0.k, .string E0.d, .int .i64 E0.t] 34 := hVW0_15.new hb16
  have hVX0_17 : Var w16 w8.heap.size #[.slice aX0 l0.length cX0] 29 := hVX0_15.new hb16
  have hVG0_17 : Var w16 w12.heap.size #[.string E0.p, .int .i64 E0.k, .string E0.d, .int .i64 E0.t] 34 := hVG0.new hb16
  have hOW0_17 := hOW0_15.below hb16
  have hOX0_17 := hOX0_15.below hb16
  have hOG0_17 := hOG0_15.below hb16
  clear hB15 hVA0_15 hVW0_15 hVX0_15 hVG0 hOW0_15 hOX0_15 hOG0_15
  clear hb16
  have yX00 := hVX0_17.cell 0
  simp at yX00
  have yA00 := hVA0_17.cell 0
  simp at yA00
  have HVX : Hid (Var w16 w8.heap.size #[.slice aX0 l0.length cX0] 29) := hVX0_17
  have HRX : Hid (RdTr w16 (.agg #[.slice aX0 l0.length cX0]) l0) := hOX0_17.rd
  have HVG : Hid (Var w16 w.heap.size #[.slice a0 l0.length c0] 24) := hVA0_17
  have HT6 : Hid (Calls Try.prog 9 #[(.agg #[.slice a0 l0.length c0])] w16.drew fun e w' => ∃ v', e = .returned v' ∧ OwnTr w' w16.heap.size w'.heap.size v' l0 ∧ Below w16.heap.size w16 w') := by
    refine (toTrW _ l0 w16.drew HS0.out (HR0.out _ hB17.drew)).mono ?_
    rintro e w' ⟨v', rfl, h1, h2⟩
    exact ⟨v', rfl, h1, ⟨h2.os, h2.tape, h2.output, h2.size, h2.block⟩⟩
  go_wp2_with fail
  go_region_held3 (fun W => W.cell? ⟨w8.heap.size, 0, none⟩ = some (.slice aX0 l0.length cX0) ∧ W.cell? ⟨w.heap.size, 0, none⟩ = some (.slice a0 l0.length c0)) (go_keep) (first
    | (go_at_call 9
       refine HT6.out.mono ?_
       rintro e w18a ⟨x6, rfl, ho6, hbp⟩
       obtain ⟨hu0, hu1⟩ : w18a.cell? ⟨w8.heap.size, 0, none⟩ = some (.slice aX0 l0.length cX0) ∧ w18a.cell? ⟨w.heap.size, 0, none⟩ = some (.slice a0 l0.length c0) := ⟨(HVX.out.new hbp).cell 0, (HVG.out.new hbp).cell 0⟩
       skip)
    | (go_at_call 11
       refine (eqTrW _ x6 l0 _ (Nat.le_trans (szIt_len _) (Nat.le_trans HS0.out (by omega))) (HRX.out.below hbp (Nat.le_refl _)) ho6.rd).mono ?_
       rintro e w18 ⟨rfl, hbq⟩
       have hbJ : Below w16.heap.size w16 w18 := hbp.trans (hbq.mono hbp.size)
       obtain ⟨hv0, hv1⟩ : w18.cell? ⟨w8.heap.size, 0, none⟩ = some (.slice aX0 l0.length cX0) ∧ w18.cell? ⟨w.heap.size, 0, none⟩ = some (.slice a0 l0.length c0) := ⟨(HVX.out.new hbJ).cell 0, (HVG.out.new hbJ).cell 0⟩
       clear hu0 hu1 ho6 hbp hbq))
  all_goals
    clear HVX HVG HRX HT6 hv0 hv1 yX00 yA00
    have hz19 : w16.heap.size ≤ w18.heap.size := hbJ.size
    have hB19 : Below w.heap.size w w18 := hB17.trans (hbJ.mono hB17.size)
    have hVA0_19 : Var w18 w.heap.size #[.slice a0 l0.length c0] 24 := hVA0_17.new hbJ
    have hVW0_19 : Var w18 w4.heap.size #[.string E0.p, .int .i64 E0.k, .string E0.d, .int .i64 E0.t] 34 := hVW0_17.new hbJ
    have hVX0_19 : Var w18 w8.heap.size #[.slice aX0 l0.length cX0] 29 := hVX0_17.new hbJ
    have hVG0_19 : Var w18 w12.heap.size #[.string E0.p, .int .i64 E0.k, .string E0.d, .int .i64 E0.t] 34 := hVG0_17.new hbJ
    have hOW0_19 := hOW0_17.below hbJ
    have hOX0_19 := hOX0_17.below hbJ
    have hOG0_19 := hOG0_17.below hbJ
    clear hB17 hVA0_17 hVW0_17 hVX0_17 hVG0_17 hOW0_17 hOX0_17 hOG0_17
    clear hbJ
    have hcb0 := (Nat.le_trans (szIt_len l0) HS0.out)
    have hcg0 := HG0.out
    go_wp2
    go_ret
    exact ⟨rfl, hB19⟩

set_option maxRecDepth 100000 in
theorem lifted (os : Os) (started : os.Started) (H : Type) (enc : TypeId × Value → H) :
    ReturnsInHanded {} Try.checked os 4 .any (Rows.fnExactTreeGetSpec.pre6 enc Try.prog Try.f4 Rows.fnExactTreeGetRow.domain false) (Rows.fnExactTreeGetSpec.post enc Try.prog Try.f4 false true false false) := by
  refine returnsInHanded_of_change (C := Try.checked) own started (by kernel_rfl) Try.func4
    (ChangeSpec.witness6 (enc := enc) (C := Try.checked) false ⟨#[], #[.agg #[.slice none 0 0], .string ByteArray.empty], []⟩ 8 (by kernel_rfl) (by kernel_rfl) (by kernel_rfl) (by kernel_rfl)) ?_
  intro W base args ds gs before hval0 hW hcnd _
  have hval : ∀ (j : Nat) t v, Try.f4.params[j]? = some t → args[j]? = some v → Value.okWide Try.prog W .any base t v := hval0
  have hW' := hW
  obtain ⟨p, q, hA0, hV, rfl, hfz, hnd⟩ := hW
  have hA : DataW.TrodAll enc Try.prog W 0 (fun _ => true) true Try.f4.params.toList args.toList ds p := hA0
  rw [Try.params4] at hA hval
  obtain ⟨v0, vs0, d0, ds0, p0, q0, hargs, rfl, rfl, h0, rr0⟩ := trodAll_cons hA
  obtain ⟨v1, vs1, d1, ds1, p1, q1, rfl, rfl, rfl, h1, rr1⟩ := trodAll_cons rr0
  obtain ⟨rfl, rfl, rfl⟩ := trodAll_nil rr1
  obtain rfl : args = #[v0, v1] := by cases args; simp_all
  obtain ⟨rfl, rfl⟩ := trodVars_none hV
  have k0 := h0
  have lt0 : ∀ x ∈ p0, x.block < W.heap.size := by obtain ⟨m, hm⟩ := k0; exact DataW.trod_lt m _ _ _ hm
  have k1 := h1
  have lt1 : ∀ x ∈ p1, x.block < W.heap.size := by obtain ⟨m, hm⟩ := k1; exact DataW.trod_lt m _ _ _ hm
  obtain ⟨l0, f0, r0⟩ := open_Tree (hval 0 24 v0 rfl rfl) h0
  obtain ⟨a1, rfl, rfl, rfl, w1⟩ := open_string Try.underlying9 (hval 1 9 v1 rfl rfl) h1
  clear hA0 hval0
  refine (walk v0 l0 f0 a1 w1 W r0).mono fun e W' ⟨he, bel⟩ => ?_
  subst he
  exact ⟨_, rfl, _, _, _, [], _, [], hW', trodAll_mk1 (shut_bool Try.underlying4 _), (trodAll_cons_mk (Below.trod laidOut (by kernel_rfl) (of_decide_eq_true (by kernel_rfl)) k0 bel lt0) (trodAll_cons_mk (Below.trod laidOut (by kernel_rfl) (of_decide_eq_true (by kernel_rfl)) k1 bel lt1) trodAll_mk0)), rfl, bel.frame _, fun h => by cases h⟩

theorem over : Rows.fnExactTreeGetRow.holds Try.pinned (OpenSpec.ofChange Rows.fnExactTreeGetSpec) :=
  OpenClaim.holds_of_wide 4 Try.f4 rfl rfl rfl rfl rfl rfl rfl ⟨rfl, rfl, rfl, rfl, rfl⟩ rfl rfl rfl rfl rfl (by kernel_rfl) Try.func4 (by kernel_rfl)
    (of_decide_eq_true (by kernel_rfl)) (by unfold Func.isWrapper; first | (rw [if_pos (by decide +kernel)]; kernel_rfl) | (rw [if_neg (by decide +kernel)]; exact ⟨rfl, rfl⟩))
    (fun os started H enc _ => lifted os started H enc)

theorem proved : Rows.FnExactTreeGetSaid := over
#print axioms proved
end Go.Proofs.Ytmnngfaelanbcaa.fnExactTreeGet
