/-
  For every two trees the law FnExactTreeSame returns true, and what came in reads behind the call as it read before: no condition.
-/
import Derived.Test.YtmnngfaelanbcaaTrSameW
import Derived.Deep.RegionHeld3
import Derived.Test.YtmnngfaelanbcaaRows
import Derived.WalkKit
import Derived.ProofKit
import Derived.OpenShut
import Derived.ShutString
import Derived.ChangeOld
import Derived.Below
namespace Go.Proofs.Ytmnngfaelanbcaa.fnExactTreeSame
open Go.ChangeShapes Go.WideShapes Go.ChangeAt Go.RowKit
open Go.ChangeMaps (open_string shut_string)
set_option linter.unusedVariables false

theorem own : ownKnob Try.prog.godebug = none := by kernel_rfl
theorem laidOut : laidOutB Try.prog = true := by kernel_rfl

set_option maxRecDepth 20000 in
set_option maxHeartbeats 8000000 in
theorem walk (v0 : Value) (l0 : List ItD) (f0 : FitTr l0) (v1 : Value) (l1 : List ItD) (f1 : FitTr l1) (w : World) (r0 : RdTr w v0 l0) (r1 : RdTr w v1 l1) :
    Calls Try.prog 6 #[v0, v1] w fun e w' => e = .returned (.bool true) ∧ Below w.heap.size w w' := by
  obtain ⟨a0, c0, rfl⟩ := r0.lay
  have HR0 : Hid (∀ W, Below w.heap.size w W → RdTr W (.agg #[.slice a0 l0.length c0]) l0) := fun W h => r0.below h (Nat.le_refl _)
  have HF0 : Hid (FitTr l0) := f0
  clear r0 f0
  obtain ⟨a1, c1, rfl⟩ := r1.lay
  have HR1 : Hid (∀ W, Below w.heap.size w W → RdTr W (.agg #[.slice a1 l1.length c1]) l1) := fun W h => r1.below h (Nat.le_refl _)
  have HF1 : Hid (FitTr l1) := f1
  clear r1 f1
  obtain ⟨E0, HE0⟩ : ∃ x, Hid (trSame l0 l1 = x) := ⟨_, rfl⟩
  have SC : Hid (∀ v0 v1 W, szIt l0 ≤ 1048576 → szIt l1 ≤ 1048576 → RdTr W v0 l0 → RdTr W v1 l1 → Calls Try.prog 21 #[v0, v1] W fun e w' => e = .returned (.bool E0) ∧ Below W.heap.size W w') := by
    intro v0 v1 W hs0 hs1 hv0 hv1
    rw [← HE0.out]
    exact specTreeSame v0 v1 l0 l1 W (Nat.le_trans (szIt_len _) hs0) (Nat.le_trans (szIt_len _) hs1) hv0 hv1
  have IC : Hid (∀ v0 v1 W, szIt l0 ≤ 1048576 → szIt l1 ≤ 1048576 → RdTr W v0 l0 → RdTr W v1 l1 → Calls Try.prog 22 #[v0, v1] W fun e w' => e = .returned (.bool E0) ∧ Below W.heap.size W w') := by
    intro v0 v1 W hs0 hs1 hv0 hv1
    rw [← HE0.out]
    exact implTreeSame v0 v1 l0 l1 W (Nat.le_trans (szIt_len _) hs0) (Nat.le_trans (szIt_len _) hs1) hv0 hv1
  clear HE0
  go_enter Try.func6, Try.ntmps6
  go_wp2_with fail
  refine (szTrW _ l0 1048576 _ (by omega) (by omega) HF0.out (HR0.out _ (below2 _ _ _))).mono ?_
  rintro e w1 ⟨s0, rfl, hsz0, s0ge, s0le, hb1⟩
  have hVA0 : Var w1 w.heap.size #[.slice a0 l0.length c0] 24 := ((Var.made w _ _).alloc _).new hb1
  have hVA1 : Var w1 (w.heap.size + 1) #[.slice a1 l1.length c1] 24 := (Var.made2 w _ _ _).new hb1
  have hz0 : w.heap.size + 2 ≤ w1.heap.size := by have := hb1.size; simpa using this
  have hB0 : Below w.heap.size w w1 := (below2 w _ _).trans (hb1.mono (by simp; omega))
  by_cases hneg0 : s0 < 0
  · clear hsz0
    go_wp2
    go_ret
    exact ⟨rfl, hB0⟩
  have HS0 : Hid (szIt l0 ≤ 1048576) := by have := hsz0 (by omega); show szIt l0 ≤ 1048576; omega
  clear hsz0 hb1
  have yA10 := hVA1.cell 0
  simp at yA10
  go_wp2_with fail
  refine (szTrW _ l1 s0 _ (by omega) (by omega) HF1.out (HR1.out _ hB0)).mono ?_
  rintro e w2 ⟨s1, rfl, hsz1, s1ge, s1le, hb2⟩
  clear yA10
  have hz3 : w1.heap.size ≤ w2.heap.size := hb2.size
  have hB3 : Below w.heap.size w w2 := hB0.trans (hb2.mono hB0.size)
  have hVA0_3 : Var w2 w.heap.size #[.slice a0 l0.length c0] 24 := hVA0.new hb2
  have hVA1_3 : Var w2 (w.heap.size + 1) #[.slice a1 l1.length c1] 24 := hVA1.new hb2
  clear hB0 hVA0 hVA1
  by_cases hneg1 : s1 < 0
  · clear hsz1
    go_wp2
    go_ret
    exact ⟨rfl, hB3⟩
  have HS1 : Hid (szIt l1 ≤ 1048576) := by have := hsz1 (by omega); show szIt l1 ≤ 1048576; omega
  clear hsz1 hb2
  have yA00 := hVA0_3.cell 0
  simp at yA00
  have yA10 := hVA1_3.cell 0
  simp at yA10
  have HVA0 : Hid (Var w2 w.heap.size #[.slice a0 l0.length c0] 24) := hVA0_3
  have HVA1 : Hid (Var w2 (w.heap.size + 1) #[.slice a1 l1.length c1] 24) := hVA1_3
  have HT6 : Hid (Calls Try.prog 9 #[(.agg #[.slice a0 l0.length c0])] w2.drew fun e w' => ∃ v', e = .returned v' ∧ OwnTr w' w2.heap.size w'.heap.size v' l0 ∧ Below w2.heap.size w2 w') := by
    refine (toTrW _ l0 w2.drew HS0.out (HR0.out _ hB3.drew)).mono ?_
    rintro e w' ⟨v', rfl, h1, h2⟩
    exact ⟨v', rfl, h1, ⟨h2.os, h2.tape, h2.output, h2.size, h2.block⟩⟩
  go_wp2_with fail
  go_region_held3 (fun W => W.cell? ⟨w.heap.size, 0, none⟩ = some (.slice a0 l0.length c0) ∧ W.cell? ⟨(w.heap.size + 1), 0, none⟩ = some (.slice a1 l1.length c1)) (go_keep) (first
    | (go_at_call 21
       refine (SC.out _ _ _ HS0.out HS1.out (hp6.rd.below hbq (Nat.le_refl _)) hq6.rd).mono ?_
       rintro e w4 ⟨rfl, hbr⟩
       have hzq : w2.heap.size ≤ w4b.heap.size := hbp2.size
       have hbJ : Below w2.heap.size w2 w4 := hbp2.trans (hbr.mono hbp2.size)
       obtain ⟨hv0, hv1⟩ : w4.cell? ⟨w.heap.size, 0, none⟩ = some (.slice a0 l0.length c0) ∧ w4.cell? ⟨(w.heap.size + 1), 0, none⟩ = some (.slice a1 l1.length c1) := ⟨(HVA0.out.new hbJ).cell 0, (HVA1.out.new hbJ).cell 0⟩
       clear hp6 hq6 hbp hbq hbr hbp2 ht0 ht1)
    | (go_at_call_of 9 (c1); 
       refine (toTrW _ l1 _ HS1.out (HR1.out _ (hB3.trans (hbp.mono hB3.size)))).mono ?_
       rintro e w4b ⟨x7, rfl, hq6, hbq⟩
       have hbp2 : Below w2.heap.size w2 w4b := hbp.trans (hbq.mono hbp.size)
       obtain ⟨ht0, ht1⟩ : w4b.cell? ⟨w.heap.size, 0, none⟩ = some (.slice a0 l0.length c0) ∧ w4b.cell? ⟨(w.heap.size + 1), 0, none⟩ = some (.slice a1 l1.length c1) := ⟨(HVA0.out.new hbp2).cell 0, (HVA1.out.new hbp2).cell 0⟩
       clear hu0 hu1)
    | (go_at_call 9
       refine HT6.out.mono ?_
       rintro e w4a ⟨x6, rfl, hp6, hbp⟩
       obtain ⟨hu0, hu1⟩ : w4a.cell? ⟨w.heap.size, 0, none⟩ = some (.slice a0 l0.length c0) ∧ w4a.cell? ⟨(w.heap.size + 1), 0, none⟩ = some (.slice a1 l1.length c1) := ⟨(HVA0.out.new hbp).cell 0, (HVA1.out.new hbp).cell 0⟩
       skip))
  all_goals
    clear HVA0 HVA1 HT6 hv0 hv1 yA00 yA10
    have hz5 : w2.heap.size ≤ w4.heap.size := hbJ.size
    have hB5 : Below w.heap.size w w4 := hB3.trans (hbJ.mono hB3.size)
    have hVA0_5 : Var w4 w.heap.size #[.slice a0 l0.length c0] 24 := hVA0_3.new hbJ
    have hVA1_5 : Var w4 (w.heap.size + 1) #[.slice a1 l1.length c1] 24 := hVA1_3.new hbJ
    clear hB3 hVA0_3 hVA1_3
    clear hbJ
    have yA00 := hVA0_5.cell 0
    simp at yA00
    go_wp2_with fail
    refine (toTrW _ l0 _ HS0.out (HR0.out _ hB5)).mono ?_
    rintro e w6 ⟨z0, rfl, hOX0, hb6⟩
    clear yA00
    have hz7 : w4.heap.size ≤ w6.heap.size := hb6.size
    have hB7 : Below w.heap.size w w6 := hB5.trans (hb6.mono hB5.size)
    have hVA0_7 : Var w6 w.heap.size #[.slice a0 l0.length c0] 24 := hVA0_5.new hb6
    have hVA1_7 : Var w6 (w.heap.size + 1) #[.slice a1 l1.length c1] 24 := hVA1_5.new hb6
    clear hB5 hVA0_5 hVA1_5
    clear hb6
    obtain ⟨aX0, cX0, rfl⟩ := hOX0.lay
    have hsz8 : (w6.alloc (.cells #[.slice aX0 l0.length cX0] 29)).heap.size = w6.heap.size + 1 := by simp
    have hz9 : w6.heap.size ≤ (w6.alloc (.cells #[.slice aX0 l0.length cX0] 29)).heap.size := (below1 w6 (.cells #[.slice aX0 l0.length cX0] 29)).size
    have hB9 : Below w.heap.size w (w6.alloc (.cells #[.slice aX0 l0.length cX0] 29)) := hB7.trans ((below1 w6 (.cells #[.slice aX0 l0.length cX0] 29)).mono hB7.size)
    have hVA0_9 : Var (w6.alloc (.cells #[.slice aX0 l0.length cX0] 29)) w.heap.size #[.slice a0 l0.length c0] 24 := hVA0_7.new (below1 w6 (.cells #[.slice aX0 l0.length cX0] 29))
    have hVA1_9 : Var (w6.alloc (.cells #[.slice aX0 l0.length cX0] 29)) (w.heap.size + 1) #[.slice a1 l1.length c1] 24 := hVA1_7.new (below1 w6 (.cells #[.slice aX0 l0.length cX0] 29))
    have hOX0_9 := hOX0.below (below1 w6 (.cells #[.slice aX0 l0.length cX0] 29))
    clear hB7 hVA0_7 hVA1_7 hOX0
    have hVX0 : Var (w6.alloc (.cells #[.slice aX0 l0.length cX0] 29)) w6.heap.size #[.slice aX0 l0.length cX0] 29 := Var.made w6 _ _
    have yA10 := hVA1_9.cell 0
    simp at yA10
    go_wp2_with fail
    refine (toTrW _ l1 _ HS1.out (HR1.out _ hB9)).mono ?_
    rintro e w10 ⟨z1, rfl, hOX1, hb10⟩
    clear yA10
    have hz11 : (w6.alloc (.cells #[.slice aX0 l0.length cX0] 29)).heap.size ≤ w10.heap.size := hb10.size
    have hB11 : Below w.heap.size w w10 := hB9.trans (hb10.mono hB9.size)
    have hVA0_11 : Var w10 w.heap.size #[.slice a0 l0.length c0] 24 := hVA0_9.new hb10
    have hVA1_11 : Var w10 (w.heap.size + 1) #[.slice a1 l1.length c1] 24 := hVA1_9.new hb10
    have hVX0_11 : Var w10 w6.heap.size #[.slice aX0 l0.length cX0] 29 := hVX0.new hb10
    have hOX0_11 := hOX0_9.below hb10
    clear hB9 hVA0_9 hVA1_9 hVX0 hOX0_9
    clear hb10
    obtain ⟨aX1, cX1, rfl⟩ := hOX1.lay
    have hsz12 : (w10.alloc (.cells #[.slice aX1 l1.length cX1] 29)).heap.size = w10.heap.size + 1 := by simp
    have hz13 : w10.heap.size ≤ (w10.alloc (.cells #[.slice aX1 l1.length cX1] 29)).heap.size := (below1 w10 (.cells #[.slice aX1 l1.length cX1] 29)).size
    have hB13 : Below w.heap.size w (w10.alloc (.cells #[.slice aX1 l1.length cX1] 29)) := hB11.trans ((below1 w10 (.cells #[.slice aX1 l1.length cX1] 29)).mono hB11.size)
    have hVA0_13 : Var (w10.alloc (.cells #[.slice aX1 l1.length cX1] 29)) w.heap.size #[.slice a0 l0.length c0] 24 := hVA0_11.new (below1 w10 (.cells #[.slice aX1 l1.length cX1] 29))
    have hVA1_13 : Var (w10.alloc (.cells #[.slice aX1 l1.length cX1] 29)) (w.heap.size + 1) #[.slice a1 l1.length c1] 24 := hVA1_11.new (below1 w10 (.cells #[.slice aX1 l1.length cX1] 29))
    have hVX0_13 : Var (w10.alloc (.cells #[.slice aX1 l1.length cX1] 29)) w6.heap.size #[.slice aX0 l0.length cX0] 29 := hVX0_11.new (below1 w10 (.cells #[.slice aX1 l1.length cX1] 29))
    have hOX0_13 := hOX0_11.below (below1 w10 (.cells #[.slice aX1 l1.length cX1] 29))
    have hOX1_13 := hOX1.below (below1 w10 (.cells #[.slice aX1 l1.length cX1] 29))
    clear hB11 hVA0_11 hVA1_11 hVX0_11 hOX0_11 hOX1
    have hVX1 : Var (w10.alloc (.cells #[.slice aX1 l1.length cX1] 29)) w10.heap.size #[.slice aX1 l1.length cX1] 29 := Var.made w10 _ _
    have yX00 := hVX0_13.cell 0
    simp at yX00
    have yX10 := hVX1.cell 0
    simp at yX10
    go_wp2_with fail
    refine (IC.out _ _ _ HS0.out HS1.out hOX0_13.rd hOX1_13.rd).mono ?_
    rintro e w14 ⟨rfl, hb14⟩
    clear yX00 yX10
    have hz15 : (w10.alloc (.cells #[.slice aX1 l1.length cX1] 29)).heap.size ≤ w14.heap.size := hb14.size
    have hB15 : Below w.heap.size w w14 := hB13.trans (hb14.mono hB13.size)
    have hVA0_15 : Var w14 w.heap.size #[.slice a0 l0.length c0] 24 := hVA0_13.new hb14
    have hVA1_15 : Var w14 (w.heap.size + 1) #[.slice a1 l1.length c1] 24 := hVA1_13.new hb14
    have hVX0_15 : Var w14 w6.heap.size #[.slice aX0 l0.length cX0] 29 := hVX0_13.new hb14
    have hVX1_15 : Var w14 w10.heap.size #[.slice aX1 l1.length cX1] 29 := hVX1.new hb14
    have hOX0_15 := hOX0_13.below hb14
    have hOX1_15 := hOX1_13.below hb14
    clear hB13 hVA0_13 hVA1_13 hVX0_13 hVX1 hOX0_13 hOX1_13
    clear hb14
    have yX00 := hVX0_15.cell 0
    simp at yX00
    have yA00 := hVA0_15.cell 0
    simp at yA00
    have HVX : Hid (Var w14 w6.heap.size #[.slice aX0 l0.length cX0] 29) := hVX0_15
    have HRX : Hid (RdTr w14 (.agg #[.slice aX0 l0.length cX0]) l0) := hOX0_15.rd
    have HVG : Hid (Var w14 w.heap.size #[.slice a0 l0.length c0] 24) := hVA0_15
    have HT6 : Hid (Calls Try.prog 9 #[(.agg #[.slice a0 l0.length c0])] w14.drew fun e w' => ∃ v', e = .returned v' ∧ OwnTr w' w14.heap.size w'.heap.size v' l0 ∧ Below w14.heap.size w14 w') := by
      refine (toTrW _ l0 w14.drew HS0.out (HR0.out _ hB15.drew)).mono ?_
      rintro e w' ⟨v', rfl, h1, h2⟩
      exact ⟨v', rfl, h1, ⟨h2.os, h2.tape, h2.output, h2.size, h2.block⟩⟩
    go_wp2_with fail
    go_region_held3 (fun W => W.cell? ⟨w6.heap.size, 0, none⟩ = some (.slice aX0 l0.length cX0) ∧ W.cell? ⟨w.heap.size, 0, none⟩ = some (.slice a0 l0.length c0)) (go_keep) (first
      | (go_at_call 9
         refine HT6.out.mono ?_
         rintro e w16a ⟨x6, rfl, ho6, hbp⟩
         obtain ⟨hu0, hu1⟩ : w16a.cell? ⟨w6.heap.size, 0, none⟩ = some (.slice aX0 l0.length cX0) ∧ w16a.cell? ⟨w.heap.size, 0, none⟩ = some (.slice a0 l0.length c0) := ⟨(HVX.out.new hbp).cell 0, (HVG.out.new hbp).cell 0⟩
         skip)
      | (go_at_call 11
         refine (eqTrW _ x6 l0 _ (Nat.le_trans (szIt_len _) (Nat.le_trans HS0.out (by omega))) (HRX.out.below hbp (Nat.le_refl _)) ho6.rd).mono ?_
         rintro e w16 ⟨rfl, hbq⟩
         have hbJ : Below w14.heap.size w14 w16 := hbp.trans (hbq.mono hbp.size)
         obtain ⟨hv0, hv1⟩ : w16.cell? ⟨w6.heap.size, 0, none⟩ = some (.slice aX0 l0.length cX0) ∧ w16.cell? ⟨w.heap.size, 0, none⟩ = some (.slice a0 l0.length c0) := ⟨(HVX.out.new hbJ).cell 0, (HVG.out.new hbJ).cell 0⟩
         clear hu0 hu1 ho6 hbp hbq))
    clear HVX HVG HRX HT6 hv0 hv1 yX00 yA00
    have hz17 : w14.heap.size ≤ w16.heap.size := hbJ.size
    have hB17 : Below w.heap.size w w16 := hB15.trans (hbJ.mono hB15.size)
    have hVA0_17 : Var w16 w.heap.size #[.slice a0 l0.length c0] 24 := hVA0_15.new hbJ
    have hVA1_17 : Var w16 (w.heap.size + 1) #[.slice a1 l1.length c1] 24 := hVA1_15.new hbJ
    have hVX0_17 : Var w16 w6.heap.size #[.slice aX0 l0.length cX0] 29 := hVX0_15.new hbJ
    have hVX1_17 : Var w16 w10.heap.size #[.slice aX1 l1.length cX1] 29 := hVX1_15.new hbJ
    have hOX0_17 := hOX0_15.below hbJ
    have hOX1_17 := hOX1_15.below hbJ
    clear hB15 hVA0_15 hVA1_15 hVX0_15 hVX1_15 hOX0_15 hOX1_15
    clear hbJ
    have yX10 := hVX1_17.cell 0
    simp at yX10
    have yA10 := hVA1_17.cell 0
    simp at yA10
    have HVX : Hid (Var w16 w10.heap.size #[.slice aX1 l1.length cX1] 29) := hVX1_17
    have HRX : Hid (RdTr w16 (.agg #[.slice aX1 l1.length cX1]) l1) := hOX1_17.rd
    have HVG : Hid (Var w16 (w.heap.size + 1) #[.slice a1 l1.length c1] 24) := hVA1_17
    have HT6 : Hid (Calls Try.prog 9 #[(.agg #[.slice a1 l1.length c1])] w16.drew fun e w' => ∃ v', e = .returned v' ∧ OwnTr w' w16.heap.size w'.heap.size v' l1 ∧ Below w16.heap.size w16 w') := by
      refine (toTrW _ l1 w16.drew HS1.out (HR1.out _ hB17.drew)).mono ?_
      rintro e w' ⟨v', rfl, h1, h2⟩
      exact ⟨v', rfl, h1, ⟨h2.os, h2.tape, h2.output, h2.size, h2.block⟩⟩
    go_wp2_with fail
    go_region_held3 (fun W => W.cell? ⟨w10.heap.size, 0, none⟩ = some (.slice aX1 l1.length cX1) ∧ W.cell? ⟨(w.heap.size + 1), 0, none⟩ = some (.slice a1 l1.length c1)) (go_keep) (first
      | (go_at_call 9
         refine HT6.out.mono ?_
         rintro e w18a ⟨x6, rfl, ho6, hbp⟩
         obtain ⟨hu0, hu1⟩ : w18a.cell? ⟨w10.heap.size, 0, none⟩ = some (.slice aX1 l1.length cX1) ∧ w18a.cell? ⟨(w.heap.size + 1), 0, none⟩ = some (.slice a1 l1.length c1) := ⟨(HVX.out.new hbp).cell 0, (HVG.out.new hbp).cell 0⟩
         skip)
      | (go_at_call 11
         refine (eqTrW _ x6 l1 _ (Nat.le_trans (szIt_len _) (Nat.le_trans HS1.out (by omega))) (HRX.out.below hbp (Nat.le_refl _)) ho6.rd).mono ?_
         rintro e w18 ⟨rfl, hbq⟩
         have hbJ : Below w16.heap.size w16 w18 := hbp.trans (hbq.mono hbp.size)
         obtain ⟨hv0, hv1⟩ : w18.cell? ⟨w10.heap.size, 0, none⟩ = some (.slice aX1 l1.length cX1) ∧ w18.cell? ⟨(w.heap.size + 1), 0, none⟩ = some (.slice a1 l1.length c1) := ⟨(HVX.out.new hbJ).cell 0, (HVG.out.new hbJ).cell 0⟩
         clear hu0 hu1 ho6 hbp hbq))
    clear HVX HVG HRX HT6 hv0 hv1 yX10 yA10
    have hz19 : w16.heap.size ≤ w18.heap.size := hbJ.size
    have hB19 : Below w.heap.size w w18 := hB17.trans (hbJ.mono hB17.size)
    have hVA0_19 : Var w18 w.heap.size #[.slice a0 l0.length c0] 24 := hVA0_17.new hbJ
    have hVA1_19 : Var w18 (w.heap.size + 1) #[.slice a1 l1.length c1] 24 := hVA1_17.new hbJ
    have hVX0_19 : Var w18 w6.heap.size #[.slice aX0 l0.length cX0] 29 := hVX0_17.new hbJ
    have hVX1_19 : Var w18 w10.heap.size #[.slice aX1 l1.length cX1] 29 := hVX1_17.new hbJ
    have hOX0_19 := hOX0_17.below hbJ
    have hOX1_19 := hOX1_17.below hbJ
    clear hB17 hVA0_17 hVA1_17 hVX0_17 hVX1_17 hOX0_17 hOX1_17
    clear hbJ
    have hcb0 := (Nat.le_trans (szIt_len l0) HS0.out)
    have hcb1 := (Nat.le_trans (szIt_len l1) HS1.out)
    go_wp2
    go_ret
    exact ⟨rfl, hB19⟩

set_option maxRecDepth 100000 in
theorem lifted (os : Os) (started : os.Started) (H : Type) (enc : TypeId × Value → H) :
    ReturnsInHanded {} Try.checked os 6 .any (Rows.fnExactTreeSameSpec.pre6 enc Try.prog Try.f6 Rows.fnExactTreeSameRow.domain false) (Rows.fnExactTreeSameSpec.post enc Try.prog Try.f6 false true false false) := by
  refine returnsInHanded_of_change (C := Try.checked) own started (by kernel_rfl) Try.func6
    (ChangeSpec.witness6 (enc := enc) (C := Try.checked) false ⟨#[], #[.agg #[.slice none 0 0], .agg #[.slice none 0 0]], []⟩ 8 (by kernel_rfl) (by kernel_rfl) (by kernel_rfl) (by kernel_rfl)) ?_
  intro W base args ds gs before hval0 hW hcnd _
  have hval : ∀ (j : Nat) t v, Try.f6.params[j]? = some t → args[j]? = some v → Value.okWide Try.prog W .any base t v := hval0
  have hW' := hW
  obtain ⟨p, q, hA0, hV, rfl, hfz, hnd⟩ := hW
  have hA : DataW.TrodAll enc Try.prog W 0 (fun _ => true) true Try.f6.params.toList args.toList ds p := hA0
  rw [Try.params6] at hA hval
  obtain ⟨v0, vs0, d0, ds0, p0, q0, hargs, rfl, rfl, h0, rr0⟩ := trodAll_cons hA
  obtain ⟨v1, vs1, d1, ds1, p1, q1, rfl, rfl, rfl, h1, rr1⟩ := trodAll_cons rr0
  obtain ⟨rfl, rfl, rfl⟩ := trodAll_nil rr1
  obtain rfl : args = #[v0, v1] := by cases args; simp_all
  obtain ⟨rfl, rfl⟩ := trodVars_none hV
  have k0 := h0
  have lt0 : ∀ x ∈ p0, x.block < W.heap.size := by obtain ⟨m, hm⟩ := k0; exact DataW.trod_lt m _ _ _ hm
  have k1 := h1
  have lt1 : ∀ x ∈ p1, x.block < W.heap.size := by obtain ⟨m, hm⟩ := k1; exact DataW.trod_lt m _ _ _ hm
  obtain ⟨l0, f0, r0⟩ := open_Tree (hval 0 24 v0 rfl rfl) h0
  obtain ⟨l1, f1, r1⟩ := open_Tree (hval 1 24 v1 rfl rfl) h1
  clear hA0 hval0
  refine (walk v0 l0 f0 v1 l1 f1 W r0 r1).mono fun e W' ⟨he, bel⟩ => ?_
  subst he
  exact ⟨_, rfl, _, _, _, [], _, [], hW', trodAll_mk1 (shut_bool Try.underlying4 _), (trodAll_cons_mk (Below.trod laidOut (by kernel_rfl) (of_decide_eq_true (by kernel_rfl)) k0 bel lt0) (trodAll_cons_mk (Below.trod laidOut (by kernel_rfl) (of_decide_eq_true (by kernel_rfl)) k1 bel lt1) trodAll_mk0)), rfl, bel.frame _, fun h => by cases h⟩

theorem over : Rows.fnExactTreeSameRow.holds Try.pinned (OpenSpec.ofChange Rows.fnExactTreeSameSpec) :=
  OpenClaim.holds_of_wide 6 Try.f6 rfl rfl rfl rfl rfl rfl rfl ⟨rfl, rfl, rfl, rfl, rfl⟩ rfl rfl rfl rfl rfl (by kernel_rfl) Try.func6 (by kernel_rfl)
    (of_decide_eq_true (by kernel_rfl)) (by unfold Func.isWrapper; first | (rw [if_pos (by decide +kernel)]; kernel_rfl) | (rw [if_neg (by decide +kernel)]; exact ⟨rfl, rfl⟩))
    (fun os started H enc _ => lifted os started H enc)

theorem proved : Rows.FnExactTreeSameSaid := over
#print axioms proved
end Go.Proofs.Ytmnngfaelanbcaa.fnExactTreeSame
