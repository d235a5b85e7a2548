/-
  For every two branches the law FnExactDiff returns true, and what came in reads behind the call as it read before: no condition.
-/
import Derived.Test.YtjbeonicbcihlaaDiffW
import Derived.Deep.RegionHeld3
import Derived.Test.YtjbeonicbcihlaaRows
import Derived.WalkKit
import Derived.ProofKit
import Derived.OpenShut
import Derived.ShutString
import Derived.ChangeOld
import Derived.Below
namespace Go.Proofs.Ytjbeonicbcihlaa.fnExactDiff
open Go.ChangeShapes Go.WideShapes Go.ChangeAt Go.RowKit
open Go.ChangeMaps (open_string shut_string)
set_option linter.unusedVariables false

theorem own : ownKnob Try.prog.godebug = none := by kernel_rfl
theorem laidOut : laidOutB Try.prog = true := by kernel_rfl

set_option maxRecDepth 20000 in
set_option maxHeartbeats 8000000 in
theorem walk (v0 : Value) (F0 : FsD) (f0 : FitF F0) (v1 : Value) (F1 : FsD) (f1 : FitF F1) (w : World) (r0 : RdFs w v0 F0) (r1 : RdFs w v1 F1) :
    Calls Try.prog 9 #[v0, v1] w fun e w' => e = .returned (.bool true) ∧ Below w.heap.size w w' := by
  obtain ⟨a0, c0, b0, e0, rfl⟩ := r0.lay
  have HR0 : Hid (∀ W, Below w.heap.size w W → RdFs W (.agg #[.slice a0 F0.ns.length c0, .slice b0 F0.ds.length e0]) F0) := fun W h => r0.below h (Nat.le_refl _)
  have HF0 : Hid (FitF F0) := f0
  clear r0 f0
  obtain ⟨a1, c1, b1, e1, rfl⟩ := r1.lay
  have HR1 : Hid (∀ W, Below w.heap.size w W → RdFs W (.agg #[.slice a1 F1.ns.length c1, .slice b1 F1.ds.length e1]) F1) := fun W h => r1.below h (Nat.le_refl _)
  have HF1 : Hid (FitF F1) := f1
  clear r1 f1
  obtain ⟨E0, HE0⟩ : ∃ x, Hid (diffF F0 F1 = x) := ⟨_, rfl⟩
  have HG0 : Hid (E0.length ≤ 1048576) := by show E0.length ≤ 1048576; rw [← HE0.out]; exact diffF_len F0 F1
  have SC : Hid (∀ v0 v1 W, szF F0 ≤ 1048576 → szF F1 ≤ 1048576 → RdFs W v0 F0 → RdFs W v1 F1 → Calls Try.prog 30 #[v0, v1] W fun e w' => ∃ u0, e = .returned (u0) ∧ OwnPt w' W.heap.size w'.heap.size u0 E0 ∧ Below W.heap.size W w') := by
    intro v0 v1 W hs0 hs1 hv0 hv1
    rw [← HE0.out]
    exact specDiff v0 v1 F0 F1 W hs0 hs1 hv0 hv1
  have IC : Hid (∀ v0 v1 W, szF F0 ≤ 1048576 → szF F1 ≤ 1048576 → RdFs W v0 F0 → RdFs W v1 F1 → Calls Try.prog 31 #[v0, v1] W fun e w' => ∃ u0, e = .returned (u0) ∧ OwnPt w' W.heap.size w'.heap.size u0 E0 ∧ Below W.heap.size W w') := by
    intro v0 v1 W hs0 hs1 hv0 hv1
    rw [← HE0.out]
    exact implDiff v0 v1 F0 F1 W hs0 hs1 hv0 hv1
  clear HE0
  go_enter Try.func9, Try.ntmps9
  go_wp2_with fail
  refine (szFsW _ F0 1048576 _ (by omega) (by omega) HF0.out (HR0.out _ (below2 _ _ _))).mono ?_
  rintro e w1 ⟨s0, rfl, hsz0, s0ge, s0le, hb1⟩
  have hVA0 : Var w1 w.heap.size #[.slice a0 F0.ns.length c0, .slice b0 F0.ds.length e0] 25 := ((Var.made w _ _).alloc _).new hb1
  have hVA1 : Var w1 (w.heap.size + 1) #[.slice a1 F1.ns.length c1, .slice b1 F1.ds.length e1] 25 := (Var.made2 w _ _ _).new hb1
  have hz0 : w.heap.size + 2 ≤ w1.heap.size := by have := hb1.size; simpa using this
  have hB0 : Below w.heap.size w w1 := (below2 w _ _).trans (hb1.mono (by simp; omega))
  by_cases hneg0 : s0 < 0
  · clear hsz0
    go_wp2
    go_ret
    exact ⟨rfl, hB0⟩
  have HS0 : Hid (szF F0 ≤ 1048576) := by have := hsz0 (by omega); show szF F0 ≤ 1048576; omega
  clear hsz0 hb1
  have yA10 := hVA1.cell 0
  have yA11 := hVA1.cell 1
  simp at yA10 yA11
  go_wp2_with fail
  refine (szFsW _ F1 s0 _ (by omega) (by omega) HF1.out (HR1.out _ hB0)).mono ?_
  rintro e w2 ⟨s1, rfl, hsz1, s1ge, s1le, hb2⟩
  clear yA10 yA11
  have hz3 : w1.heap.size ≤ w2.heap.size := hb2.size
  have hB3 : Below w.heap.size w w2 := hB0.trans (hb2.mono hB0.size)
  have hVA0_3 : Var w2 w.heap.size #[.slice a0 F0.ns.length c0, .slice b0 F0.ds.length e0] 25 := hVA0.new hb2
  have hVA1_3 : Var w2 (w.heap.size + 1) #[.slice a1 F1.ns.length c1, .slice b1 F1.ds.length e1] 25 := hVA1.new hb2
  clear hB0 hVA0 hVA1
  by_cases hneg1 : s1 < 0
  · clear hsz1
    go_wp2
    go_ret
    exact ⟨rfl, hB3⟩
  have HS1 : Hid (szF F1 ≤ 1048576) := by have := hsz1 (by omega); show szF F1 ≤ 1048576; omega
  clear hsz1 hb2
  have yA00 := hVA0_3.cell 0
  have yA01 := hVA0_3.cell 1
  simp at yA00 yA01
  have yA10 := hVA1_3.cell 0
  have yA11 := hVA1_3.cell 1
  simp at yA10 yA11
  have HVA0 : Hid (Var w2 w.heap.size #[.slice a0 F0.ns.length c0, .slice b0 F0.ds.length e0] 25) := hVA0_3
  have HVA1 : Hid (Var w2 (w.heap.size + 1) #[.slice a1 F1.ns.length c1, .slice b1 F1.ds.length e1] 25) := hVA1_3
  have HT6 : Hid (Calls Try.prog 12 #[(.agg #[.slice a0 F0.ns.length c0, .slice b0 F0.ds.length e0])] w2.drew fun e w' => ∃ v', e = .returned v' ∧ OwnFs w' w2.heap.size w'.heap.size v' F0 ∧ Below w2.heap.size w2 w') := by
    refine (toFsW _ F0 w2.drew (smF_sz HS0.out) (HR0.out _ hB3.drew)).mono ?_
    rintro e w' ⟨v', rfl, h1, h2⟩
    exact ⟨v', rfl, h1, ⟨h2.os, h2.tape, h2.output, h2.size, h2.block⟩⟩
  go_wp2_with fail
  go_region_held3 (fun W => W.cell? ⟨w.heap.size, 0, none⟩ = some (.slice a0 F0.ns.length c0) ∧ W.cell? ⟨w.heap.size, 1, none⟩ = some (.slice b0 F0.ds.length e0) ∧ W.cell? ⟨(w.heap.size + 1), 0, none⟩ = some (.slice a1 F1.ns.length c1) ∧ W.cell? ⟨(w.heap.size + 1), 1, none⟩ = some (.slice b1 F1.ds.length e1)) (go_keep) (first
    | (go_at_call 30
       refine (SC.out _ _ _ HS0.out HS1.out (hp6.rd.below hbq (Nat.le_refl _)) hq6.rd).mono ?_
       rintro e w4 ⟨uW0, rfl, hOW0, hbr⟩
       have hzq : w2.heap.size ≤ w4b.heap.size := hbp2.size
       have hbJ : Below w2.heap.size w2 w4 := hbp2.trans (hbr.mono hbp2.size)
       obtain ⟨hv0, hv1, hv2, hv3⟩ : w4.cell? ⟨w.heap.size, 0, none⟩ = some (.slice a0 F0.ns.length c0) ∧ w4.cell? ⟨w.heap.size, 1, none⟩ = some (.slice b0 F0.ds.length e0) ∧ w4.cell? ⟨(w.heap.size + 1), 0, none⟩ = some (.slice a1 F1.ns.length c1) ∧ w4.cell? ⟨(w.heap.size + 1), 1, none⟩ = some (.slice b1 F1.ds.length e1) := ⟨(HVA0.out.new hbJ).cell 0, (HVA0.out.new hbJ).cell 1, (HVA1.out.new hbJ).cell 0, (HVA1.out.new hbJ).cell 1⟩
       clear hp6 hq6 hbp hbq hbr hbp2 ht0 ht1 ht2 ht3)
    | (go_at_call_of 12 (c1); 
       refine (toFsW _ F1 _ (smF_sz HS1.out) (HR1.out _ (hB3.trans (hbp.mono hB3.size)))).mono ?_
       rintro e w4b ⟨x7, rfl, hq6, hbq⟩
       have hbp2 : Below w2.heap.size w2 w4b := hbp.trans (hbq.mono hbp.size)
       obtain ⟨ht0, ht1, ht2, ht3⟩ : w4b.cell? ⟨w.heap.size, 0, none⟩ = some (.slice a0 F0.ns.length c0) ∧ w4b.cell? ⟨w.heap.size, 1, none⟩ = some (.slice b0 F0.ds.length e0) ∧ w4b.cell? ⟨(w.heap.size + 1), 0, none⟩ = some (.slice a1 F1.ns.length c1) ∧ w4b.cell? ⟨(w.heap.size + 1), 1, none⟩ = some (.slice b1 F1.ds.length e1) := ⟨(HVA0.out.new hbp2).cell 0, (HVA0.out.new hbp2).cell 1, (HVA1.out.new hbp2).cell 0, (HVA1.out.new hbp2).cell 1⟩
       clear hu0 hu1 hu2 hu3)
    | (go_at_call 12
       refine HT6.out.mono ?_
       rintro e w4a ⟨x6, rfl, hp6, hbp⟩
       obtain ⟨hu0, hu1, hu2, hu3⟩ : w4a.cell? ⟨w.heap.size, 0, none⟩ = some (.slice a0 F0.ns.length c0) ∧ w4a.cell? ⟨w.heap.size, 1, none⟩ = some (.slice b0 F0.ds.length e0) ∧ w4a.cell? ⟨(w.heap.size + 1), 0, none⟩ = some (.slice a1 F1.ns.length c1) ∧ w4a.cell? ⟨(w.heap.size + 1), 1, none⟩ = some (.slice b1 F1.ds.length e1) := ⟨(HVA0.out.new hbp).cell 0, (HVA0.out.new hbp).cell 1, (HVA1.out.new hbp).cell 0, (HVA1.out.new hbp).cell 1⟩
       skip))
  all_goals
    clear HVA0 HVA1 HT6 hv0 hv1 hv2 hv3 yA00 yA01 yA10 yA11
    have hz5 : w2.heap.size ≤ w4.heap.size := hbJ.size
    have hB5 : Below w.heap.size w w4 := hB3.trans (hbJ.mono hB3.size)
    have hVA0_5 : Var w4 w.heap.size #[.slice a0 F0.ns.length c0, .slice b0 F0.ds.length e0] 25 := hVA0_3.new hbJ
    have hVA1_5 : Var w4 (w.heap.size + 1) #[.slice a1 F1.ns.length c1, .slice b1 F1.ds.length e1] 25 := hVA1_3.new hbJ
    clear hB3 hVA0_3 hVA1_3
    clear hbJ
    have yA00 := hVA0_5.cell 0
    have yA01 := hVA0_5.cell 1
    simp at yA00 yA01
    go_wp2_with fail
    refine (toFsW _ F0 _ (smF_sz HS0.out) (HR0.out _ hB5)).mono ?_
    rintro e w6 ⟨z0, rfl, hOX0, hb6⟩
    clear yA00 yA01
    have hz7 : w4.heap.size ≤ w6.heap.size := hb6.size
    have hB7 : Below w.heap.size w w6 := hB5.trans (hb6.mono hB5.size)
    have hVA0_7 : Var w6 w.heap.size #[.slice a0 F0.ns.length c0, .slice b0 F0.ds.length e0] 25 := hVA0_5.new hb6
    have hVA1_7 : Var w6 (w.heap.size + 1) #[.slice a1 F1.ns.length c1, .slice b1 F1.ds.length e1] 25 := hVA1_5.new hb6
    have hOW0_7 := hOW0.below hb6
    clear hB5 hVA0_5 hVA1_5 hOW0
    clear hb6
    obtain ⟨aX0, cX0, bX0, eX0, rfl⟩ := hOX0.lay
    have hsz8 : (w6.alloc (.cells #[.slice aX0 F0.ns.length cX0, .slice bX0 F0.ds.length eX0] 30)).heap.size = w6.heap.size + 1 := by simp
    have hz9 : w6.heap.size ≤ (w6.alloc (.cells #[.slice aX0 F0.ns.length cX0, .slice bX0 F0.ds.length eX0] 30)).heap.size := (below1 w6 (.cells #[.slice aX0 F0.ns.length cX0, .slice bX0 F0.ds.length eX0] 30)).size
    have hB9 : Below w.heap.size w (w6.alloc (.cells #[.slice aX0 F0.ns.length cX0, .slice bX0 F0.ds.length eX0] 30)) := hB7.trans ((below1 w6 (.cells #[.slice aX0 F0.ns.length cX0, .slice bX0 F0.ds.length eX0] 30)).mono hB7.size)
    have hVA0_9 : Var (w6.alloc (.cells #[.slice aX0 F0.ns.length cX0, .slice bX0 F0.ds.length eX0] 30)) w.heap.size #[.slice a0 F0.ns.length c0, .slice b0 F0.ds.length e0] 25 := hVA0_7.new (below1 w6 (.cells #[.slice aX0 F0.ns.length cX0, .slice bX0 F0.ds.length eX0] 30))
    have hVA1_9 : Var (w6.alloc (.cells #[.slice aX0 F0.ns.length cX0, .slice bX0 F0.ds.length eX0] 30)) (w.heap.size + 1) #[.slice a1 F1.ns.length c1, .slice b1 F1.ds.length e1] 25 := hVA1_7.new (below1 w6 (.cells #[.slice aX0 F0.ns.length cX0, .slice bX0 F0.ds.length eX0] 30))
    have hOW0_9 := hOW0_7.below (below1 w6 (.cells #[.slice aX0 F0.ns.length cX0, .slice bX0 F0.ds.length eX0] 30))
    have hOX0_9 := hOX0.below (below1 w6 (.cells #[.slice aX0 F0.ns.length cX0, .slice bX0 F0.ds.length eX0] 30))
    clear hB7 hVA0_7 hVA1_7 hOW0_7 hOX0
    have hVX0 : Var (w6.alloc (.cells #[.slice aX0 F0.ns.length cX0, .slice bX0 F0.ds.length eX0] 30)) w6.heap.size #[.slice aX0 F0.ns.length cX0, .slice bX0 F0.ds.length eX0] 30 := Var.made w6 _ _
    have yA10 := hVA1_9.cell 0
    have yA11 := hVA1_9.cell 1
    simp at yA10 yA11
    go_wp2_with fail
    refine (toFsW _ F1 _ (smF_sz HS1.out) (HR1.out _ hB9)).mono ?_
    rintro e w10 ⟨z1, rfl, hOX1, hb10⟩
    clear yA10 yA11
    have hz11 : (w6.alloc (.cells #[.slice aX0 F0.ns.length cX0, .slice bX0 F0.ds.length eX0] 30)).heap.size ≤ w10.heap.size := hb10.size
    have hB11 : Below w.heap.size w w10 := hB9.trans (hb10.mono hB9.size)
    have hVA0_11 : Var w10 w.heap.size #[.slice a0 F0.ns.length c0, .slice b0 F0.ds.length e0] 25 := hVA0_9.new hb10
    have hVA1_11 : Var w10 (w.heap.size + 1) #[.slice a1 F1.ns.length c1, .slice b1 F1.ds.length e1] 25 := hVA1_9.new hb10
    have hVX0_11 : Var w10 w6.heap.size #[.slice aX0 F0.ns.length cX0, .slice bX0 F0.ds.length eX0] 30 := hVX0.new hb10
    have hOW0_11 := hOW0_9.below hb10
    have hOX0_11 := hOX0_9.below hb10
    clear hB9 hVA0_9 hVA1_9 hVX0 hOW0_9 hOX0_9
    clear hb10
    obtain ⟨aX1, cX1, bX1, eX1, rfl⟩ := hOX1.lay
    have hsz12 : (w10.alloc (.cells #[.slice aX1 F1.ns.length cX1, .slice bX1 F1.ds.length eX1] 30)).heap.size = w10.heap.size + 1 := by simp
    have hz13 : w10.heap.size ≤ (w10.alloc (.cells #[.slice aX1 F1.ns.length cX1, .slice bX1 F1.ds.length eX1] 30)).heap.size := (below1 w10 (.cells #[.slice aX1 F1.ns.length cX1, .slice bX1 F1.ds.length eX1] 30)).size
    have hB13 : Below w.heap.size w (w10.alloc (.cells #[.slice aX1 F1.ns.length cX1, .slice bX1 F1.ds.length eX1] 30)) := hB11.trans ((below1 w10 (.cells #[.slice aX1 F1.ns.length cX1, .slice bX1 F1.ds.length eX1] 30)).mono hB11.size)
    have hVA0_13 : Var (w10.alloc (.cells #[.slice aX1 F1.ns.length cX1, .slice bX1 F1.ds.length eX1] 30)) w.heap.size #[.slice a0 F0.ns.length c0, .slice b0 F0.ds.length e0] 25 := hVA0_11.new (below1 w10 (.cells #[.slice aX1 F1.ns.length cX1, .slice bX1 F1.ds.length eX1] 30))
    have hVA1_13 : Var (w10.alloc (.cells #[.slice aX1 F1.ns.length cX1, .slice bX1 F1.ds.length eX1] 30)) (w.heap.size + 1) #[.slice a1 F1.ns.length c1, .slice b1 F1.ds.length e1] 25 := hVA1_11.new (below1 w10 (.cells #[.slice aX1 F1.ns.length cX1, .slice bX1 F1.ds.length eX1] 30))
    have hVX0_13 : Var (w10.alloc (.cells #[.slice aX1 F1.ns.length cX1, .slice bX1 F1.ds.length eX1] 30)) w6.heap.size #[.slice aX0 F0.ns.length cX0, .slice bX0 F0.ds.length eX0] 30 := hVX0_11.new (below1 w10 (.cells #[.slice aX1 F1.ns.length cX1, .slice bX1 F1.ds.length eX1] 30))
    have hOW0_13 := hOW0_11.below (below1 w10 (.cells #[.slice aX1 F1.ns.length cX1, .slice bX1 F1.ds.length eX1] 30))
    have hOX0_13 := hOX0_11.below (below1 w10 (.cells #[.slice aX1 F1.ns.length cX1, .slice bX1 F1.ds.length eX1] 30))
    have hOX1_13 := hOX1.below (below1 w10 (.cells #[.slice aX1 F1.ns.length cX1, .slice bX1 F1.ds.length eX1] 30))
    clear hB11 hVA0_11 hVA1_11 hVX0_11 hOW0_11 hOX0_11 hOX1
    have hVX1 : Var (w10.alloc (.cells #[.slice aX1 F1.ns.length cX1, .slice bX1 F1.ds.length eX1] 30)) w10.heap.size #[.slice aX1 F1.ns.length cX1, .slice bX1 F1.ds.length eX1] 30 := Var.made w10 _ _
    have yX00 := hVX0_13.cell 0
    have yX01 := hVX0_13.cell 1
    simp at yX00 yX01
    have yX10 := hVX1.cell 0
    have yX11 := hVX1.cell 1
    simp at yX10 yX11
    go_wp2_with fail
    refine (IC.out _ _ _ HS0.out HS1.out hOX0_13.rd hOX1_13.rd).mono ?_
    rintro e w14 ⟨uG0, rfl, hOG0, hb14⟩
    clear yX00 yX01 yX10 yX11
    have hz15 : (w10.alloc (.cells #[.slice aX1 F1.ns.length cX1, .slice bX1 F1.ds.length eX1] 30)).heap.size ≤ w14.heap.size := hb14.size
    have hB15 : Below w.heap.size w w14 := hB13.trans (hb14.mono hB13.size)
    have hVA0_15 : Var w14 w.heap.size #[.slice a0 F0.ns.length c0, .slice b0 F0.ds.length e0] 25 := hVA0_13.new hb14
    have hVA1_15 : Var w14 (w.heap.size + 1) #[.slice a1 F1.ns.length c1, .slice b1 F1.ds.length e1] 25 := hVA1_13.new hb14
    have hVX0_15 : Var w14 w6.heap.size #[.slice aX0 F0.ns.length cX0, .slice bX0 F0.ds.length eX0] 30 := hVX0_13.new hb14
    have hVX1_15 : Var w14 w10.heap.size #[.slice aX1 F1.ns.length cX1, .slice bX1 F1.ds.length eX1] 30 := hVX1.new hb14
    have hOW0_15 := hOW0_13.below hb14
    have hOX0_15 := hOX0_13.below hb14
    have hOX1_15 := hOX1_13.below hb14
    clear hB13 hVA0_13 hVA1_13 hVX0_13 hVX1 hOW0_13 hOX0_13 hOX1_13
    clear hb14
    go_wp2_with fail
    refine (eqPtX _ _ E0 _ (Nat.le_trans HG0.out (by omega)) hOG0.rd hOW0_15.rd).mono ?_
    rintro e w16 ⟨rfl, hb16⟩
    have hz17 : w14.heap.size ≤ w16.heap.size := hb16.size
    have hB17 : Below w.heap.size w w16 := hB15.trans (hb16.mono hB15.size)
    have hVA0_17 : Var w16 w.heap.size #[.slice a0 F0.ns.length c0, .slice b0 F0.ds.length e0] 25 := hVA0_15.new hb16
    have hVA1_17 : Var w16 (w.heap.size + 1) #[.slice a1 F1.ns.length c1, .slice b1 F1.ds.length e1] 25 := hVA1_15.new hb16
    have hVX0_17 : Var w16 w6.heap.size #[.slice aX0 F0.ns.length cX0, .slice bX0 F0.ds.length eX0] 30 := hVX0_15.new hb16
    have hVX1_17 : Var w16 w10.heap.size #[.slice aX1 F1.ns.length cX1, .slice bX1 F1.ds.length eX1] 30 := hVX1_15.new hb16
    have hOW0_17 := hOW0_15.below hb16
    have hOX0_17 := hOX0_15.below hb16
    have hOX1_17 := hOX1_15.below hb16
    have hOG0_17 := hOG0.below hb16
    clear hB15 hVA0_15 hVA1_15 hVX0_15 hVX1_15 hOW0_15 hOX0_15 hOX1_15 hOG0
    clear hb16
    have yX00 := hVX0_17.cell 0
    have yX01 := hVX0_17.cell 1
    simp at yX00 yX01
    have yA00 := hVA0_17.cell 0
    have yA01 := hVA0_17.cell 1
    simp at yA00 yA01
    have HVX : Hid (Var w16 w6.heap.size #[.slice aX0 F0.ns.length cX0, .slice bX0 F0.ds.length eX0] 30) := hVX0_17
    have HRX : Hid (RdFs w16 (.agg #[.slice aX0 F0.ns.length cX0, .slice bX0 F0.ds.length eX0]) F0) := hOX0_17.rd
    have HVG : Hid (Var w16 w.heap.size #[.slice a0 F0.ns.length c0, .slice b0 F0.ds.length e0] 25) := hVA0_17
    have HT6 : Hid (Calls Try.prog 12 #[(.agg #[.slice a0 F0.ns.length c0, .slice b0 F0.ds.length e0])] w16.drew fun e w' => ∃ v', e = .returned v' ∧ OwnFs w' w16.heap.size w'.heap.size v' F0 ∧ Below w16.heap.size w16 w') := by
      refine (toFsW _ F0 w16.drew (smF_sz HS0.out) (HR0.out _ hB17.drew)).mono ?_
      rintro e w' ⟨v', rfl, h1, h2⟩
      exact ⟨v', rfl, h1, ⟨h2.os, h2.tape, h2.output, h2.size, h2.block⟩⟩
    go_wp2_with fail
    go_region_held3 (fun W => W.cell? ⟨w6.heap.size, 0, none⟩ = some (.slice aX0 F0.ns.length cX0) ∧ W.cell? ⟨w6.heap.size, 1, none⟩ = some (.slice bX0 F0.ds.length eX0) ∧ W.cell? ⟨w.heap.size, 0, none⟩ = some (.slice a0 F0.ns.length c0) ∧ W.cell? ⟨w.heap.size, 1, none⟩ = some (.slice b0 F0.ds.length e0)) (go_keep) (first
      | (go_at_call 12
         refine HT6.out.mono ?_
         rintro e w18a ⟨x6, rfl, ho6, hbp⟩
         obtain ⟨hu0, hu1, hu2, hu3⟩ : w18a.cell? ⟨w6.heap.size, 0, none⟩ = some (.slice aX0 F0.ns.length cX0) ∧ w18a.cell? ⟨w6.heap.size, 1, none⟩ = some (.slice bX0 F0.ds.length eX0) ∧ w18a.cell? ⟨w.heap.size, 0, none⟩ = some (.slice a0 F0.ns.length c0) ∧ w18a.cell? ⟨w.heap.size, 1, none⟩ = some (.slice b0 F0.ds.length e0) := ⟨(HVX.out.new hbp).cell 0, (HVX.out.new hbp).cell 1, (HVG.out.new hbp).cell 0, (HVG.out.new hbp).cell 1⟩
         skip)
      | (go_at_call 14
         refine (eqFsW _ x6 F0 _ (smF_sz HS0.out) (HRX.out.below hbp (Nat.le_refl _)) ho6.rd).mono ?_
         rintro e w18 ⟨rfl, hbq⟩
         have hbJ : Below w16.heap.size w16 w18 := hbp.trans (hbq.mono hbp.size)
         obtain ⟨hv0, hv1, hv2, hv3⟩ : w18.cell? ⟨w6.heap.size, 0, none⟩ = some (.slice aX0 F0.ns.length cX0) ∧ w18.cell? ⟨w6.heap.size, 1, none⟩ = some (.slice bX0 F0.ds.length eX0) ∧ w18.cell? ⟨w.heap.size, 0, none⟩ = some (.slice a0 F0.ns.length c0) ∧ w18.cell? ⟨w.heap.size, 1, none⟩ = some (.slice b0 F0.ds.length e0) := ⟨(HVX.out.new hbJ).cell 0, (HVX.out.new hbJ).cell 1, (HVG.out.new hbJ).cell 0, (HVG.out.new hbJ).cell 1⟩
         clear hu0 hu1 hu2 hu3 ho6 hbp hbq))
    clear HVX HVG HRX HT6 hv0 hv1 hv2 hv3 yX00 yX01 yA00 yA01
    have hz19 : w16.heap.size ≤ w18.heap.size := hbJ.size
    have hB19 : Below w.heap.size w w18 := hB17.trans (hbJ.mono hB17.size)
    have hVA0_19 : Var w18 w.heap.size #[.slice a0 F0.ns.length c0, .slice b0 F0.ds.length e0] 25 := hVA0_17.new hbJ
    have hVA1_19 : Var w18 (w.heap.size + 1) #[.slice a1 F1.ns.length c1, .slice b1 F1.ds.length e1] 25 := hVA1_17.new hbJ
    have hVX0_19 : Var w18 w6.heap.size #[.slice aX0 F0.ns.length cX0, .slice bX0 F0.ds.length eX0] 30 := hVX0_17.new hbJ
    have hVX1_19 : Var w18 w10.heap.size #[.slice aX1 F1.ns.length cX1, .slice bX1 F1.ds.length eX1] 30 := hVX1_17.new hbJ
    have hOW0_19 := hOW0_17.below hbJ
    have hOX0_19 := hOX0_17.below hbJ
    have hOX1_19 := hOX1_17.below hbJ
    have hOG0_19 := hOG0_17.below hbJ
    clear hB17 hVA0_17 hVA1_17 hVX0_17 hVX1_17 hOW0_17 hOX0_17 hOX1_17 hOG0_17
    clear hbJ
    have yX10 := hVX1_19.cell 0
    have yX11 := hVX1_19.cell 1
    simp at yX10 yX11
    have yA10 := hVA1_19.cell 0
    have yA11 := hVA1_19.cell 1
    simp at yA10 yA11
    have HVX : Hid (Var w18 w10.heap.size #[.slice aX1 F1.ns.length cX1, .slice bX1 F1.ds.length eX1] 30) := hVX1_19
    have HRX : Hid (RdFs w18 (.agg #[.slice aX1 F1.ns.length cX1, .slice bX1 F1.ds.length eX1]) F1) := hOX1_19.rd
    have HVG : Hid (Var w18 (w.heap.size + 1) #[.slice a1 F1.ns.length c1, .slice b1 F1.ds.length e1] 25) := hVA1_19
    have HT6 : Hid (Calls Try.prog 12 #[(.agg #[.slice a1 F1.ns.length c1, .slice b1 F1.ds.length e1])] w18.drew fun e w' => ∃ v', e = .returned v' ∧ OwnFs w' w18.heap.size w'.heap.size v' F1 ∧ Below w18.heap.size w18 w') := by
      refine (toFsW _ F1 w18.drew (smF_sz HS1.out) (HR1.out _ hB19.drew)).mono ?_
      rintro e w' ⟨v', rfl, h1, h2⟩
      exact ⟨v', rfl, h1, ⟨h2.os, h2.tape, h2.output, h2.size, h2.block⟩⟩
    go_wp2_with fail
    go_region_held3 (fun W => W.cell? ⟨w10.heap.size, 0, none⟩ = some (.slice aX1 F1.ns.length cX1) ∧ W.cell? ⟨w10.heap.size, 1, none⟩ = some (.slice bX1 F1.ds.length eX1) ∧ W.cell? ⟨(w.heap.size + 1), 0, none⟩ = some (.slice a1 F1.ns.length c1) ∧ W.cell? ⟨(w.heap.size + 1), 1, none⟩ = some (.slice b1 F1.ds.length e1)) (go_keep) (first
      | (go_at_call 12
         refine HT6.out.mono ?_
         rintro e w20a ⟨x6, rfl, ho6, hbp⟩
         obtain ⟨hu0, hu1, hu2, hu3⟩ : w20a.cell? ⟨w10.heap.size, 0, none⟩ = some (.slice aX1 F1.ns.length cX1) ∧ w20a.cell? ⟨w10.heap.size, 1, none⟩ = some (.slice bX1 F1.ds.length eX1) ∧ w20a.cell? ⟨(w.heap.size + 1), 0, none⟩ = some (.slice a1 F1.ns.length c1) ∧ w20a.cell? ⟨(w.heap.size + 1), 1, none⟩ = some (.slice b1 F1.ds.length e1) := ⟨(HVX.out.new hbp).cell 0, (HVX.out.new hbp).cell 1, (HVG.out.new hbp).cell 0, (HVG.out.new hbp).cell 1⟩
         skip)
      | (go_at_call 14
         refine (eqFsW _ x6 F1 _ (smF_sz HS1.out) (HRX.out.below hbp (Nat.le_refl _)) ho6.rd).mono ?_
         rintro e w20 ⟨rfl, hbq⟩
         have hbJ : Below w18.heap.size w18 w20 := hbp.trans (hbq.mono hbp.size)
         obtain ⟨hv0, hv1, hv2, hv3⟩ : w20.cell? ⟨w10.heap.size, 0, none⟩ = some (.slice aX1 F1.ns.length cX1) ∧ w20.cell? ⟨w10.heap.size, 1, none⟩ = some (.slice bX1 F1.ds.length eX1) ∧ w20.cell? ⟨(w.heap.size + 1), 0, none⟩ = some (.slice a1 F1.ns.length c1) ∧ w20.cell? ⟨(w.heap.size + 1), 1, none⟩ = some (.slice b1 F1.ds.length e1) := ⟨(HVX.out.new hbJ).cell 0, (HVX.out.new hbJ).cell 1, (HVG.out.new hbJ).cell 0, (HVG.out.new hbJ).cell 1⟩
         clear hu0 hu1 hu2 hu3 ho6 hbp hbq))
    clear HVX HVG HRX HT6 hv0 hv1 hv2 hv3 yX10 yX11 yA10 yA11
    have hz21 : w18.heap.size ≤ w20.heap.size := hbJ.size
    have hB21 : Below w.heap.size w w20 := hB19.trans (hbJ.mono hB19.size)
    have hVA0_21 : Var w20 w.heap.size #[.slice a0 F0.ns.length c0, .slice b0 F0.ds.length e0] 25 := hVA0_19.new hbJ
    have hVA1_21 : Var w20 (w.heap.size + 1) #[.slice a1 F1.ns.length c1, .slice b1 F1.ds.length e1] 25 := hVA1_19.new hbJ
    have hVX0_21 : Var w20 w6.heap.size #[.slice aX0 F0.ns.length cX0, .slice bX0 F0.ds.length eX0] 30 := hVX0_19.new hbJ
    have hVX1_21 : Var w20 w10.heap.size #[.slice aX1 F1.ns.length cX1, .slice bX1 F1.ds.length eX1] 30 := hVX1_19.new hbJ
    have hOW0_21 := hOW0_19.below hbJ
    have hOX0_21 := hOX0_19.below hbJ
    have hOX1_21 := hOX1_19.below hbJ
    have hOG0_21 := hOG0_19.below hbJ
    clear hB19 hVA0_19 hVA1_19 hVX0_19 hVX1_19 hOW0_19 hOX0_19 hOX1_19 hOG0_19
    clear hbJ
    have hcb0 := cntF_le HS0.out
    have hcb1 := cntF_le HS1.out
    have hcg0 := HG0.out
    have yX00 := hVX0_21.cell 0
    have yX01 := hVX0_21.cell 1
    simp at yX00 yX01
    go_wp2_with fail
    refine (markFsW _ _ _ (1) F0 _ (Nat.le_trans HS0.out (by omega)) (by omega) (by omega) hOX0_21).mono ?_
    rintro e w22 ⟨rfl, hMX0, hb22⟩
    clear yX00 yX01
    have hz23 : w20.heap.size ≤ w22.heap.size := hb22.size
    have hB23 : Below w.heap.size w w22 := hB21.trans (hb22.below hB21.size (fun j hj => by omega))
    have hVA0_23 : Var w22 w.heap.size #[.slice a0 F0.ns.length c0, .slice b0 F0.ds.length e0] 25 := hVA0_21.only hb22 (fun hj => by omega)
    have hVA1_23 : Var w22 (w.heap.size + 1) #[.slice a1 F1.ns.length c1, .slice b1 F1.ds.length e1] 25 := hVA1_21.only hb22 (fun hj => by omega)
    have hVX0_23 : Var w22 w6.heap.size #[.slice aX0 F0.ns.length cX0, .slice bX0 F0.ds.length eX0] 30 := hVX0_21.only hb22 (fun hj => by omega)
    have hVX1_23 : Var w22 w10.heap.size #[.slice aX1 F1.ns.length cX1, .slice bX1 F1.ds.length eX1] 30 := hVX1_21.only hb22 (fun hj => by omega)
    have hOW0_23 := hOW0_21.only hb22 (fun j h1 h2 hj => by omega)
    have hOX1_23 := hOX1_21.only hb22 (fun j h1 h2 hj => by omega)
    have hOG0_23 := hOG0_21.only hb22 (fun j h1 h2 hj => by omega)
    clear hB21 hVA0_21 hVA1_21 hVX0_21 hVX1_21 hOW0_21 hOX1_21 hOG0_21
    clear hb22 hOX0_21
    have yX10 := hVX1_23.cell 0
    have yX11 := hVX1_23.cell 1
    simp at yX10 yX11
    go_wp2_with fail
    refine (markFsW _ _ _ (1 + cntF F0) F1 _ (Nat.le_trans HS1.out (by omega)) (by omega) (by omega) hOX1_23).mono ?_
    rintro e w24 ⟨rfl, hMX1, hb24⟩
    clear yX10 yX11
    have hz25 : w22.heap.size ≤ w24.heap.size := hb24.size
    have hB25 : Below w.heap.size w w24 := hB23.trans (hb24.below hB23.size (fun j hj => by omega))
    have hVA0_25 : Var w24 w.heap.size #[.slice a0 F0.ns.length c0, .slice b0 F0.ds.length e0] 25 := hVA0_23.only hb24 (fun hj => by omega)
    have hVA1_25 : Var w24 (w.heap.size + 1) #[.slice a1 F1.ns.length c1, .slice b1 F1.ds.length e1] 25 := hVA1_23.only hb24 (fun hj => by omega)
    have hVX0_25 : Var w24 w6.heap.size #[.slice aX0 F0.ns.length cX0, .slice bX0 F0.ds.length eX0] 30 := hVX0_23.only hb24 (fun hj => by omega)
    have hVX1_25 : Var w24 w10.heap.size #[.slice aX1 F1.ns.length cX1, .slice bX1 F1.ds.length eX1] 30 := hVX1_23.only hb24 (fun hj => by omega)
    have hOW0_25 := hOW0_23.only hb24 (fun j h1 h2 hj => by omega)
    have hOX0_25 := hMX0.only hb24 (fun j h1 h2 hj => by omega)
    have hOG0_25 := hOG0_23.only hb24 (fun j h1 h2 hj => by omega)
    clear hB23 hVA0_23 hVA1_23 hVX0_23 hVX1_23 hOW0_23 hMX0 hOG0_23
    clear hb24 hOX1_23
    have hkq : ¬ ((1 + cntF F0 + cntF F1 : Nat) : Int) < 0 := by omega
    go_wp2_with fail
    refine (eqPtX _ _ E0 _ (Nat.le_trans HG0.out (by omega)) hOG0_25.rd hOW0_25.rd).mono ?_
    rintro e w26 ⟨rfl, hb26⟩
    have hz27 : w24.heap.size ≤ w26.heap.size := hb26.size
    have hB27 : Below w.heap.size w w26 := hB25.trans (hb26.mono hB25.size)
    have hVA0_27 : Var w26 w.heap.size #[.slice a0 F0.ns.length c0, .slice b0 F0.ds.length e0] 25 := hVA0_25.new hb26
    have hVA1_27 : Var w26 (w.heap.size + 1) #[.slice a1 F1.ns.length c1, .slice b1 F1.ds.length e1] 25 := hVA1_25.new hb26
    have hVX0_27 : Var w26 w6.heap.size #[.slice aX0 F0.ns.length cX0, .slice bX0 F0.ds.length eX0] 30 := hVX0_25.new hb26
    have hVX1_27 : Var w26 w10.heap.size #[.slice aX1 F1.ns.length cX1, .slice bX1 F1.ds.length eX1] 30 := hVX1_25.new hb26
    have hOW0_27 := hOW0_25.below hb26
    have hOX0_27 := hOX0_25.below hb26
    have hOX1_27 := hMX1.below hb26
    have hOG0_27 := hOG0_25.below hb26
    clear hB25 hVA0_25 hVA1_25 hVX0_25 hVX1_25 hOW0_25 hOX0_25 hMX1 hOG0_25
    clear hb26
    go_wp2_with fail
    refine (markPtX _ _ _ (1) E0 _ (Nat.le_trans HG0.out (by omega)) (by omega) (by omega) hOG0_27).mono ?_
    rintro e w28 ⟨rfl, hMG0, hb28⟩
    have hz29 : w26.heap.size ≤ w28.heap.size := hb28.size
    have hB29 : Below w.heap.size w w28 := hB27.trans (hb28.below hB27.size (fun j hj => by omega))
    have hVA0_29 : Var w28 w.heap.size #[.slice a0 F0.ns.length c0, .slice b0 F0.ds.length e0] 25 := hVA0_27.only hb28 (fun hj => by omega)
    have hVA1_29 : Var w28 (w.heap.size + 1) #[.slice a1 F1.ns.length c1, .slice b1 F1.ds.length e1] 25 := hVA1_27.only hb28 (fun hj => by omega)
    have hVX0_29 : Var w28 w6.heap.size #[.slice aX0 F0.ns.length cX0, .slice bX0 F0.ds.length eX0] 30 := hVX0_27.only hb28 (fun hj => by omega)
    have hVX1_29 : Var w28 w10.heap.size #[.slice aX1 F1.ns.length cX1, .slice bX1 F1.ds.length eX1] 30 := hVX1_27.only hb28 (fun hj => by omega)
    have hOW0_29 := hOW0_27.only hb28 (fun j h1 h2 hj => by omega)
    clear hB27 hVA0_27 hVA1_27 hVX0_27 hVX1_27 hOW0_27
    clear hb28 hOG0_27
    have hmq : ¬ ((1 + 2 * E0.length : Nat) : Int) < 0 := by omega
    go_wp2_with fail
    refine (heldPtX _ _ _ (1) E0 _ (Nat.le_trans HG0.out (by omega)) (by omega) hMG0).mono ?_
    rintro e w30 ⟨rfl, hb30⟩
    have hz31 : w28.heap.size ≤ w30.heap.size := hb30.size
    have hB31 : Below w.heap.size w w30 := hB29.trans (hb30.mono hB29.size)
    have hVA0_31 : Var w30 w.heap.size #[.slice a0 F0.ns.length c0, .slice b0 F0.ds.length e0] 25 := hVA0_29.new hb30
    have hVA1_31 : Var w30 (w.heap.size + 1) #[.slice a1 F1.ns.length c1, .slice b1 F1.ds.length e1] 25 := hVA1_29.new hb30
    have hVX0_31 : Var w30 w6.heap.size #[.slice aX0 F0.ns.length cX0, .slice bX0 F0.ds.length eX0] 30 := hVX0_29.new hb30
    have hVX1_31 : Var w30 w10.heap.size #[.slice aX1 F1.ns.length cX1, .slice bX1 F1.ds.length eX1] 30 := hVX1_29.new hb30
    have hOW0_31 := hOW0_29.below hb30
    have hOG0_31 := hMG0.below hb30
    clear hB29 hVA0_29 hVA1_29 hVX0_29 hVX1_29 hOW0_29 hMG0
    clear hb30
    have yA00 := hVA0_31.cell 0
    have yA01 := hVA0_31.cell 1
    simp at yA00 yA01
    have yA10 := hVA1_31.cell 0
    have yA11 := hVA1_31.cell 1
    simp at yA10 yA11
    have HVA0 : Hid (Var w30 w.heap.size #[.slice a0 F0.ns.length c0, .slice b0 F0.ds.length e0] 25) := hVA0_31
    have HVA1 : Hid (Var w30 (w.heap.size + 1) #[.slice a1 F1.ns.length c1, .slice b1 F1.ds.length e1] 25) := hVA1_31
    have HT6 : Hid (Calls Try.prog 12 #[(.agg #[.slice a0 F0.ns.length c0, .slice b0 F0.ds.length e0])] w30.drew fun e w' => ∃ v', e = .returned v' ∧ OwnFs w' w30.heap.size w'.heap.size v' F0 ∧ Below w30.heap.size w30 w') := by
      refine (toFsW _ F0 w30.drew (smF_sz HS0.out) (HR0.out _ hB31.drew)).mono ?_
      rintro e w' ⟨v', rfl, h1, h2⟩
      exact ⟨v', rfl, h1, ⟨h2.os, h2.tape, h2.output, h2.size, h2.block⟩⟩
    go_wp2_with fail
    go_region_held3 (fun W => W.cell? ⟨w.heap.size, 0, none⟩ = some (.slice a0 F0.ns.length c0) ∧ W.cell? ⟨w.heap.size, 1, none⟩ = some (.slice b0 F0.ds.length e0) ∧ W.cell? ⟨(w.heap.size + 1), 0, none⟩ = some (.slice a1 F1.ns.length c1) ∧ W.cell? ⟨(w.heap.size + 1), 1, none⟩ = some (.slice b1 F1.ds.length e1)) (go_keep) (first
      | (go_at_call 31
         refine (IC.out _ _ _ HS0.out HS1.out (hp6.rd.below hbq (Nat.le_refl _)) hq6.rd).mono ?_
         rintro e w32 ⟨uH0, rfl, hOH0, hbr⟩
         have hzq : w30.heap.size ≤ w32b.heap.size := hbp2.size
         have hbJ : Below w30.heap.size w30 w32 := hbp2.trans (hbr.mono hbp2.size)
         obtain ⟨hv0, hv1, hv2, hv3⟩ : w32.cell? ⟨w.heap.size, 0, none⟩ = some (.slice a0 F0.ns.length c0) ∧ w32.cell? ⟨w.heap.size, 1, none⟩ = some (.slice b0 F0.ds.length e0) ∧ w32.cell? ⟨(w.heap.size + 1), 0, none⟩ = some (.slice a1 F1.ns.length c1) ∧ w32.cell? ⟨(w.heap.size + 1), 1, none⟩ = some (.slice b1 F1.ds.length e1) := ⟨(HVA0.out.new hbJ).cell 0, (HVA0.out.new hbJ).cell 1, (HVA1.out.new hbJ).cell 0, (HVA1.out.new hbJ).cell 1⟩
         clear hp6 hq6 hbp hbq hbr hbp2 ht0 ht1 ht2 ht3)
      | (go_at_call_of 12 (c1); 
         refine (toFsW _ F1 _ (smF_sz HS1.out) (HR1.out _ (hB31.trans (hbp.mono hB31.size)))).mono ?_
         rintro e w32b ⟨x7, rfl, hq6, hbq⟩
         have hbp2 : Below w30.heap.size w30 w32b := hbp.trans (hbq.mono hbp.size)
         obtain ⟨ht0, ht1, ht2, ht3⟩ : w32b.cell? ⟨w.heap.size, 0, none⟩ = some (.slice a0 F0.ns.length c0) ∧ w32b.cell? ⟨w.heap.size, 1, none⟩ = some (.slice b0 F0.ds.length e0) ∧ w32b.cell? ⟨(w.heap.size + 1), 0, none⟩ = some (.slice a1 F1.ns.length c1) ∧ w32b.cell? ⟨(w.heap.size + 1), 1, none⟩ = some (.slice b1 F1.ds.length e1) := ⟨(HVA0.out.new hbp2).cell 0, (HVA0.out.new hbp2).cell 1, (HVA1.out.new hbp2).cell 0, (HVA1.out.new hbp2).cell 1⟩
         clear hu0 hu1 hu2 hu3)
      | (go_at_call 12
         refine HT6.out.mono ?_
         rintro e w32a ⟨x6, rfl, hp6, hbp⟩
         obtain ⟨hu0, hu1, hu2, hu3⟩ : w32a.cell? ⟨w.heap.size, 0, none⟩ = some (.slice a0 F0.ns.length c0) ∧ w32a.cell? ⟨w.heap.size, 1, none⟩ = some (.slice b0 F0.ds.length e0) ∧ w32a.cell? ⟨(w.heap.size + 1), 0, none⟩ = some (.slice a1 F1.ns.length c1) ∧ w32a.cell? ⟨(w.heap.size + 1), 1, none⟩ = some (.slice b1 F1.ds.length e1) := ⟨(HVA0.out.new hbp).cell 0, (HVA0.out.new hbp).cell 1, (HVA1.out.new hbp).cell 0, (HVA1.out.new hbp).cell 1⟩
         skip))
    clear HVA0 HVA1 HT6 hv0 hv1 hv2 hv3 yA00 yA01 yA10 yA11
    have hz33 : w30.heap.size ≤ w32.heap.size := hbJ.size
    have hB33 : Below w.heap.size w w32 := hB31.trans (hbJ.mono hB31.size)
    have hVA0_33 : Var w32 w.heap.size #[.slice a0 F0.ns.length c0, .slice b0 F0.ds.length e0] 25 := hVA0_31.new hbJ
    have hVA1_33 : Var w32 (w.heap.size + 1) #[.slice a1 F1.ns.length c1, .slice b1 F1.ds.length e1] 25 := hVA1_31.new hbJ
    have hVX0_33 : Var w32 w6.heap.size #[.slice aX0 F0.ns.length cX0, .slice bX0 F0.ds.length eX0] 30 := hVX0_31.new hbJ
    have hVX1_33 : Var w32 w10.heap.size #[.slice aX1 F1.ns.length cX1, .slice bX1 F1.ds.length eX1] 30 := hVX1_31.new hbJ
    have hOW0_33 := hOW0_31.below hbJ
    have hOG0_33 := hOG0_31.below hbJ
    clear hB31 hVA0_31 hVA1_31 hVX0_31 hVX1_31 hOW0_31 hOG0_31
    clear hbJ
    go_wp2_with fail
    refine (eqPtX _ _ E0 _ (Nat.le_trans HG0.out (by omega)) hOH0.rd hOW0_33.rd).mono ?_
    rintro e w34 ⟨rfl, hb34⟩
    have hz35 : w32.heap.size ≤ w34.heap.size := hb34.size
    have hB35 : Below w.heap.size w w34 := hB33.trans (hb34.mono hB33.size)
    have hVA0_35 : Var w34 w.heap.size #[.slice a0 F0.ns.length c0, .slice b0 F0.ds.length e0] 25 := hVA0_33.new hb34
    have hVA1_35 : Var w34 (w.heap.size + 1) #[.slice a1 F1.ns.length c1, .slice b1 F1.ds.length e1] 25 := hVA1_33.new hb34
    have hVX0_35 : Var w34 w6.heap.size #[.slice aX0 F0.ns.length cX0, .slice bX0 F0.ds.length eX0] 30 := hVX0_33.new hb34
    have hVX1_35 : Var w34 w10.heap.size #[.slice aX1 F1.ns.length cX1, .slice bX1 F1.ds.length eX1] 30 := hVX1_33.new hb34
    have hOW0_35 := hOW0_33.below hb34
    have hOG0_35 := hOG0_33.below hb34
    have hOH0_35 := hOH0.below hb34
    clear hB33 hVA0_33 hVA1_33 hVX0_33 hVX1_33 hOW0_33 hOG0_33 hOH0
    clear hb34
    go_wp2_with fail
    refine (heldPtX _ _ _ (1) E0 _ (Nat.le_trans HG0.out (by omega)) (by omega) hOG0_35).mono ?_
    rintro e w36 ⟨rfl, hb36⟩
    have hz37 : w34.heap.size ≤ w36.heap.size := hb36.size
    have hB37 : Below w.heap.size w w36 := hB35.trans (hb36.mono hB35.size)
    have hVA0_37 : Var w36 w.heap.size #[.slice a0 F0.ns.length c0, .slice b0 F0.ds.length e0] 25 := hVA0_35.new hb36
    have hVA1_37 : Var w36 (w.heap.size + 1) #[.slice a1 F1.ns.length c1, .slice b1 F1.ds.length e1] 25 := hVA1_35.new hb36
    have hVX0_37 : Var w36 w6.heap.size #[.slice aX0 F0.ns.length cX0, .slice bX0 F0.ds.length eX0] 30 := hVX0_35.new hb36
    have hVX1_37 : Var w36 w10.heap.size #[.slice aX1 F1.ns.length cX1, .slice bX1 F1.ds.length eX1] 30 := hVX1_35.new hb36
    have hOW0_37 := hOW0_35.below hb36
    have hOG0_37 := hOG0_35.below hb36
    clear hB35 hVA0_35 hVA1_35 hVX0_35 hVX1_35 hOW0_35 hOG0_35
    clear hb36
    go_wp2
    go_ret
    exact ⟨rfl, hB37⟩

set_option maxRecDepth 100000 in
theorem lifted (os : Os) (started : os.Started) (H : Type) (enc : TypeId × Value → H) :
    ReturnsInHanded {} Try.checked os 9 .any (Rows.fnExactDiffSpec.pre6 enc Try.prog Try.f9 Rows.fnExactDiffRow.domain false) (Rows.fnExactDiffSpec.post enc Try.prog Try.f9 false true false false) := by
  refine returnsInHanded_of_change (C := Try.checked) own started (by kernel_rfl) Try.func9
    (ChangeSpec.witness6 (enc := enc) (C := Try.checked) false ⟨#[], #[.agg #[.slice none 0 0, .slice none 0 0], .agg #[.slice none 0 0, .slice none 0 0]], []⟩ 8 (by kernel_rfl) (by kernel_rfl) (by kernel_rfl) (by kernel_rfl)) ?_
  intro W base args ds gs before hval0 hW hcnd _
  have hval : ∀ (j : Nat) t v, Try.f9.params[j]? = some t → args[j]? = some v → Value.okWide Try.prog W .any base t v := hval0
  have hW' := hW
  obtain ⟨p, q, hA0, hV, rfl, hfz, hnd⟩ := hW
  have hA : DataW.TrodAll enc Try.prog W 0 (fun _ => true) true Try.f9.params.toList args.toList ds p := hA0
  rw [Try.params9] at hA hval
  obtain ⟨v0, vs0, d0, ds0, p0, q0, hargs, rfl, rfl, h0, rr0⟩ := trodAll_cons hA
  obtain ⟨v1, vs1, d1, ds1, p1, q1, rfl, rfl, rfl, h1, rr1⟩ := trodAll_cons rr0
  obtain ⟨rfl, rfl, rfl⟩ := trodAll_nil rr1
  obtain rfl : args = #[v0, v1] := by cases args; simp_all
  obtain ⟨rfl, rfl⟩ := trodVars_none hV
  have k0 := h0
  have lt0 : ∀ x ∈ p0, x.block < W.heap.size := by obtain ⟨m, hm⟩ := k0; exact DataW.trod_lt m _ _ _ hm
  have k1 := h1
  have lt1 : ∀ x ∈ p1, x.block < W.heap.size := by obtain ⟨m, hm⟩ := k1; exact DataW.trod_lt m _ _ _ hm
  obtain ⟨F0, f0, r0⟩ := open_Fs (hval 0 25 v0 rfl rfl) h0
  obtain ⟨F1, f1, r1⟩ := open_Fs (hval 1 25 v1 rfl rfl) h1
  clear hA0 hval0
  refine (walk v0 F0 f0 v1 F1 f1 W r0 r1).mono fun e W' ⟨he, bel⟩ => ?_
  subst he
  exact ⟨_, rfl, _, _, _, [], _, [], hW', trodAll_mk1 (shut_bool Try.underlying4 _), (trodAll_cons_mk (Below.trod laidOut (by kernel_rfl) (of_decide_eq_true (by kernel_rfl)) k0 bel lt0) (trodAll_cons_mk (Below.trod laidOut (by kernel_rfl) (of_decide_eq_true (by kernel_rfl)) k1 bel lt1) trodAll_mk0)), rfl, bel.frame _, fun h => by cases h⟩

theorem over : Rows.fnExactDiffRow.holds Try.pinned (OpenSpec.ofChange Rows.fnExactDiffSpec) :=
  OpenClaim.holds_of_wide 9 Try.f9 rfl rfl rfl rfl rfl rfl rfl ⟨rfl, rfl, rfl, rfl, rfl⟩ rfl rfl rfl rfl rfl (by kernel_rfl) Try.func9 (by kernel_rfl)
    (of_decide_eq_true (by kernel_rfl)) (by unfold Func.isWrapper; first | (rw [if_pos (by decide +kernel)]; kernel_rfl) | (rw [if_neg (by decide +kernel)]; exact ⟨rfl, rfl⟩))
    (fun os started H enc _ => lifted os started H enc)

theorem proved : Rows.FnExactDiffSaid := over
#print axioms proved
end Go.Proofs.Ytjbeonicbcihlaa.fnExactDiff
