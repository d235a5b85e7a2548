/-
  For every two branches the law FnExactFsSame returns true, and what came in reads behind the call as it read before: no condition.
-/
import Derived.Test.YtjbeonicbcihlaaFsX
import Derived.Test.YtjbeonicbcihlaaFsSameW
import Derived.Deep.RegionHeld3
import Derived.Test.YtjbeonicbcihlaaRows
import Derived.WalkKit
import Derived.ProofKit
import Derived.OpenShut
import Derived.ShutString
import Derived.ChangeOld
import Derived.Below
namespace Go.Proofs.Ytjbeonicbcihlaa.fnExactFsSame
open Go.ChangeShapes Go.WideShapes Go.ChangeAt Go.RowKit
open Go.ChangeMaps (open_string shut_string)
set_option linter.unusedVariables false

theorem own : ownKnob Try.prog.godebug = none := by kernel_rfl
theorem laidOut : laidOutB Try.prog = true := by kernel_rfl

set_option maxRecDepth 20000 in
set_option maxHeartbeats 4000000 in
theorem walk (v0 : Value) (F0 : FsD) (f0 : FitF F0) (v1 : Value) (F1 : FsD) (f1 : FitF F1) (w : World) (r0 : RdFs w v0 F0) (r1 : RdFs w v1 F1) :
    Calls Try.prog 8 #[v0, v1] w fun e w' => e = .returned (.bool true) ∧ Below w.heap.size w w' := by
  obtain ⟨a0, c0, b0, e0, rfl⟩ := r0.lay
  have HR0 : Hid (∀ W, Below w.heap.size w W → RdFs W (.agg #[.slice a0 F0.ns.length c0, .slice b0 F0.ds.length e0]) F0) := fun W h => r0.below h (Nat.le_refl _)
  have HF0 : Hid (FitF F0) := f0
  clear r0 f0
  obtain ⟨a1, c1, b1, e1, rfl⟩ := r1.lay
  have HR1 : Hid (∀ W, Below w.heap.size w W → RdFs W (.agg #[.slice a1 F1.ns.length c1, .slice b1 F1.ds.length e1]) F1) := fun W h => r1.below h (Nat.le_refl _)
  have HF1 : Hid (FitF F1) := f1
  clear r1 f1
  obtain ⟨Q, HQ⟩ : ∃ x, Hid (fsSame F0 F1 = x) := ⟨_, rfl⟩
  have SC : Hid (∀ v0 v1 W, SmF F0 → SmF F1 → RdFs W v0 F0 → RdFs W v1 F1 → Calls Try.prog 28 #[v0, v1] W fun e w' => e = .returned (.bool Q) ∧ Below W.heap.size W w') := by
    intro v0 v1 W hs0 hs1 hv0 hv1
    rw [← HQ.out]
    exact specFsSame v0 v1 F0 F1 W hs0 hs1 hv0 hv1
  have IC : Hid (∀ v0 v1 W, SmF F0 → SmF F1 → RdFs W v0 F0 → RdFs W v1 F1 → Calls Try.prog 29 #[v0, v1] W fun e w' => e = .returned (.bool Q) ∧ Below W.heap.size W w') := by
    intro v0 v1 W hs0 hs1 hv0 hv1
    rw [← HQ.out]
    exact implFsSame v0 v1 F0 F1 W hs0 hs1 hv0 hv1
  go_enter Try.func8, Try.ntmps8
  go_wp2_with fail
  refine (szFsW _ F0 1048576 _ (by omega) (by omega) HF0.out (HR0.out _ (below2 _ _ _))).mono ?_
  rintro e w1 ⟨s0, rfl, hsz0, s0ge, s0le, hb1⟩
  have hVA0 : Var w1 w.heap.size #[.slice a0 F0.ns.length c0, .slice b0 F0.ds.length e0] 25 := ((Var.made w _ _).alloc _).new hb1
  have hVA1 : Var w1 (w.heap.size + 1) #[.slice a1 F1.ns.length c1, .slice b1 F1.ds.length e1] 25 := (Var.made2 w _ _ _).new hb1
  have hB1 : Below w.heap.size w w1 := (below2 w _ _).trans (hb1.mono (by simp; omega))
  by_cases hneg0 : s0 < 0
  · clear hsz0
    go_wp2
    go_ret
    exact ⟨rfl, hB1⟩
  have HS0 : Hid (SmF F0) := by have := hsz0 (by omega); exact smF_sz (by omega)
  clear hsz0 hb1
  have yA10 := hVA1.cell 0
  have yA11 := hVA1.cell 1
  simp at yA10 yA11
  go_wp2_with fail
  refine (szFsW _ F1 s0 _ (by omega) (by omega) HF1.out (HR1.out _ hB1)).mono ?_
  rintro e w2 ⟨s1, rfl, hsz1, s1ge, s1le, hb2⟩
  clear yA10 yA11
  have hB2 : Below w.heap.size w w2 := hB1.trans (hb2.mono hB1.size)
  have hVA0_2 : Var w2 w.heap.size #[.slice a0 F0.ns.length c0, .slice b0 F0.ds.length e0] 25 := hVA0.new hb2
  have hVA1_2 : Var w2 (w.heap.size + 1) #[.slice a1 F1.ns.length c1, .slice b1 F1.ds.length e1] 25 := hVA1.new hb2
  clear hB1 hVA0 hVA1
  by_cases hneg1 : s1 < 0
  · clear hsz1
    go_wp2
    go_ret
    exact ⟨rfl, hB2⟩
  have HS1 : Hid (SmF F1) := by have := hsz1 (by omega); exact smF_sz (by omega)
  clear hsz1 hb2
  have yA00 := hVA0_2.cell 0
  have yA01 := hVA0_2.cell 1
  simp at yA00 yA01
  have yA10 := hVA1_2.cell 0
  have yA11 := hVA1_2.cell 1
  simp at yA10 yA11
  have HVA0 : Hid (Var w2 w.heap.size #[.slice a0 F0.ns.length c0, .slice b0 F0.ds.length e0] 25) := hVA0_2
  have HVA1 : Hid (Var w2 (w.heap.size + 1) #[.slice a1 F1.ns.length c1, .slice b1 F1.ds.length e1] 25) := hVA1_2
  have HT6 : Hid (Calls Try.prog 12 #[(.agg #[.slice a0 F0.ns.length c0, .slice b0 F0.ds.length e0])] w2.drew fun e w' => ∃ v', e = .returned v' ∧ OwnF w' w2.heap.size v' F0 ∧ Below w2.heap.size w2 w') := by
    refine (toFsX _ F0 w2.drew HS0.out (HR0.out _ hB2.drew)).mono ?_
    rintro e w' ⟨v', rfl, h1, h2⟩
    exact ⟨v', rfl, h1, ⟨h2.os, h2.tape, h2.output, h2.size, h2.block⟩⟩
  go_wp2_with fail
  go_region_held3 (fun W => W.cell? ⟨w.heap.size, 0, none⟩ = some (.slice a0 F0.ns.length c0) ∧ W.cell? ⟨w.heap.size, 1, none⟩ = some (.slice b0 F0.ds.length e0) ∧ W.cell? ⟨(w.heap.size + 1), 0, none⟩ = some (.slice a1 F1.ns.length c1) ∧ W.cell? ⟨(w.heap.size + 1), 1, none⟩ = some (.slice b1 F1.ds.length e1)) (go_keep) (first
    | (go_at_call 28
       refine (SC.out _ _ _ HS0.out HS1.out (hp6.rd.below hbq (Nat.le_refl _)) hq6.rd).mono ?_
       rintro e w5 ⟨rfl, hbr⟩
       have hbJ : Below w2.heap.size w2 w5 := hbp2.trans (hbr.mono hbp2.size)
       obtain ⟨hv0, hv1, hv2, hv3⟩ : w5.cell? ⟨w.heap.size, 0, none⟩ = some (.slice a0 F0.ns.length c0) ∧ w5.cell? ⟨w.heap.size, 1, none⟩ = some (.slice b0 F0.ds.length e0) ∧ w5.cell? ⟨(w.heap.size + 1), 0, none⟩ = some (.slice a1 F1.ns.length c1) ∧ w5.cell? ⟨(w.heap.size + 1), 1, none⟩ = some (.slice b1 F1.ds.length e1) := ⟨(HVA0.out.new hbJ).cell 0, (HVA0.out.new hbJ).cell 1, (HVA1.out.new hbJ).cell 0, (HVA1.out.new hbJ).cell 1⟩
       clear hp6 hq6 hbp hbq hbr hbp2 ht0 ht1 ht2 ht3)
    | (go_at_call_of 12 (c1); 
       refine (toFsX _ F1 _ HS1.out (HR1.out _ (hB2.trans (hbp.mono hB2.size)))).mono ?_
       rintro e w4 ⟨x7, rfl, hq6, hbq⟩
       have hbp2 : Below w2.heap.size w2 w4 := hbp.trans (hbq.mono hbp.size)
       obtain ⟨ht0, ht1, ht2, ht3⟩ : w4.cell? ⟨w.heap.size, 0, none⟩ = some (.slice a0 F0.ns.length c0) ∧ w4.cell? ⟨w.heap.size, 1, none⟩ = some (.slice b0 F0.ds.length e0) ∧ w4.cell? ⟨(w.heap.size + 1), 0, none⟩ = some (.slice a1 F1.ns.length c1) ∧ w4.cell? ⟨(w.heap.size + 1), 1, none⟩ = some (.slice b1 F1.ds.length e1) := ⟨(HVA0.out.new hbp2).cell 0, (HVA0.out.new hbp2).cell 1, (HVA1.out.new hbp2).cell 0, (HVA1.out.new hbp2).cell 1⟩
       clear hu0 hu1 hu2 hu3)
    | (go_at_call 12
       refine HT6.out.mono ?_
       rintro e w3 ⟨x6, rfl, hp6, hbp⟩
       obtain ⟨hu0, hu1, hu2, hu3⟩ : w3.cell? ⟨w.heap.size, 0, none⟩ = some (.slice a0 F0.ns.length c0) ∧ w3.cell? ⟨w.heap.size, 1, none⟩ = some (.slice b0 F0.ds.length e0) ∧ w3.cell? ⟨(w.heap.size + 1), 0, none⟩ = some (.slice a1 F1.ns.length c1) ∧ w3.cell? ⟨(w.heap.size + 1), 1, none⟩ = some (.slice b1 F1.ds.length e1) := ⟨(HVA0.out.new hbp).cell 0, (HVA0.out.new hbp).cell 1, (HVA1.out.new hbp).cell 0, (HVA1.out.new hbp).cell 1⟩
       skip))
  all_goals
    clear HVA0 HVA1 HT6 hv0 hv1 hv2 hv3 yA00 yA01 yA10 yA11
    have hB5 : Below w.heap.size w w5 := hB2.trans (hbJ.mono hB2.size)
    have hVA0_5 : Var w5 w.heap.size #[.slice a0 F0.ns.length c0, .slice b0 F0.ds.length e0] 25 := hVA0_2.new hbJ
    have hVA1_5 : Var w5 (w.heap.size + 1) #[.slice a1 F1.ns.length c1, .slice b1 F1.ds.length e1] 25 := hVA1_2.new hbJ
    clear hB2 hVA0_2 hVA1_2
    clear hbJ
    have yA00 := hVA0_5.cell 0
    have yA01 := hVA0_5.cell 1
    simp at yA00 yA01
    go_wp2_with fail
    refine (toFsX _ F0 _ HS0.out (HR0.out _ hB5)).mono ?_
    rintro e w6 ⟨z0, rfl, hox0, hb6⟩
    clear yA00 yA01
    have hB6 : Below w.heap.size w w6 := hB5.trans (hb6.mono hB5.size)
    have hVA0_6 : Var w6 w.heap.size #[.slice a0 F0.ns.length c0, .slice b0 F0.ds.length e0] 25 := hVA0_5.new hb6
    have hVA1_6 : Var w6 (w.heap.size + 1) #[.slice a1 F1.ns.length c1, .slice b1 F1.ds.length e1] 25 := hVA1_5.new hb6
    clear hB5 hVA0_5 hVA1_5
    clear hb6
    obtain ⟨aX0, cX0, bX0, eX0, rfl⟩ := hox0.lay
    have hB6a : Below w.heap.size w (w6.alloc (.cells #[.slice aX0 F0.ns.length cX0, .slice bX0 F0.ds.length eX0] 30)) := hB6.trans ((below1 w6 (.cells #[.slice aX0 F0.ns.length cX0, .slice bX0 F0.ds.length eX0] 30)).mono hB6.size)
    have hVA0_6a : Var (w6.alloc (.cells #[.slice aX0 F0.ns.length cX0, .slice bX0 F0.ds.length eX0] 30)) w.heap.size #[.slice a0 F0.ns.length c0, .slice b0 F0.ds.length e0] 25 := hVA0_6.new (below1 w6 (.cells #[.slice aX0 F0.ns.length cX0, .slice bX0 F0.ds.length eX0] 30))
    have hVA1_6a : Var (w6.alloc (.cells #[.slice aX0 F0.ns.length cX0, .slice bX0 F0.ds.length eX0] 30)) (w.heap.size + 1) #[.slice a1 F1.ns.length c1, .slice b1 F1.ds.length e1] 25 := hVA1_6.new (below1 w6 (.cells #[.slice aX0 F0.ns.length cX0, .slice bX0 F0.ds.length eX0] 30))
    have hOX0_6a := hox0.below (below1 w6 (.cells #[.slice aX0 F0.ns.length cX0, .slice bX0 F0.ds.length eX0] 30))
    clear hB6 hVA0_6 hVA1_6 hox0
    have hVX0 : Var (w6.alloc (.cells #[.slice aX0 F0.ns.length cX0, .slice bX0 F0.ds.length eX0] 30)) w6.heap.size #[.slice aX0 F0.ns.length cX0, .slice bX0 F0.ds.length eX0] 30 := Var.made w6 _ _
    have yA10 := hVA1_6a.cell 0
    have yA11 := hVA1_6a.cell 1
    simp at yA10 yA11
    go_wp2_with fail
    refine (toFsX _ F1 _ HS1.out (HR1.out _ hB6a)).mono ?_
    rintro e w7 ⟨z1, rfl, hox1, hb7⟩
    clear yA10 yA11
    have hB7 : Below w.heap.size w w7 := hB6a.trans (hb7.mono hB6a.size)
    have hVA0_7 : Var w7 w.heap.size #[.slice a0 F0.ns.length c0, .slice b0 F0.ds.length e0] 25 := hVA0_6a.new hb7
    have hVA1_7 : Var w7 (w.heap.size + 1) #[.slice a1 F1.ns.length c1, .slice b1 F1.ds.length e1] 25 := hVA1_6a.new hb7
    have hVX0_7 : Var w7 w6.heap.size #[.slice aX0 F0.ns.length cX0, .slice bX0 F0.ds.length eX0] 30 := hVX0.new hb7
    have hOX0_7 := hOX0_6a.below hb7
    clear hB6a hVA0_6a hVA1_6a hVX0 hOX0_6a
    clear hb7
    obtain ⟨aX1, cX1, bX1, eX1, rfl⟩ := hox1.lay
    have hB7a : Below w.heap.size w (w7.alloc (.cells #[.slice aX1 F1.ns.length cX1, .slice bX1 F1.ds.length eX1] 30)) := hB7.trans ((below1 w7 (.cells #[.slice aX1 F1.ns.length cX1, .slice bX1 F1.ds.length eX1] 30)).mono hB7.size)
    have hVA0_7a : Var (w7.alloc (.cells #[.slice aX1 F1.ns.length cX1, .slice bX1 F1.ds.length eX1] 30)) w.heap.size #[.slice a0 F0.ns.length c0, .slice b0 F0.ds.length e0] 25 := hVA0_7.new (below1 w7 (.cells #[.slice aX1 F1.ns.length cX1, .slice bX1 F1.ds.length eX1] 30))
    have hVA1_7a : Var (w7.alloc (.cells #[.slice aX1 F1.ns.length cX1, .slice bX1 F1.ds.length eX1] 30)) (w.heap.size + 1) #[.slice a1 F1.ns.length c1, .slice b1 F1.ds.length e1] 25 := hVA1_7.new (below1 w7 (.cells #[.slice aX1 F1.ns.length cX1, .slice bX1 F1.ds.length eX1] 30))
    have hVX0_7a : Var (w7.alloc (.cells #[.slice aX1 F1.ns.length cX1, .slice bX1 F1.ds.length eX1] 30)) w6.heap.size #[.slice aX0 F0.ns.length cX0, .slice bX0 F0.ds.length eX0] 30 := hVX0_7.new (below1 w7 (.cells #[.slice aX1 F1.ns.length cX1, .slice bX1 F1.ds.length eX1] 30))
    have hOX0_7a := hOX0_7.below (below1 w7 (.cells #[.slice aX1 F1.ns.length cX1, .slice bX1 F1.ds.length eX1] 30))
    have hOX1_7a := hox1.below (below1 w7 (.cells #[.slice aX1 F1.ns.length cX1, .slice bX1 F1.ds.length eX1] 30))
    clear hB7 hVA0_7 hVA1_7 hVX0_7 hOX0_7 hox1
    have hVX1 : Var (w7.alloc (.cells #[.slice aX1 F1.ns.length cX1, .slice bX1 F1.ds.length eX1] 30)) w7.heap.size #[.slice aX1 F1.ns.length cX1, .slice bX1 F1.ds.length eX1] 30 := Var.made w7 _ _
    have yX00 := hVX0_7a.cell 0
    have yX01 := hVX0_7a.cell 1
    simp at yX00 yX01
    have yX10 := hVX1.cell 0
    have yX11 := hVX1.cell 1
    simp at yX10 yX11
    go_wp2_with fail
    refine (IC.out _ _ _ HS0.out HS1.out hOX0_7a.rd hOX1_7a.rd).mono ?_
    rintro e w8 ⟨rfl, hb8⟩
    clear yX00 yX01 yX10 yX11
    have hB8 : Below w.heap.size w w8 := hB7a.trans (hb8.mono hB7a.size)
    have hVA0_8 : Var w8 w.heap.size #[.slice a0 F0.ns.length c0, .slice b0 F0.ds.length e0] 25 := hVA0_7a.new hb8
    have hVA1_8 : Var w8 (w.heap.size + 1) #[.slice a1 F1.ns.length c1, .slice b1 F1.ds.length e1] 25 := hVA1_7a.new hb8
    have hVX0_8 : Var w8 w6.heap.size #[.slice aX0 F0.ns.length cX0, .slice bX0 F0.ds.length eX0] 30 := hVX0_7a.new hb8
    have hVX1_8 : Var w8 w7.heap.size #[.slice aX1 F1.ns.length cX1, .slice bX1 F1.ds.length eX1] 30 := hVX1.new hb8
    have hOX0_8 := hOX0_7a.below hb8
    have hOX1_8 := hOX1_7a.below hb8
    clear hB7a hVA0_7a hVA1_7a hVX0_7a hVX1 hOX0_7a hOX1_7a
    clear hb8
    have yX00 := hVX0_8.cell 0
    have yX01 := hVX0_8.cell 1
    simp at yX00 yX01
    have yA00 := hVA0_8.cell 0
    have yA01 := hVA0_8.cell 1
    simp at yA00 yA01
    have HVX : Hid (Var w8 w6.heap.size #[.slice aX0 F0.ns.length cX0, .slice bX0 F0.ds.length eX0] 30) := hVX0_8
    have HRX : Hid (RdFs w8 (.agg #[.slice aX0 F0.ns.length cX0, .slice bX0 F0.ds.length eX0]) F0) := hOX0_8.rd
    have HVG : Hid (Var w8 w.heap.size #[.slice a0 F0.ns.length c0, .slice b0 F0.ds.length e0] 25) := hVA0_8
    have HT6 : Hid (Calls Try.prog 12 #[(.agg #[.slice a0 F0.ns.length c0, .slice b0 F0.ds.length e0])] w8.drew fun e w' => ∃ v', e = .returned v' ∧ OwnF w' w8.heap.size v' F0 ∧ Below w8.heap.size w8 w') := by
      refine (toFsX _ F0 w8.drew HS0.out (HR0.out _ hB8.drew)).mono ?_
      rintro e w' ⟨v', rfl, h1, h2⟩
      exact ⟨v', rfl, h1, ⟨h2.os, h2.tape, h2.output, h2.size, h2.block⟩⟩
    go_wp2_with fail
    go_region_held3 (fun W => W.cell? ⟨w6.heap.size, 0, none⟩ = some (.slice aX0 F0.ns.length cX0) ∧ W.cell? ⟨w6.heap.size, 1, none⟩ = some (.slice bX0 F0.ds.length eX0) ∧ W.cell? ⟨w.heap.size, 0, none⟩ = some (.slice a0 F0.ns.length c0) ∧ W.cell? ⟨w.heap.size, 1, none⟩ = some (.slice b0 F0.ds.length e0)) (go_keep) (first
      | (go_at_call 12
         refine HT6.out.mono ?_
         rintro e w9 ⟨x6, rfl, ho6, hb9⟩
         obtain ⟨hu0, hu1, hu2, hu3⟩ : w9.cell? ⟨w6.heap.size, 0, none⟩ = some (.slice aX0 F0.ns.length cX0) ∧ w9.cell? ⟨w6.heap.size, 1, none⟩ = some (.slice bX0 F0.ds.length eX0) ∧ w9.cell? ⟨w.heap.size, 0, none⟩ = some (.slice a0 F0.ns.length c0) ∧ w9.cell? ⟨w.heap.size, 1, none⟩ = some (.slice b0 F0.ds.length e0) := ⟨(HVX.out.new hb9).cell 0, (HVX.out.new hb9).cell 1, (HVG.out.new hb9).cell 0, (HVG.out.new hb9).cell 1⟩
         skip)
      | (go_at_call 14
         refine (eqFsW _ x6 F0 _ HS0.out (HRX.out.below hb9 (Nat.le_refl _)) ho6.rd).mono ?_
         rintro e w10 ⟨rfl, hb10⟩
         have hbJ : Below w8.heap.size w8 w10 := hb9.trans (hb10.mono hb9.size)
         obtain ⟨hv0, hv1, hv2, hv3⟩ : w10.cell? ⟨w6.heap.size, 0, none⟩ = some (.slice aX0 F0.ns.length cX0) ∧ w10.cell? ⟨w6.heap.size, 1, none⟩ = some (.slice bX0 F0.ds.length eX0) ∧ w10.cell? ⟨w.heap.size, 0, none⟩ = some (.slice a0 F0.ns.length c0) ∧ w10.cell? ⟨w.heap.size, 1, none⟩ = some (.slice b0 F0.ds.length e0) := ⟨(HVX.out.new hbJ).cell 0, (HVX.out.new hbJ).cell 1, (HVG.out.new hbJ).cell 0, (HVG.out.new hbJ).cell 1⟩
         clear hu0 hu1 hu2 hu3 ho6 hb9 hb10))
    all_goals
      clear HVX HVG HRX HT6 hv0 hv1 hv2 hv3 yX00 yX01 yA00 yA01
      have hB10 : Below w.heap.size w w10 := hB8.trans (hbJ.mono hB8.size)
      have hVA0_10 : Var w10 w.heap.size #[.slice a0 F0.ns.length c0, .slice b0 F0.ds.length e0] 25 := hVA0_8.new hbJ
      have hVA1_10 : Var w10 (w.heap.size + 1) #[.slice a1 F1.ns.length c1, .slice b1 F1.ds.length e1] 25 := hVA1_8.new hbJ
      have hVX0_10 : Var w10 w6.heap.size #[.slice aX0 F0.ns.length cX0, .slice bX0 F0.ds.length eX0] 30 := hVX0_8.new hbJ
      have hVX1_10 : Var w10 w7.heap.size #[.slice aX1 F1.ns.length cX1, .slice bX1 F1.ds.length eX1] 30 := hVX1_8.new hbJ
      have hOX0_10 := hOX0_8.below hbJ
      have hOX1_10 := hOX1_8.below hbJ
      clear hB8 hVA0_8 hVA1_8 hVX0_8 hVX1_8 hOX0_8 hOX1_8
      clear hbJ
      have yX10 := hVX1_10.cell 0
      have yX11 := hVX1_10.cell 1
      simp at yX10 yX11
      have yA10 := hVA1_10.cell 0
      have yA11 := hVA1_10.cell 1
      simp at yA10 yA11
      have HVX : Hid (Var w10 w7.heap.size #[.slice aX1 F1.ns.length cX1, .slice bX1 F1.ds.length eX1] 30) := hVX1_10
      have HRX : Hid (RdFs w10 (.agg #[.slice aX1 F1.ns.length cX1, .slice bX1 F1.ds.length eX1]) F1) := hOX1_10.rd
      have HVG : Hid (Var w10 (w.heap.size + 1) #[.slice a1 F1.ns.length c1, .slice b1 F1.ds.length e1] 25) := hVA1_10
      have HT6 : Hid (Calls Try.prog 12 #[(.agg #[.slice a1 F1.ns.length c1, .slice b1 F1.ds.length e1])] w10.drew fun e w' => ∃ v', e = .returned v' ∧ OwnF w' w10.heap.size v' F1 ∧ Below w10.heap.size w10 w') := by
        refine (toFsX _ F1 w10.drew HS1.out (HR1.out _ hB10.drew)).mono ?_
        rintro e w' ⟨v', rfl, h1, h2⟩
        exact ⟨v', rfl, h1, ⟨h2.os, h2.tape, h2.output, h2.size, h2.block⟩⟩
      go_wp2_with fail
      go_region_held3 (fun W => W.cell? ⟨w7.heap.size, 0, none⟩ = some (.slice aX1 F1.ns.length cX1) ∧ W.cell? ⟨w7.heap.size, 1, none⟩ = some (.slice bX1 F1.ds.length eX1) ∧ W.cell? ⟨(w.heap.size + 1), 0, none⟩ = some (.slice a1 F1.ns.length c1) ∧ W.cell? ⟨(w.heap.size + 1), 1, none⟩ = some (.slice b1 F1.ds.length e1)) (go_keep) (first
        | (go_at_call 12
           refine HT6.out.mono ?_
           rintro e w11 ⟨x6, rfl, ho6, hb11⟩
           obtain ⟨hu0, hu1, hu2, hu3⟩ : w11.cell? ⟨w7.heap.size, 0, none⟩ = some (.slice aX1 F1.ns.length cX1) ∧ w11.cell? ⟨w7.heap.size, 1, none⟩ = some (.slice bX1 F1.ds.length eX1) ∧ w11.cell? ⟨(w.heap.size + 1), 0, none⟩ = some (.slice a1 F1.ns.length c1) ∧ w11.cell? ⟨(w.heap.size + 1), 1, none⟩ = some (.slice b1 F1.ds.length e1) := ⟨(HVX.out.new hb11).cell 0, (HVX.out.new hb11).cell 1, (HVG.out.new hb11).cell 0, (HVG.out.new hb11).cell 1⟩
           skip)
        | (go_at_call 14
           refine (eqFsW _ x6 F1 _ HS1.out (HRX.out.below hb11 (Nat.le_refl _)) ho6.rd).mono ?_
           rintro e w12 ⟨rfl, hb12⟩
           have hbJ : Below w10.heap.size w10 w12 := hb11.trans (hb12.mono hb11.size)
           obtain ⟨hv0, hv1, hv2, hv3⟩ : w12.cell? ⟨w7.heap.size, 0, none⟩ = some (.slice aX1 F1.ns.length cX1) ∧ w12.cell? ⟨w7.heap.size, 1, none⟩ = some (.slice bX1 F1.ds.length eX1) ∧ w12.cell? ⟨(w.heap.size + 1), 0, none⟩ = some (.slice a1 F1.ns.length c1) ∧ w12.cell? ⟨(w.heap.size + 1), 1, none⟩ = some (.slice b1 F1.ds.length e1) := ⟨(HVX.out.new hbJ).cell 0, (HVX.out.new hbJ).cell 1, (HVG.out.new hbJ).cell 0, (HVG.out.new hbJ).cell 1⟩
           clear hu0 hu1 hu2 hu3 ho6 hb11 hb12))
      all_goals
        clear HVX HVG HRX HT6 hv0 hv1 hv2 hv3 yX10 yX11 yA10 yA11
        have hB12 : Below w.heap.size w w12 := hB10.trans (hbJ.mono hB10.size)
        have hVA0_12 : Var w12 w.heap.size #[.slice a0 F0.ns.length c0, .slice b0 F0.ds.length e0] 25 := hVA0_10.new hbJ
        have hVA1_12 : Var w12 (w.heap.size + 1) #[.slice a1 F1.ns.length c1, .slice b1 F1.ds.length e1] 25 := hVA1_10.new hbJ
        have hVX0_12 : Var w12 w6.heap.size #[.slice aX0 F0.ns.length cX0, .slice bX0 F0.ds.length eX0] 30 := hVX0_10.new hbJ
        have hVX1_12 : Var w12 w7.heap.size #[.slice aX1 F1.ns.length cX1, .slice bX1 F1.ds.length eX1] 30 := hVX1_10.new hbJ
        have hOX0_12 := hOX0_10.below hbJ
        have hOX1_12 := hOX1_10.below hbJ
        clear hB10 hVA0_10 hVA1_10 hVX0_10 hVX1_10 hOX0_10 hOX1_10
        clear hbJ
        go_wp2
        go_ret
        exact ⟨rfl, hB12⟩

set_option maxRecDepth 100000 in
theorem lifted (os : Os) (started : os.Started) (H : Type) (enc : TypeId × Value → H) :
    ReturnsInHanded {} Try.checked os 8 .any (Rows.fnExactFsSameSpec.pre6 enc Try.prog Try.f8 Rows.fnExactFsSameRow.domain false) (Rows.fnExactFsSameSpec.post enc Try.prog Try.f8 false true false false) := by
  refine returnsInHanded_of_change (C := Try.checked) own started (by kernel_rfl) Try.func8
    (ChangeSpec.witness6 (enc := enc) (C := Try.checked) false ⟨#[], #[.agg #[.slice none 0 0, .slice none 0 0], .agg #[.slice none 0 0, .slice none 0 0]], []⟩ 8 (by kernel_rfl) (by kernel_rfl) (by kernel_rfl) (by kernel_rfl)) ?_
  intro W base args ds gs before hval0 hW hcnd _
  have hval : ∀ (j : Nat) t v, Try.f8.params[j]? = some t → args[j]? = some v → Value.okWide Try.prog W .any base t v := hval0
  have hW' := hW
  obtain ⟨p, q, hA0, hV, rfl, hfz, hnd⟩ := hW
  have hA : DataW.TrodAll enc Try.prog W 0 (fun _ => true) true Try.f8.params.toList args.toList ds p := hA0
  rw [Try.params8] at hA hval
  obtain ⟨v0, vs0, d0, ds0, p0, q0, hargs, rfl, rfl, h0, rr0⟩ := trodAll_cons hA
  obtain ⟨v1, vs1, d1, ds1, p1, q1, rfl, rfl, rfl, h1, rr1⟩ := trodAll_cons rr0
  obtain ⟨rfl, rfl, rfl⟩ := trodAll_nil rr1
  obtain rfl : args = #[v0, v1] := by cases args; simp_all
  obtain ⟨rfl, rfl⟩ := trodVars_none hV
  have k0 := h0
  have lt0 : ∀ x ∈ p0, x.block < W.heap.size := by obtain ⟨m, hm⟩ := k0; exact DataW.trod_lt m _ _ _ hm
  have k1 := h1
  have lt1 : ∀ x ∈ p1, x.block < W.heap.size := by obtain ⟨m, hm⟩ := k1; exact DataW.trod_lt m _ _ _ hm
  obtain ⟨F0, f0, r0⟩ := open_Fs (hval 0 25 v0 rfl rfl) h0
  obtain ⟨F1, f1, r1⟩ := open_Fs (hval 1 25 v1 rfl rfl) h1
  clear hA0 hval0
  refine (walk v0 F0 f0 v1 F1 f1 W r0 r1).mono fun e W' ⟨he, bel⟩ => ?_
  subst he
  exact ⟨_, rfl, _, _, _, [], _, [], hW', trodAll_mk1 (shut_bool Try.underlying4 _), (trodAll_cons_mk (Below.trod laidOut (by kernel_rfl) (of_decide_eq_true (by kernel_rfl)) k0 bel lt0) (trodAll_cons_mk (Below.trod laidOut (by kernel_rfl) (of_decide_eq_true (by kernel_rfl)) k1 bel lt1) trodAll_mk0)), rfl, bel.frame _, fun h => by cases h⟩

theorem over : Rows.fnExactFsSameRow.holds Try.pinned (OpenSpec.ofChange Rows.fnExactFsSameSpec) :=
  OpenClaim.holds_of_wide 8 Try.f8 rfl rfl rfl rfl rfl rfl rfl ⟨rfl, rfl, rfl, rfl, rfl⟩ rfl rfl rfl rfl rfl (by kernel_rfl) Try.func8 (by kernel_rfl)
    (of_decide_eq_true (by kernel_rfl)) (by unfold Func.isWrapper; first | (rw [if_pos (by decide +kernel)]; kernel_rfl) | (rw [if_neg (by decide +kernel)]; exact ⟨rfl, rfl⟩))
    (fun os started H enc _ => lifted os started H enc)

theorem proved : Rows.FnExactFsSameSaid := over
#print axioms proved
end Go.Proofs.Ytjbeonicbcihlaa.fnExactFsSame
