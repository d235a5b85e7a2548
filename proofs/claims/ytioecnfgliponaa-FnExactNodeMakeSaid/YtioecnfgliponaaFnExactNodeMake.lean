/-
  For every branch and number the law FnExactNodeMake returns true, and what came in reads behind the call as it read before: no condition.
-/
import Derived.Test.YtioecnfgliponaaAnsW
import Derived.Test.YtioecnfgliponaaBunL
import Derived.Test.YtioecnfgliponaaBunK
import Derived.Test.YtioecnfgliponaaBunH
import Derived.Deep.RegionHeld3
import Derived.Test.YtioecnfgliponaaRows
import Derived.WalkKit
import Derived.ProofKit
import Derived.OpenShut
import Derived.ShutString
import Derived.ChangeOld
import Derived.Below
namespace Go.Proofs.Ytioecnfgliponaa.fnExactNodeMake
open Go.ChangeShapes Go.WideShapes Go.ChangeAt Go.RowKit
open Go.ChangeMaps (open_string shut_string)
set_option linter.unusedVariables false

theorem own : ownKnob Try.prog.godebug = none := by kernel_rfl
theorem laidOut : laidOutB Try.prog = true := by kernel_rfl

set_option maxRecDepth 20000 in
set_option maxHeartbeats 8000000 in
theorem walk (v0 : Value) (F0 : FsD) (f0 : FitF F0) (a1 : Int) (w1 : (Lit.int .i64 a1).wf = true) (w : World) (r0 : RdFs w v0 F0) :
    Calls Try.prog 5 #[v0, .int .i64 a1] w fun e w' => e = .returned (.bool true) ∧ Below w.heap.size w w' := by
  obtain ⟨a0, c0, b0, e0, rfl⟩ := r0.lay
  have HR0 : Hid (∀ W, Below w.heap.size w W → RdFs W (.agg #[.slice a0 F0.ns.length c0, .slice b0 F0.ds.length e0]) F0) := fun W h => r0.below h (Nat.le_refl _)
  have HF0 : Hid (FitF F0) := f0
  clear r0 f0
  obtain ⟨E0, HE0⟩ : ∃ x, Hid (mdD F0 a1 = x) := ⟨_, rfl⟩
  obtain ⟨E1, HE1⟩ : ∃ x, Hid (mdI F0 a1 = x) := ⟨_, rfl⟩
  obtain ⟨E2, HE2⟩ : ∃ x, Hid (mdOk F0 a1 = x) := ⟨_, rfl⟩
  have HGX0 : Hid (szF F0 ≤ 1048576 → szF E0 ≤ 1048576) := by show _ → szF E0 ≤ 1048576; rw [← HE0.out]; exact fun h => mdD_sz h
  have SC : Hid (∀ v0 W, szF F0 ≤ 1048576 → RdFs W v0 F0 → Calls Try.prog 16 #[v0, .int .i64 a1] W fun e w' => ∃ u0, e = .returned (.tuple #[u0, .int .i64 E1, .bool E2]) ∧ OwnFs w' W.heap.size w'.heap.size u0 E0 ∧ Below W.heap.size W w') := by
    intro v0 W hs0 hv0
    rw [← HE0.out]
    rw [← HE1.out]
    rw [← HE2.out]
    exact specNodeMake v0 F0 a1 W (smF_sz hs0) hv0
  have IC : Hid (∀ v0 W, szF F0 ≤ 1048576 → RdFs W v0 F0 → Calls Try.prog 17 #[v0, .int .i64 a1] W fun e w' => ∃ u0, e = .returned (.tuple #[u0, .int .i64 E1, .bool E2]) ∧ OwnFs w' W.heap.size w'.heap.size u0 E0 ∧ Below W.heap.size W w') := by
    intro v0 W hs0 hv0
    rw [← HE0.out]
    rw [← HE1.out]
    rw [← HE2.out]
    exact implNodeMake v0 F0 a1 W (smF_sz hs0) hv0
  clear HE0
  clear HE1
  clear HE2
  go_enter Try.func5, Try.ntmps5
  go_wp2_with fail
  refine (szFsW _ F0 1048576 _ (by omega) (by omega) HF0.out (HR0.out _ (below1 _ _))).mono ?_
  rintro e w1 ⟨s0, rfl, hsz0, s0ge, s0le, hb1⟩
  have hVA0 : Var w1 w.heap.size #[.slice a0 F0.ns.length c0, .slice b0 F0.ds.length e0] 25 := (Var.made w _ _).new hb1
  have hz0 : w.heap.size + 1 ≤ w1.heap.size := by have := hb1.size; simpa using this
  have hB0 : Below w.heap.size w w1 := (below1 w _).trans (hb1.mono (by simp))
  by_cases hneg0 : s0 < 0
  · clear hsz0
    go_wp2
    go_ret
    exact ⟨rfl, hB0⟩
  have HS0 : Hid (szF F0 ≤ 1048576) := by have := hsz0 (by omega); show szF F0 ≤ 1048576; omega
  clear hsz0 hb1
  have HG0 : Hid (szF E0 ≤ 1048576) := HGX0.out HS0.out
  clear HGX0
  have yA00 := hVA0.cell 0
  have yA01 := hVA0.cell 1
  simp at yA00 yA01
  go_wp2_with fail
  refine (toFsW _ F0 _ (smF_sz HS0.out) (HR0.out _ hB0)).mono ?_
  rintro e w2 ⟨x2, rfl, ho2, hb2⟩
  clear yA00 yA01
  have hz3 : w1.heap.size ≤ w2.heap.size := hb2.size
  have hB3 : Below w.heap.size w w2 := hB0.trans (hb2.mono hB0.size)
  have hVA0_3 : Var w2 w.heap.size #[.slice a0 F0.ns.length c0, .slice b0 F0.ds.length e0] 25 := hVA0.new hb2
  clear hB0 hVA0
  clear hb2
  go_wp2_with fail
  refine (SC.out _ _ HS0.out ho2.rd).mono ?_
  rintro e w4 ⟨uW0, rfl, hOW0, hb4⟩
  have hz5 : w2.heap.size ≤ w4.heap.size := hb4.size
  have hB5 : Below w.heap.size w w4 := hB3.trans (hb4.mono hB3.size)
  have hVA0_5 : Var w4 w.heap.size #[.slice a0 F0.ns.length c0, .slice b0 F0.ds.length e0] 25 := hVA0_3.new hb4
  clear hB3 hVA0_3
  clear hb4
  obtain ⟨aW0, cW0, bW0, eW0, rfl⟩ := hOW0.lay
  clear ho2
  have hsz6 : (w4.alloc (.cells #[.slice aW0 E0.ns.length cW0, .slice bW0 E0.ds.length eW0] 31)).heap.size = w4.heap.size + 1 := by simp
  have hz7 : w4.heap.size ≤ (w4.alloc (.cells #[.slice aW0 E0.ns.length cW0, .slice bW0 E0.ds.length eW0] 31)).heap.size := (below1 w4 (.cells #[.slice aW0 E0.ns.length cW0, .slice bW0 E0.ds.length eW0] 31)).size
  have hB7 : Below w.heap.size w (w4.alloc (.cells #[.slice aW0 E0.ns.length cW0, .slice bW0 E0.ds.length eW0] 31)) := hB5.trans ((below1 w4 (.cells #[.slice aW0 E0.ns.length cW0, .slice bW0 E0.ds.length eW0] 31)).mono hB5.size)
  have hVA0_7 : Var (w4.alloc (.cells #[.slice aW0 E0.ns.length cW0, .slice bW0 E0.ds.length eW0] 31)) w.heap.size #[.slice a0 F0.ns.length c0, .slice b0 F0.ds.length e0] 25 := hVA0_5.new (below1 w4 (.cells #[.slice aW0 E0.ns.length cW0, .slice bW0 E0.ds.length eW0] 31))
  have hOW0_7 := hOW0.below (below1 w4 (.cells #[.slice aW0 E0.ns.length cW0, .slice bW0 E0.ds.length eW0] 31))
  clear hB5 hVA0_5 hOW0
  have hVW0 : Var (w4.alloc (.cells #[.slice aW0 E0.ns.length cW0, .slice bW0 E0.ds.length eW0] 31)) w4.heap.size #[.slice aW0 E0.ns.length cW0, .slice bW0 E0.ds.length eW0] 31 := Var.made w4 _ _
  have yA00 := hVA0_7.cell 0
  have yA01 := hVA0_7.cell 1
  simp at yA00 yA01
  go_wp2_with fail
  refine (toFsW _ F0 _ (smF_sz HS0.out) (HR0.out _ hB7)).mono ?_
  rintro e w8 ⟨z0, rfl, hOX0, hb8⟩
  clear yA00 yA01
  have hz9 : (w4.alloc (.cells #[.slice aW0 E0.ns.length cW0, .slice bW0 E0.ds.length eW0] 31)).heap.size ≤ w8.heap.size := hb8.size
  have hB9 : Below w.heap.size w w8 := hB7.trans (hb8.mono hB7.size)
  have hVA0_9 : Var w8 w.heap.size #[.slice a0 F0.ns.length c0, .slice b0 F0.ds.length e0] 25 := hVA0_7.new hb8
  have hVW0_9 : Var w8 w4.heap.size #[.slice aW0 E0.ns.length cW0, .slice bW0 E0.ds.length eW0] 31 := hVW0.new hb8
  have hOW0_9 := hOW0_7.below hb8
  clear hB7 hVA0_7 hVW0 hOW0_7
  clear hb8
  obtain ⟨aX0, cX0, bX0, eX0, rfl⟩ := hOX0.lay
  have hsz10 : (w8.alloc (.cells #[.slice aX0 F0.ns.length cX0, .slice bX0 F0.ds.length eX0] 31)).heap.size = w8.heap.size + 1 := by simp
  have hz11 : w8.heap.size ≤ (w8.alloc (.cells #[.slice aX0 F0.ns.length cX0, .slice bX0 F0.ds.length eX0] 31)).heap.size := (below1 w8 (.cells #[.slice aX0 F0.ns.length cX0, .slice bX0 F0.ds.length eX0] 31)).size
  have hB11 : Below w.heap.size w (w8.alloc (.cells #[.slice aX0 F0.ns.length cX0, .slice bX0 F0.ds.length eX0] 31)) := hB9.trans ((below1 w8 (.cells #[.slice aX0 F0.ns.length cX0, .slice bX0 F0.ds.length eX0] 31)).mono hB9.size)
  have hVA0_11 : Var (w8.alloc (.cells #[.slice aX0 F0.ns.length cX0, .slice bX0 F0.ds.length eX0] 31)) w.heap.size #[.slice a0 F0.ns.length c0, .slice b0 F0.ds.length e0] 25 := hVA0_9.new (below1 w8 (.cells #[.slice aX0 F0.ns.length cX0, .slice bX0 F0.ds.length eX0] 31))
  have hVW0_11 : Var (w8.alloc (.cells #[.slice aX0 F0.ns.length cX0, .slice bX0 F0.ds.length eX0] 31)) w4.heap.size #[.slice aW0 E0.ns.length cW0, .slice bW0 E0.ds.length eW0] 31 := hVW0_9.new (below1 w8 (.cells #[.slice aX0 F0.ns.length cX0, .slice bX0 F0.ds.length eX0] 31))
  have hOW0_11 := hOW0_9.below (below1 w8 (.cells #[.slice aX0 F0.ns.length cX0, .slice bX0 F0.ds.length eX0] 31))
  have hOX0_11 := hOX0.below (below1 w8 (.cells #[.slice aX0 F0.ns.length cX0, .slice bX0 F0.ds.length eX0] 31))
  clear hB9 hVA0_9 hVW0_9 hOW0_9 hOX0
  have hVX0 : Var (w8.alloc (.cells #[.slice aX0 F0.ns.length cX0, .slice bX0 F0.ds.length eX0] 31)) w8.heap.size #[.slice aX0 F0.ns.length cX0, .slice bX0 F0.ds.length eX0] 31 := Var.made w8 _ _
  have yX00 := hVX0.cell 0
  have yX01 := hVX0.cell 1
  simp at yX00 yX01
  go_wp2_with fail
  refine (IC.out _ _ HS0.out hOX0_11.rd).mono ?_
  rintro e w12 ⟨uG0, rfl, hOG0, hb12⟩
  clear yX00 yX01
  have hz13 : (w8.alloc (.cells #[.slice aX0 F0.ns.length cX0, .slice bX0 F0.ds.length eX0] 31)).heap.size ≤ w12.heap.size := hb12.size
  have hB13 : Below w.heap.size w w12 := hB11.trans (hb12.mono hB11.size)
  have hVA0_13 : Var w12 w.heap.size #[.slice a0 F0.ns.length c0, .slice b0 F0.ds.length e0] 25 := hVA0_11.new hb12
  have hVW0_13 : Var w12 w4.heap.size #[.slice aW0 E0.ns.length cW0, .slice bW0 E0.ds.length eW0] 31 := hVW0_11.new hb12
  have hVX0_13 : Var w12 w8.heap.size #[.slice aX0 F0.ns.length cX0, .slice bX0 F0.ds.length eX0] 31 := hVX0.new hb12
  have hOW0_13 := hOW0_11.below hb12
  have hOX0_13 := hOX0_11.below hb12
  clear hB11 hVA0_11 hVW0_11 hVX0 hOW0_11 hOX0_11
  clear hb12
  obtain ⟨aG0, cG0, bG0, eG0, rfl⟩ := hOG0.lay
  have hsz14 : (w12.alloc (.cells #[.slice aG0 E0.ns.length cG0, .slice bG0 E0.ds.length eG0] 31)).heap.size = w12.heap.size + 1 := by simp
  have hz15 : w12.heap.size ≤ (w12.alloc (.cells #[.slice aG0 E0.ns.length cG0, .slice bG0 E0.ds.length eG0] 31)).heap.size := (below1 w12 (.cells #[.slice aG0 E0.ns.length cG0, .slice bG0 E0.ds.length eG0] 31)).size
  have hB15 : Below w.heap.size w (w12.alloc (.cells #[.slice aG0 E0.ns.length cG0, .slice bG0 E0.ds.length eG0] 31)) := hB13.trans ((below1 w12 (.cells #[.slice aG0 E0.ns.length cG0, .slice bG0 E0.ds.length eG0] 31)).mono hB13.size)
  have hVA0_15 : Var (w12.alloc (.cells #[.slice aG0 E0.ns.length cG0, .slice bG0 E0.ds.length eG0] 31)) w.heap.size #[.slice a0 F0.ns.length c0, .slice b0 F0.ds.length e0] 25 := hVA0_13.new (below1 w12 (.cells #[.slice aG0 E0.ns.length cG0, .slice bG0 E0.ds.length eG0] 31))
  have hVW0_15 : Var (w12.alloc (.cells #[.slice aG0 E0.ns.length cG0, .slice bG0 E0.ds.length eG0] 31)) w4.heap.size #[.slice aW0 E0.ns.length cW0, .slice bW0 E0.ds.length eW0] 31 := hVW0_13.new (below1 w12 (.cells #[.slice aG0 E0.ns.length cG0, .slice bG0 E0.ds.length eG0] 31))
  have hVX0_15 : Var (w12.alloc (.cells #[.slice aG0 E0.ns.length cG0, .slice bG0 E0.ds.length eG0] 31)) w8.heap.size #[.slice aX0 F0.ns.length cX0, .slice bX0 F0.ds.length eX0] 31 := hVX0_13.new (below1 w12 (.cells #[.slice aG0 E0.ns.length cG0, .slice bG0 E0.ds.length eG0] 31))
  have hOW0_15 := hOW0_13.below (below1 w12 (.cells #[.slice aG0 E0.ns.length cG0, .slice bG0 E0.ds.length eG0] 31))
  have hOX0_15 := hOX0_13.below (below1 w12 (.cells #[.slice aG0 E0.ns.length cG0, .slice bG0 E0.ds.length eG0] 31))
  have hOG0_15 := hOG0.below (below1 w12 (.cells #[.slice aG0 E0.ns.length cG0, .slice bG0 E0.ds.length eG0] 31))
  clear hB13 hVA0_13 hVW0_13 hVX0_13 hOW0_13 hOX0_13 hOG0
  have hVG0 : Var (w12.alloc (.cells #[.slice aG0 E0.ns.length cG0, .slice bG0 E0.ds.length eG0] 31)) w12.heap.size #[.slice aG0 E0.ns.length cG0, .slice bG0 E0.ds.length eG0] 31 := Var.made w12 _ _
  have yG00 := hVG0.cell 0
  have yG01 := hVG0.cell 1
  simp at yG00 yG01
  have yW00 := hVW0_15.cell 0
  have yW01 := hVW0_15.cell 1
  simp at yW00 yW01
  go_wp2_with fail
  refine (eqFsW _ _ E0 _ (smF_sz HG0.out) hOG0_15.rd hOW0_15.rd).mono ?_
  rintro e w16 ⟨rfl, hb16⟩
  clear yG00 yG01 yW00 yW01
  have hz17 : (w12.alloc (.cells #[.slice aG0 E0.ns.length cG0, .slice bG0 E0.ds.length eG0] 31)).heap.size ≤ w16.heap.size := hb16.size
  have hB17 : Below w.heap.size w w16 := hB15.trans (hb16.mono hB15.size)
  have hVA0_17 : Var w16 w.heap.size #[.slice a0 F0.ns.length c0, .slice b0 F0.ds.length e0] 25 := hVA0_15.new hb16
  have hVW0_17 : Var w16 w4.heap.size #[.slice aW0 E0.ns.length cW0, .slice bW0 E0.ds.length eW0] 31 := hVW0_15.new hb16
  have hVX0_17 : Var w16 w8.heap.size #[.slice aX0 F0.ns.length cX0, .slice bX0 F0.ds.length eX0] 31 := hVX0_15.new hb16
  have hVG0_17 : Var w16 w12.heap.size #[.slice aG0 E0.ns.length cG0, .slice bG0 E0.ds.length eG0] 31 := hVG0.new hb16
  have hOW0_17 := hOW0_15.below hb16
  have hOX0_17 := hOX0_15.below hb16
  have hOG0_17 := hOG0_15.below hb16
  clear hB15 hVA0_15 hVW0_15 hVX0_15 hVG0 hOW0_15 hOX0_15 hOG0_15
  clear hb16
  have yX00 := hVX0_17.cell 0
  have yX01 := hVX0_17.cell 1
  simp at yX00 yX01
  have yA00 := hVA0_17.cell 0
  have yA01 := hVA0_17.cell 1
  simp at yA00 yA01
  have HVX : Hid (Var w16 w8.heap.size #[.slice aX0 F0.ns.length cX0, .slice bX0 F0.ds.length eX0] 31) := hVX0_17
  have HRX : Hid (RdFs w16 (.agg #[.slice aX0 F0.ns.length cX0, .slice bX0 F0.ds.length eX0]) F0) := hOX0_17.rd
  have HVG : Hid (Var w16 w.heap.size #[.slice a0 F0.ns.length c0, .slice b0 F0.ds.length e0] 25) := hVA0_17
  have HT6 : Hid (Calls Try.prog 9 #[(.agg #[.slice a0 F0.ns.length c0, .slice b0 F0.ds.length e0])] w16.drew fun e w' => ∃ v', e = .returned v' ∧ OwnFs w' w16.heap.size w'.heap.size v' F0 ∧ Below w16.heap.size w16 w') := by
    refine (toFsW _ F0 w16.drew (smF_sz HS0.out) (HR0.out _ hB17.drew)).mono ?_
    rintro e w' ⟨v', rfl, h1, h2⟩
    exact ⟨v', rfl, h1, ⟨h2.os, h2.tape, h2.output, h2.size, h2.block⟩⟩
  go_wp2_with fail
  go_region_held3 (fun W => W.cell? ⟨w8.heap.size, 0, none⟩ = some (.slice aX0 F0.ns.length cX0) ∧ W.cell? ⟨w8.heap.size, 1, none⟩ = some (.slice bX0 F0.ds.length eX0) ∧ W.cell? ⟨w.heap.size, 0, none⟩ = some (.slice a0 F0.ns.length c0) ∧ W.cell? ⟨w.heap.size, 1, none⟩ = some (.slice b0 F0.ds.length e0)) (go_keep) (first
    | (go_at_call 9
       refine HT6.out.mono ?_
       rintro e w18a ⟨x6, rfl, ho6, hbp⟩
       obtain ⟨hu0, hu1, hu2, hu3⟩ : w18a.cell? ⟨w8.heap.size, 0, none⟩ = some (.slice aX0 F0.ns.length cX0) ∧ w18a.cell? ⟨w8.heap.size, 1, none⟩ = some (.slice bX0 F0.ds.length eX0) ∧ w18a.cell? ⟨w.heap.size, 0, none⟩ = some (.slice a0 F0.ns.length c0) ∧ w18a.cell? ⟨w.heap.size, 1, none⟩ = some (.slice b0 F0.ds.length e0) := ⟨(HVX.out.new hbp).cell 0, (HVX.out.new hbp).cell 1, (HVG.out.new hbp).cell 0, (HVG.out.new hbp).cell 1⟩
       skip)
    | (go_at_call 11
       refine (eqFsW _ x6 F0 _ (smF_sz HS0.out) (HRX.out.below hbp (Nat.le_refl _)) ho6.rd).mono ?_
       rintro e w18 ⟨rfl, hbq⟩
       have hbJ : Below w16.heap.size w16 w18 := hbp.trans (hbq.mono hbp.size)
       obtain ⟨hv0, hv1, hv2, hv3⟩ : w18.cell? ⟨w8.heap.size, 0, none⟩ = some (.slice aX0 F0.ns.length cX0) ∧ w18.cell? ⟨w8.heap.size, 1, none⟩ = some (.slice bX0 F0.ds.length eX0) ∧ w18.cell? ⟨w.heap.size, 0, none⟩ = some (.slice a0 F0.ns.length c0) ∧ w18.cell? ⟨w.heap.size, 1, none⟩ = some (.slice b0 F0.ds.length e0) := ⟨(HVX.out.new hbJ).cell 0, (HVX.out.new hbJ).cell 1, (HVG.out.new hbJ).cell 0, (HVG.out.new hbJ).cell 1⟩
       clear hu0 hu1 hu2 hu3 ho6 hbp hbq))
  all_goals
    clear HVX HVG HRX HT6 hv0 hv1 hv2 hv3 yX00 yX01 yA00 yA01
    have hz19 : w16.heap.size ≤ w18.heap.size := hbJ.size
    have hB19 : Below w.heap.size w w18 := hB17.trans (hbJ.mono hB17.size)
    have hVA0_19 : Var w18 w.heap.size #[.slice a0 F0.ns.length c0, .slice b0 F0.ds.length e0] 25 := hVA0_17.new hbJ
    have hVW0_19 : Var w18 w4.heap.size #[.slice aW0 E0.ns.length cW0, .slice bW0 E0.ds.length eW0] 31 := hVW0_17.new hbJ
    have hVX0_19 : Var w18 w8.heap.size #[.slice aX0 F0.ns.length cX0, .slice bX0 F0.ds.length eX0] 31 := hVX0_17.new hbJ
    have hVG0_19 : Var w18 w12.heap.size #[.slice aG0 E0.ns.length cG0, .slice bG0 E0.ds.length eG0] 31 := hVG0_17.new hbJ
    have hOW0_19 := hOW0_17.below hbJ
    have hOX0_19 := hOX0_17.below hbJ
    have hOG0_19 := hOG0_17.below hbJ
    clear hB17 hVA0_17 hVW0_17 hVX0_17 hVG0_17 hOW0_17 hOX0_17 hOG0_17
    clear hbJ
    have hcb0 := cntF_le HS0.out
    have hcg0 := cntF_le HG0.out
    have yX00 := hVX0_19.cell 0
    have yX01 := hVX0_19.cell 1
    simp at yX00 yX01
    go_wp2_with fail
    refine (markFsW _ _ _ (1) F0 _ (Nat.le_trans HS0.out (by omega)) (by omega) (by omega) hOX0_19).mono ?_
    rintro e w20 ⟨rfl, hMX0, hb20⟩
    clear yX00 yX01
    have hz21 : w18.heap.size ≤ w20.heap.size := hb20.size
    have hB21 : Below w.heap.size w w20 := hB19.trans (hb20.below hB19.size (fun j hj => by omega))
    have hVA0_21 : Var w20 w.heap.size #[.slice a0 F0.ns.length c0, .slice b0 F0.ds.length e0] 25 := hVA0_19.only hb20 (fun hj => by omega)
    have hVW0_21 : Var w20 w4.heap.size #[.slice aW0 E0.ns.length cW0, .slice bW0 E0.ds.length eW0] 31 := hVW0_19.only hb20 (fun hj => by omega)
    have hVX0_21 : Var w20 w8.heap.size #[.slice aX0 F0.ns.length cX0, .slice bX0 F0.ds.length eX0] 31 := hVX0_19.only hb20 (fun hj => by omega)
    have hVG0_21 : Var w20 w12.heap.size #[.slice aG0 E0.ns.length cG0, .slice bG0 E0.ds.length eG0] 31 := hVG0_19.only hb20 (fun hj => by omega)
    have hOW0_21 := hOW0_19.only hb20 (fun j h1 h2 hj => by omega)
    have hOG0_21 := hOG0_19.only hb20 (fun j h1 h2 hj => by omega)
    clear hB19 hVA0_19 hVW0_19 hVX0_19 hVG0_19 hOW0_19 hOG0_19
    clear hb20 hOX0_19
    have hkq : ¬ ((1 + cntF F0 : Nat) : Int) < 0 := by omega
    have yG00 := hVG0_21.cell 0
    have yG01 := hVG0_21.cell 1
    simp at yG00 yG01
    have yW00 := hVW0_21.cell 0
    have yW01 := hVW0_21.cell 1
    simp at yW00 yW01
    go_wp2_with fail
    refine (eqFsW _ _ E0 _ (smF_sz HG0.out) hOG0_21.rd hOW0_21.rd).mono ?_
    rintro e w22 ⟨rfl, hb22⟩
    clear yG00 yG01 yW00 yW01
    have hz23 : w20.heap.size ≤ w22.heap.size := hb22.size
    have hB23 : Below w.heap.size w w22 := hB21.trans (hb22.mono hB21.size)
    have hVA0_23 : Var w22 w.heap.size #[.slice a0 F0.ns.length c0, .slice b0 F0.ds.length e0] 25 := hVA0_21.new hb22
    have hVW0_23 : Var w22 w4.heap.size #[.slice aW0 E0.ns.length cW0, .slice bW0 E0.ds.length eW0] 31 := hVW0_21.new hb22
    have hVX0_23 : Var w22 w8.heap.size #[.slice aX0 F0.ns.length cX0, .slice bX0 F0.ds.length eX0] 31 := hVX0_21.new hb22
    have hVG0_23 : Var w22 w12.heap.size #[.slice aG0 E0.ns.length cG0, .slice bG0 E0.ds.length eG0] 31 := hVG0_21.new hb22
    have hOW0_23 := hOW0_21.below hb22
    have hOX0_23 := hMX0.below hb22
    have hOG0_23 := hOG0_21.below hb22
    clear hB21 hVA0_21 hVW0_21 hVX0_21 hVG0_21 hOW0_21 hMX0 hOG0_21
    clear hb22
    have yG00 := hVG0_23.cell 0
    have yG01 := hVG0_23.cell 1
    simp at yG00 yG01
    go_wp2_with fail
    refine (markFsW _ _ _ (1) E0 _ (Nat.le_trans HG0.out (by omega)) (by omega) (by omega) hOG0_23).mono ?_
    rintro e w24 ⟨rfl, hMG0, hb24⟩
    clear yG00 yG01
    have hz25 : w22.heap.size ≤ w24.heap.size := hb24.size
    have hB25 : Below w.heap.size w w24 := hB23.trans (hb24.below hB23.size (fun j hj => by omega))
    have hVA0_25 : Var w24 w.heap.size #[.slice a0 F0.ns.length c0, .slice b0 F0.ds.length e0] 25 := hVA0_23.only hb24 (fun hj => by omega)
    have hVW0_25 : Var w24 w4.heap.size #[.slice aW0 E0.ns.length cW0, .slice bW0 E0.ds.length eW0] 31 := hVW0_23.only hb24 (fun hj => by omega)
    have hVX0_25 : Var w24 w8.heap.size #[.slice aX0 F0.ns.length cX0, .slice bX0 F0.ds.length eX0] 31 := hVX0_23.only hb24 (fun hj => by omega)
    have hVG0_25 : Var w24 w12.heap.size #[.slice aG0 E0.ns.length cG0, .slice bG0 E0.ds.length eG0] 31 := hVG0_23.only hb24 (fun hj => by omega)
    have hOW0_25 := hOW0_23.only hb24 (fun j h1 h2 hj => by omega)
    clear hB23 hVA0_23 hVW0_23 hVX0_23 hVG0_23 hOW0_23
    clear hb24 hOG0_23
    have hmq : ¬ ((1 + cntF E0 : Nat) : Int) < 0 := by omega
    have yG00 := hVG0_25.cell 0
    have yG01 := hVG0_25.cell 1
    simp at yG00 yG01
    go_wp2_with fail
    refine (heldFsW _ _ _ (1) E0 _ (Nat.le_trans HG0.out (by omega)) (by omega) hMG0).mono ?_
    rintro e w26 ⟨rfl, hb26⟩
    clear yG00 yG01
    have hz27 : w24.heap.size ≤ w26.heap.size := hb26.size
    have hB27 : Below w.heap.size w w26 := hB25.trans (hb26.mono hB25.size)
    have hVA0_27 : Var w26 w.heap.size #[.slice a0 F0.ns.length c0, .slice b0 F0.ds.length e0] 25 := hVA0_25.new hb26
    have hVW0_27 : Var w26 w4.heap.size #[.slice aW0 E0.ns.length cW0, .slice bW0 E0.ds.length eW0] 31 := hVW0_25.new hb26
    have hVX0_27 : Var w26 w8.heap.size #[.slice aX0 F0.ns.length cX0, .slice bX0 F0.ds.length eX0] 31 := hVX0_25.new hb26
    have hVG0_27 : Var w26 w12.heap.size #[.slice aG0 E0.ns.length cG0, .slice bG0 E0.ds.length eG0] 31 := hVG0_25.new hb26
    have hOW0_27 := hOW0_25.below hb26
    have hOG0_27 := hMG0.below hb26
    clear hB25 hVA0_25 hVW0_25 hVX0_25 hVG0_25 hOW0_25 hMG0
    clear hb26
    have yA00 := hVA0_27.cell 0
    have yA01 := hVA0_27.cell 1
    simp at yA00 yA01
    go_wp2_with fail
    refine (toFsW _ F0 _ (smF_sz HS0.out) (HR0.out _ hB27)).mono ?_
    rintro e w28 ⟨x7, rfl, ho7, hb28⟩
    clear yA00 yA01
    have hz29 : w26.heap.size ≤ w28.heap.size := hb28.size
    have hB29 : Below w.heap.size w w28 := hB27.trans (hb28.mono hB27.size)
    have hVA0_29 : Var w28 w.heap.size #[.slice a0 F0.ns.length c0, .slice b0 F0.ds.length e0] 25 := hVA0_27.new hb28
    have hVW0_29 : Var w28 w4.heap.size #[.slice aW0 E0.ns.length cW0, .slice bW0 E0.ds.length eW0] 31 := hVW0_27.new hb28
    have hVX0_29 : Var w28 w8.heap.size #[.slice aX0 F0.ns.length cX0, .slice bX0 F0.ds.length eX0] 31 := hVX0_27.new hb28
    have hVG0_29 : Var w28 w12.heap.size #[.slice aG0 E0.ns.length cG0, .slice bG0 E0.ds.length eG0] 31 := hVG0_27.new hb28
    have hOW0_29 := hOW0_27.below hb28
    have hOG0_29 := hOG0_27.below hb28
    clear hB27 hVA0_27 hVW0_27 hVX0_27 hVG0_27 hOW0_27 hOG0_27
    clear hb28
    go_wp2_with fail
    refine (IC.out _ _ HS0.out ho7.rd).mono ?_
    rintro e w30 ⟨uH0, rfl, hOH0, hb30⟩
    have hz31 : w28.heap.size ≤ w30.heap.size := hb30.size
    have hB31 : Below w.heap.size w w30 := hB29.trans (hb30.mono hB29.size)
    have hVA0_31 : Var w30 w.heap.size #[.slice a0 F0.ns.length c0, .slice b0 F0.ds.length e0] 25 := hVA0_29.new hb30
    have hVW0_31 : Var w30 w4.heap.size #[.slice aW0 E0.ns.length cW0, .slice bW0 E0.ds.length eW0] 31 := hVW0_29.new hb30
    have hVX0_31 : Var w30 w8.heap.size #[.slice aX0 F0.ns.length cX0, .slice bX0 F0.ds.length eX0] 31 := hVX0_29.new hb30
    have hVG0_31 : Var w30 w12.heap.size #[.slice aG0 E0.ns.length cG0, .slice bG0 E0.ds.length eG0] 31 := hVG0_29.new hb30
    have hOW0_31 := hOW0_29.below hb30
    have hOG0_31 := hOG0_29.below hb30
    clear hB29 hVA0_29 hVW0_29 hVX0_29 hVG0_29 hOW0_29 hOG0_29
    clear hb30
    obtain ⟨aH0, cH0, bH0, eH0, rfl⟩ := hOH0.lay
    clear ho7
    have hsz32 : (w30.alloc (.cells #[.slice aH0 E0.ns.length cH0, .slice bH0 E0.ds.length eH0] 31)).heap.size = w30.heap.size + 1 := by simp
    have hz33 : w30.heap.size ≤ (w30.alloc (.cells #[.slice aH0 E0.ns.length cH0, .slice bH0 E0.ds.length eH0] 31)).heap.size := (below1 w30 (.cells #[.slice aH0 E0.ns.length cH0, .slice bH0 E0.ds.length eH0] 31)).size
    have hB33 : Below w.heap.size w (w30.alloc (.cells #[.slice aH0 E0.ns.length cH0, .slice bH0 E0.ds.length eH0] 31)) := hB31.trans ((below1 w30 (.cells #[.slice aH0 E0.ns.length cH0, .slice bH0 E0.ds.length eH0] 31)).mono hB31.size)
    have hVA0_33 : Var (w30.alloc (.cells #[.slice aH0 E0.ns.length cH0, .slice bH0 E0.ds.length eH0] 31)) w.heap.size #[.slice a0 F0.ns.length c0, .slice b0 F0.ds.length e0] 25 := hVA0_31.new (below1 w30 (.cells #[.slice aH0 E0.ns.length cH0, .slice bH0 E0.ds.length eH0] 31))
    have hVW0_33 : Var (w30.alloc (.cells #[.slice aH0 E0.ns.length cH0, .slice bH0 E0.ds.length eH0] 31)) w4.heap.size #[.slice aW0 E0.ns.length cW0, .slice bW0 E0.ds.length eW0] 31 := hVW0_31.new (below1 w30 (.cells #[.slice aH0 E0.ns.length cH0, .slice bH0 E0.ds.length eH0] 31))
    have hVX0_33 : Var (w30.alloc (.cells #[.slice aH0 E0.ns.length cH0, .slice bH0 E0.ds.length eH0] 31)) w8.heap.size #[.slice aX0 F0.ns.length cX0, .slice bX0 F0.ds.length eX0] 31 := hVX0_31.new (below1 w30 (.cells #[.slice aH0 E0.ns.length cH0, .slice bH0 E0.ds.length eH0] 31))
    have hVG0_33 : Var (w30.alloc (.cells #[.slice aH0 E0.ns.length cH0, .slice bH0 E0.ds.length eH0] 31)) w12.heap.size #[.slice aG0 E0.ns.length cG0, .slice bG0 E0.ds.length eG0] 31 := hVG0_31.new (below1 w30 (.cells #[.slice aH0 E0.ns.length cH0, .slice bH0 E0.ds.length eH0] 31))
    have hOW0_33 := hOW0_31.below (below1 w30 (.cells #[.slice aH0 E0.ns.length cH0, .slice bH0 E0.ds.length eH0] 31))
    have hOG0_33 := hOG0_31.below (below1 w30 (.cells #[.slice aH0 E0.ns.length cH0, .slice bH0 E0.ds.length eH0] 31))
    have hOH0_33 := hOH0.below (below1 w30 (.cells #[.slice aH0 E0.ns.length cH0, .slice bH0 E0.ds.length eH0] 31))
    clear hB31 hVA0_31 hVW0_31 hVX0_31 hVG0_31 hOW0_31 hOG0_31 hOH0
    have hVH0 : Var (w30.alloc (.cells #[.slice aH0 E0.ns.length cH0, .slice bH0 E0.ds.length eH0] 31)) w30.heap.size #[.slice aH0 E0.ns.length cH0, .slice bH0 E0.ds.length eH0] 31 := Var.made w30 _ _
    have yH00 := hVH0.cell 0
    have yH01 := hVH0.cell 1
    simp at yH00 yH01
    have yW00 := hVW0_33.cell 0
    have yW01 := hVW0_33.cell 1
    simp at yW00 yW01
    go_wp2_with fail
    refine (eqFsW _ _ E0 _ (smF_sz HG0.out) hOH0_33.rd hOW0_33.rd).mono ?_
    rintro e w34 ⟨rfl, hb34⟩
    clear yH00 yH01 yW00 yW01
    have hz35 : (w30.alloc (.cells #[.slice aH0 E0.ns.length cH0, .slice bH0 E0.ds.length eH0] 31)).heap.size ≤ w34.heap.size := hb34.size
    have hB35 : Below w.heap.size w w34 := hB33.trans (hb34.mono hB33.size)
    have hVA0_35 : Var w34 w.heap.size #[.slice a0 F0.ns.length c0, .slice b0 F0.ds.length e0] 25 := hVA0_33.new hb34
    have hVW0_35 : Var w34 w4.heap.size #[.slice aW0 E0.ns.length cW0, .slice bW0 E0.ds.length eW0] 31 := hVW0_33.new hb34
    have hVX0_35 : Var w34 w8.heap.size #[.slice aX0 F0.ns.length cX0, .slice bX0 F0.ds.length eX0] 31 := hVX0_33.new hb34
    have hVG0_35 : Var w34 w12.heap.size #[.slice aG0 E0.ns.length cG0, .slice bG0 E0.ds.length eG0] 31 := hVG0_33.new hb34
    have hVH0_35 : Var w34 w30.heap.size #[.slice aH0 E0.ns.length cH0, .slice bH0 E0.ds.length eH0] 31 := hVH0.new hb34
    have hOW0_35 := hOW0_33.below hb34
    have hOG0_35 := hOG0_33.below hb34
    have hOH0_35 := hOH0_33.below hb34
    clear hB33 hVA0_33 hVW0_33 hVX0_33 hVG0_33 hVH0 hOW0_33 hOG0_33 hOH0_33
    clear hb34
    have yG00 := hVG0_35.cell 0
    have yG01 := hVG0_35.cell 1
    simp at yG00 yG01
    go_wp2_with fail
    refine (heldFsW _ _ _ (1) E0 _ (Nat.le_trans HG0.out (by omega)) (by omega) hOG0_35).mono ?_
    rintro e w36 ⟨rfl, hb36⟩
    clear yG00 yG01
    have hz37 : w34.heap.size ≤ w36.heap.size := hb36.size
    have hB37 : Below w.heap.size w w36 := hB35.trans (hb36.mono hB35.size)
    have hVA0_37 : Var w36 w.heap.size #[.slice a0 F0.ns.length c0, .slice b0 F0.ds.length e0] 25 := hVA0_35.new hb36
    have hVW0_37 : Var w36 w4.heap.size #[.slice aW0 E0.ns.length cW0, .slice bW0 E0.ds.length eW0] 31 := hVW0_35.new hb36
    have hVX0_37 : Var w36 w8.heap.size #[.slice aX0 F0.ns.length cX0, .slice bX0 F0.ds.length eX0] 31 := hVX0_35.new hb36
    have hVG0_37 : Var w36 w12.heap.size #[.slice aG0 E0.ns.length cG0, .slice bG0 E0.ds.length eG0] 31 := hVG0_35.new hb36
    have hVH0_37 : Var w36 w30.heap.size #[.slice aH0 E0.ns.length cH0, .slice bH0 E0.ds.length eH0] 31 := hVH0_35.new hb36
    have hOW0_37 := hOW0_35.below hb36
    have hOG0_37 := hOG0_35.below hb36
    clear hB35 hVA0_35 hVW0_35 hVX0_35 hVG0_35 hVH0_35 hOW0_35 hOG0_35
    clear hb36
    go_wp2
    go_ret
    exact ⟨rfl, hB37⟩

set_option maxRecDepth 100000 in
theorem lifted (os : Os) (started : os.Started) (H : Type) (enc : TypeId × Value → H) :
    ReturnsInHanded {} Try.checked os 5 .any (Rows.fnExactNodeMakeSpec.pre6 enc Try.prog Try.f5 Rows.fnExactNodeMakeRow.domain false) (Rows.fnExactNodeMakeSpec.post enc Try.prog Try.f5 false true false false) := by
  refine returnsInHanded_of_change (C := Try.checked) own started (by kernel_rfl) Try.func5
    (ChangeSpec.witness6 (enc := enc) (C := Try.checked) false ⟨#[], #[.agg #[.slice none 0 0, .slice none 0 0], .int .i64 0], []⟩ 8 (by kernel_rfl) (by kernel_rfl) (by kernel_rfl) (by kernel_rfl)) ?_
  intro W base args ds gs before hval0 hW hcnd _
  have hval : ∀ (j : Nat) t v, Try.f5.params[j]? = some t → args[j]? = some v → Value.okWide Try.prog W .any base t v := hval0
  have hW' := hW
  obtain ⟨p, q, hA0, hV, rfl, hfz, hnd⟩ := hW
  have hA : DataW.TrodAll enc Try.prog W 0 (fun _ => true) true Try.f5.params.toList args.toList ds p := hA0
  rw [Try.params5] at hA hval
  obtain ⟨v0, vs0, d0, ds0, p0, q0, hargs, rfl, rfl, h0, rr0⟩ := trodAll_cons hA
  obtain ⟨v1, vs1, d1, ds1, p1, q1, rfl, rfl, rfl, h1, rr1⟩ := trodAll_cons rr0
  obtain ⟨rfl, rfl, rfl⟩ := trodAll_nil rr1
  obtain rfl : args = #[v0, v1] := by cases args; simp_all
  obtain ⟨rfl, rfl⟩ := trodVars_none hV
  have k0 := h0
  have lt0 : ∀ x ∈ p0, x.block < W.heap.size := by obtain ⟨m, hm⟩ := k0; exact DataW.trod_lt m _ _ _ hm
  have k1 := h1
  have lt1 : ∀ x ∈ p1, x.block < W.heap.size := by obtain ⟨m, hm⟩ := k1; exact DataW.trod_lt m _ _ _ hm
  obtain ⟨F0, f0, r0⟩ := open_Fs (hval 0 25 v0 rfl rfl) h0
  obtain ⟨a1, rfl, rfl, rfl, w1⟩ := open_int Try.underlying3 (hval 1 3 v1 rfl rfl) h1
  clear hA0 hval0
  refine (walk v0 F0 f0 a1 w1 W r0).mono fun e W' ⟨he, bel⟩ => ?_
  subst he
  exact ⟨_, rfl, _, _, _, [], _, [], hW', trodAll_mk1 (shut_bool Try.underlying4 _), (trodAll_cons_mk (Below.trod laidOut (by kernel_rfl) (of_decide_eq_true (by kernel_rfl)) k0 bel lt0) (trodAll_cons_mk (Below.trod laidOut (by kernel_rfl) (of_decide_eq_true (by kernel_rfl)) k1 bel lt1) trodAll_mk0)), rfl, bel.frame _, fun h => by cases h⟩

theorem over : Rows.fnExactNodeMakeRow.holds Try.pinned (OpenSpec.ofChange Rows.fnExactNodeMakeSpec) :=
  OpenClaim.holds_of_wide 5 Try.f5 rfl rfl rfl rfl rfl rfl rfl ⟨rfl, rfl, rfl, rfl, rfl⟩ rfl rfl rfl rfl rfl (by kernel_rfl) Try.func5 (by kernel_rfl)
    (of_decide_eq_true (by kernel_rfl)) (by unfold Func.isWrapper; first | (rw [if_pos (by decide +kernel)]; kernel_rfl) | (rw [if_neg (by decide +kernel)]; exact ⟨rfl, rfl⟩))
    (fun os started H enc _ => lifted os started H enc)

theorem proved : Rows.FnExactNodeMakeSaid := over
#print axioms proved
end Go.Proofs.Ytioecnfgliponaa.fnExactNodeMake
