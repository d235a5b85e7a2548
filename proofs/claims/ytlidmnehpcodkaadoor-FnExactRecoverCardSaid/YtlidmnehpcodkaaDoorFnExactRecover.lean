/-
  For every disk and number the law FnExactRecover returns true, and what came in reads behind the call as it read before: no condition.
-/
import Derived.Test.YtlidmnehpcodkaaDoorBunA
import Derived.Deep.RegionHeld3
import Derived.Test.YtlidmnehpcodkaaDoorBunS
import Derived.Test.YtlidmnehpcodkaaDoorErrW
import Derived.Test.YtlidmnehpcodkaaDoorRecL
import Derived.Test.YtlidmnehpcodkaaDoorIJourDW
import Derived.Test.YtlidmnehpcodkaaDoorCards
import Derived.Test.YtlidmnehpcodkaaDoorTie
import Derived.LaidMore
import Derived.Stop.Joined
import Derived.Stop.LaidErr
import Derived.Lib.LaidTab
import Derived.Lib.SmallJoins
import Derived.SevenTiedAt
import Derived.WalkKit
import Derived.ProofKit
import Derived.OpenShut
import Derived.ShutString
import Derived.ChangeOld
import Derived.Below
namespace Go.Proofs.YtlidmnehpcodkaaDoor.fnExactRecover
open Go.ChangeShapes Go.WideShapes Go.ChangeAt Go.RowKit
open Go.ChangeMaps (open_string shut_string)
set_option linter.unusedVariables false

theorem own : ownKnob Tryd.prog.godebug = none := by kernel_rfl
theorem door_met (os : Os) (args : Array Value) : laidMetH Tryd.prog Rows.fnExactRecoverRow.laid ((World.doorLaid Tryd.prog 28 os).forCall (fun _ _ => 0) ⟨#[], args, []⟩).memory :=
  laidMetH_of_parts3 (fuel := 8) (laidMet_of_run' 8 (by kernel_rfl) (by kernel_rfl)) (by kernel_rfl) (by kernel_rfl)
theorem laidOut : laidOutB Tryd.prog = true := by kernel_rfl

set_option maxRecDepth 20000 in
set_option maxHeartbeats 4000000 in
theorem walk (v0 : Value) (D0 : DiskD) (f0 : FitD D0) (a1 : Int) (w1 : (Lit.int .i64 a1).wf = true) (w : World) (r0 : RdD w v0 D0) (hL : laidMetH Tryd.prog Rows.fnExactRecoverRow.laid w) :
    Calls Tryd.prog 7 #[v0, .int .i64 a1] w fun e w' => e = .returned (.bool true) ∧ Below w.heap.size w w' := by
  obtain ⟨aE, hv⟩ := errVar (Rows.fnExactRecoverRow.laid) rfl hL
  have hgc : w.cell? ⟨errG, 0, none⟩ = some (.iface 138 (.pointer (some aE))) := by simpa using World.var?_cell gErr hv 0
  have HEA : Hid (ErrAt aE w) := ⟨World.block_lt_of_cell? w _ hgc, hgc⟩
  clear hL hv hgc
  obtain ⟨a0, ca0, b0, cb0, rfl⟩ := r0.shape
  have HR : Hid (∀ W, Below w.heap.size w W → RdD W (.agg #[.slice a0 D0.1.length ca0, .slice b0 D0.2.length cb0]) D0) := fun W h => r0.below h (Nat.le_refl _)
  have HF : Hid (FitD D0) := f0
  clear r0 f0
  obtain ⟨E, HE⟩ : ∃ E, Hid (recD D0 a1 = E) := ⟨_, rfl⟩
  have SC : Hid (∀ v W, szD D0 ≤ 1048576 → RdD W v D0 → Calls Tryd.prog 22 #[v, .int .i64 a1] W fun e w' => ∃ v', e = .returned v' ∧ OwnD w' W.heap.size v' E ∧ Below W.heap.size W w') := by
    intro v W hs hv
    have h1 := len_of_sz1 hs
    rw [← HE.out]
    exact specRecover v D0 a1 W h1 hv
  have IC : Hid (∀ v W lo, Below w.heap.size w W → szD D0 ≤ 1048576 → OwnD W lo v D0 → Calls Tryd.prog 12 #[v, .int .i64 a1] W fun e w' => ∃ v', e = .returned v' ∧ OwnD w' W.heap.size v' E ∧ Below W.heap.size W w') := by
    intro v W lo hB hs hv
    have h1 := len_of_sz1 hs
    rw [← HE.out]
    exact implRecover v D0 a1 aE W h1 (smD_sz hs) (HEA.out.below hB) hv.rd
  have HLS : Hid (szD D0 ≤ 1048576 → E.1.length ≤ 4194304 ∧ E.2.length ≤ 4194304) := by
    intro hs
    have h1 := len_of_sz1 hs
    rw [← HE.out]
    exact len_rec h1
  go_enter Tryd.func7, Tryd.ntmps7
  go_wp2_with fail
  refine (szDiskW _ D0 1048576 _ (by omega) (by omega) HF.out (HR.out _ (below1 _ _))).mono ?_
  rintro e w1 ⟨r, rfl, hsz, hr0, hr1, hb1⟩
  have hVA : Var w1 w.heap.size #[.slice a0 D0.1.length ca0, .slice b0 D0.2.length cb0] 58 := (Var.made w _ _).new hb1
  have hB1 : Below w.heap.size w w1 := (below1 w _).trans (hb1.mono (by simp))
  by_cases hneg : r < 0
  · clear hsz
    go_wp2
    go_ret
    exact ⟨rfl, hB1⟩
  have HSZ : Hid (szD D0 ≤ 1048576) := by have := hsz (by omega); show _ ≤ _; omega
  have HL : Hid (D0.1.length ≤ 4194304 ∧ D0.2.length ≤ 4194304) := len_of_sz HSZ.out
  have HLE : Hid (E.1.length ≤ 4194304 ∧ E.2.length ≤ 4194304) := HLS.out HSZ.out
  clear hsz hb1
  have yA0 := hVA.cell 0
  have yA1 := hVA.cell 1
  simp at yA0 yA1
  go_wp2_with fail
  refine (toDiskW _ D0 _ HSZ.out (HR.out _ hB1)).mono ?_
  rintro e w2 ⟨x2, rfl, ho2, hb2⟩
  clear yA0 yA1
  have hB2 : Below w.heap.size w w2 := hB1.trans (hb2.mono hB1.size)
  have hVA_2 : Var w2 w.heap.size #[.slice a0 D0.1.length ca0, .slice b0 D0.2.length cb0] 58 := hVA.new hb2
  clear hB1 hVA
  clear hb2
  go_wp2_with fail
  refine (SC.out _ _ HSZ.out ho2.rd).mono ?_
  rintro e w3 ⟨x3, rfl, ho3, hb3⟩
  have hB3 : Below w.heap.size w w3 := hB2.trans (hb3.mono hB2.size)
  have hVA_3 : Var w3 w.heap.size #[.slice a0 D0.1.length ca0, .slice b0 D0.2.length cb0] 58 := hVA_2.new hb3
  clear hB2 hVA_2
  clear hb3 ho2
  obtain ⟨aW, caW, bW, cbW, rfl⟩ := ho3.shape
  have HRW : Hid (RdD w3 (.agg #[.slice aW E.1.length caW, .slice bW E.2.length cbW]) E) := ho3.rd
  clear ho3
  have hCw : Below w3.heap.size w3 w3 := Below.refl _ _
  have hB3a : Below w.heap.size w (w3.alloc (.cells #[.slice aW E.1.length caW, .slice bW E.2.length cbW] 27)) := hB3.trans ((below1 w3 (.cells #[.slice aW E.1.length caW, .slice bW E.2.length cbW] 27)).mono hB3.size)
  have hVA_3a : Var (w3.alloc (.cells #[.slice aW E.1.length caW, .slice bW E.2.length cbW] 27)) w.heap.size #[.slice a0 D0.1.length ca0, .slice b0 D0.2.length cb0] 58 := hVA_3.new (below1 w3 (.cells #[.slice aW E.1.length caW, .slice bW E.2.length cbW] 27))
  have hCw_3a : Below w3.heap.size w3 (w3.alloc (.cells #[.slice aW E.1.length caW, .slice bW E.2.length cbW] 27)) := hCw.trans ((below1 w3 (.cells #[.slice aW E.1.length caW, .slice bW E.2.length cbW] 27)).mono hCw.size)
  clear hB3 hVA_3 hCw
  have hVW : Var (w3.alloc (.cells #[.slice aW E.1.length caW, .slice bW E.2.length cbW] 27)) w3.heap.size #[.slice aW E.1.length caW, .slice bW E.2.length cbW] 27 := Var.made w3 _ _
  have hX1 : w3.heap.size ≤ (w3.alloc (.cells #[.slice aW E.1.length caW, .slice bW E.2.length cbW] 27)).heap.size := hCw_3a.size
  have hX0 : w.heap.size ≤ (w3.alloc (.cells #[.slice aW E.1.length caW, .slice bW E.2.length cbW] 27)).heap.size := hB3a.size
  generalize hlx : (w3.alloc (.cells #[.slice aW E.1.length caW, .slice bW E.2.length cbW] 27)).heap.size = lox at hX0 hX1
  have yA0 := hVA_3a.cell 0
  have yA1 := hVA_3a.cell 1
  simp at yA0 yA1
  go_wp2_with fail
  refine (toDiskW _ D0 _ HSZ.out (HR.out _ hB3a)).mono ?_
  rintro e w4 ⟨x4, rfl, ho4, hb4⟩
  clear yA0 yA1
  rw [hlx] at ho4
  clear hlx
  have hB4 : Below w.heap.size w w4 := hB3a.trans (hb4.mono hB3a.size)
  have hVA_4 : Var w4 w.heap.size #[.slice a0 D0.1.length ca0, .slice b0 D0.2.length cb0] 58 := hVA_3a.new hb4
  have hVW_4 : Var w4 w3.heap.size #[.slice aW E.1.length caW, .slice bW E.2.length cbW] 27 := hVW.new hb4
  have hCw_4 : Below w3.heap.size w3 w4 := hCw_3a.trans (hb4.mono hCw_3a.size)
  clear hB3a hVA_3a hVW hCw_3a
  clear hb4
  obtain ⟨aX, caX, bX, cbX, rfl⟩ := ho4.shape
  have hB4a : Below w.heap.size w (w4.alloc (.cells #[.slice aX D0.1.length caX, .slice bX D0.2.length cbX] 27)) := hB4.trans ((below1 w4 (.cells #[.slice aX D0.1.length caX, .slice bX D0.2.length cbX] 27)).mono hB4.size)
  have hVA_4a : Var (w4.alloc (.cells #[.slice aX D0.1.length caX, .slice bX D0.2.length cbX] 27)) w.heap.size #[.slice a0 D0.1.length ca0, .slice b0 D0.2.length cb0] 58 := hVA_4.new (below1 w4 (.cells #[.slice aX D0.1.length caX, .slice bX D0.2.length cbX] 27))
  have hVW_4a : Var (w4.alloc (.cells #[.slice aX D0.1.length caX, .slice bX D0.2.length cbX] 27)) w3.heap.size #[.slice aW E.1.length caW, .slice bW E.2.length cbW] 27 := hVW_4.new (below1 w4 (.cells #[.slice aX D0.1.length caX, .slice bX D0.2.length cbX] 27))
  have hOX_4a := ho4.below (below1 w4 (.cells #[.slice aX D0.1.length caX, .slice bX D0.2.length cbX] 27))
  have hCw_4a : Below w3.heap.size w3 (w4.alloc (.cells #[.slice aX D0.1.length caX, .slice bX D0.2.length cbX] 27)) := hCw_4.trans ((below1 w4 (.cells #[.slice aX D0.1.length caX, .slice bX D0.2.length cbX] 27)).mono hCw_4.size)
  clear hB4 hVA_4 hVW_4 ho4 hCw_4
  have hVX : Var (w4.alloc (.cells #[.slice aX D0.1.length caX, .slice bX D0.2.length cbX] 27)) w4.heap.size #[.slice aX D0.1.length caX, .slice bX D0.2.length cbX] 27 := Var.made w4 _ _
  have hxlt0 := hOX_4a.blk
  have hG1 : w3.heap.size ≤ (w4.alloc (.cells #[.slice aX D0.1.length caX, .slice bX D0.2.length cbX] 27)).heap.size := hCw_4a.size
  have hG0 : w.heap.size ≤ (w4.alloc (.cells #[.slice aX D0.1.length caX, .slice bX D0.2.length cbX] 27)).heap.size := hB4a.size
  generalize hlg : (w4.alloc (.cells #[.slice aX D0.1.length caX, .slice bX D0.2.length cbX] 27)).heap.size = log at hG0 hG1 hxlt0
  have hxlt : ∀ j, blkD (.agg #[.slice aX D0.1.length caX, .slice bX D0.2.length cbX]) j → j < log := fun j hj => (hxlt0 j hj).2
  have yX0 := hVX.cell 0
  have yX1 := hVX.cell 1
  simp at yX0 yX1
  go_wp2_with fail
  refine (IC.out _ _ _ hB4a HSZ.out hOX_4a).mono ?_
  rintro e w5 ⟨x5, rfl, ho5, hb5⟩
  clear yX0 yX1
  rw [hlg] at ho5
  clear hlg hxlt0
  have hB5 : Below w.heap.size w w5 := hB4a.trans (hb5.mono hB4a.size)
  have hVA_5 : Var w5 w.heap.size #[.slice a0 D0.1.length ca0, .slice b0 D0.2.length cb0] 58 := hVA_4a.new hb5
  have hVW_5 : Var w5 w3.heap.size #[.slice aW E.1.length caW, .slice bW E.2.length cbW] 27 := hVW_4a.new hb5
  have hVX_5 : Var w5 w4.heap.size #[.slice aX D0.1.length caX, .slice bX D0.2.length cbX] 27 := hVX.new hb5
  have hOX_5 := hOX_4a.below hb5
  have hCw_5 : Below w3.heap.size w3 w5 := hCw_4a.trans (hb5.mono hCw_4a.size)
  clear hB4a hVA_4a hVW_4a hVX hOX_4a hCw_4a
  clear hb5
  obtain ⟨aG, caG, bG, cbG, rfl⟩ := ho5.shape
  have hB5a : Below w.heap.size w (w5.alloc (.cells #[.slice aG E.1.length caG, .slice bG E.2.length cbG] 27)) := hB5.trans ((below1 w5 (.cells #[.slice aG E.1.length caG, .slice bG E.2.length cbG] 27)).mono hB5.size)
  have hVA_5a : Var (w5.alloc (.cells #[.slice aG E.1.length caG, .slice bG E.2.length cbG] 27)) w.heap.size #[.slice a0 D0.1.length ca0, .slice b0 D0.2.length cb0] 58 := hVA_5.new (below1 w5 (.cells #[.slice aG E.1.length caG, .slice bG E.2.length cbG] 27))
  have hVW_5a : Var (w5.alloc (.cells #[.slice aG E.1.length caG, .slice bG E.2.length cbG] 27)) w3.heap.size #[.slice aW E.1.length caW, .slice bW E.2.length cbW] 27 := hVW_5.new (below1 w5 (.cells #[.slice aG E.1.length caG, .slice bG E.2.length cbG] 27))
  have hVX_5a : Var (w5.alloc (.cells #[.slice aG E.1.length caG, .slice bG E.2.length cbG] 27)) w4.heap.size #[.slice aX D0.1.length caX, .slice bX D0.2.length cbX] 27 := hVX_5.new (below1 w5 (.cells #[.slice aG E.1.length caG, .slice bG E.2.length cbG] 27))
  have hOX_5a := hOX_5.below (below1 w5 (.cells #[.slice aG E.1.length caG, .slice bG E.2.length cbG] 27))
  have hOG_5a := ho5.below (below1 w5 (.cells #[.slice aG E.1.length caG, .slice bG E.2.length cbG] 27))
  have hCw_5a : Below w3.heap.size w3 (w5.alloc (.cells #[.slice aG E.1.length caG, .slice bG E.2.length cbG] 27)) := hCw_5.trans ((below1 w5 (.cells #[.slice aG E.1.length caG, .slice bG E.2.length cbG] 27)).mono hCw_5.size)
  clear hB5 hVA_5 hVW_5 hVX_5 hOX_5 ho5 hCw_5
  have hVG : Var (w5.alloc (.cells #[.slice aG E.1.length caG, .slice bG E.2.length cbG] 27)) w5.heap.size #[.slice aG E.1.length caG, .slice bG E.2.length cbG] 27 := Var.made w5 _ _
  have yW0 := hVW_5a.cell 0
  have yW1 := hVW_5a.cell 1
  simp at yW0 yW1
  have yG0 := hVG.cell 0
  have yG1 := hVG.cell 1
  simp at yG0 yG1
  go_wp2_with fail
  refine (eqDiskW _ _ E _ HLE.out hOG_5a.rd (HRW.out.below hCw_5a (Nat.le_refl _))).mono ?_
  rintro e w6 ⟨rfl, hb6⟩
  clear yW0 yW1 yG0 yG1
  have hB6 : Below w.heap.size w w6 := hB5a.trans (hb6.mono hB5a.size)
  have hVA_6 : Var w6 w.heap.size #[.slice a0 D0.1.length ca0, .slice b0 D0.2.length cb0] 58 := hVA_5a.new hb6
  have hVW_6 : Var w6 w3.heap.size #[.slice aW E.1.length caW, .slice bW E.2.length cbW] 27 := hVW_5a.new hb6
  have hVX_6 : Var w6 w4.heap.size #[.slice aX D0.1.length caX, .slice bX D0.2.length cbX] 27 := hVX_5a.new hb6
  have hVG_6 : Var w6 w5.heap.size #[.slice aG E.1.length caG, .slice bG E.2.length cbG] 27 := hVG.new hb6
  have hOX_6 := hOX_5a.below hb6
  have hOG_6 := hOG_5a.below hb6
  have hCw_6 : Below w3.heap.size w3 w6 := hCw_5a.trans (hb6.mono hCw_5a.size)
  clear hB5a hVA_5a hVW_5a hVX_5a hVG hOX_5a hOG_5a hCw_5a
  clear hb6
  have yA0 := hVA_6.cell 0
  have yA1 := hVA_6.cell 1
  simp at yA0 yA1
  have yX0 := hVX_6.cell 0
  have yX1 := hVX_6.cell 1
  simp at yX0 yX1
  have HVX : Hid (Var w6 w4.heap.size #[.slice aX D0.1.length caX, .slice bX D0.2.length cbX] 27) := hVX_6
  have HOX : Hid (OwnD w6 lox (.agg #[.slice aX D0.1.length caX, .slice bX D0.2.length cbX]) D0) := hOX_6
  have HT6 : Hid (Calls Tryd.prog 34 #[(.agg #[.slice a0 D0.1.length ca0, .slice b0 D0.2.length cb0])] w6.drew fun e w' => ∃ v', e = .returned v' ∧ OwnD w' w6.heap.size v' D0 ∧ Below w6.heap.size w6 w') := by
    refine (toDiskW _ D0 w6.drew HSZ.out (HR.out _ hB6.drew)).mono ?_
    rintro e w' ⟨v', rfl, h1, h2⟩
    exact ⟨v', rfl, h1, ⟨h2.os, h2.tape, h2.output, h2.size, h2.block⟩⟩
  go_wp2_with fail
  go_region_with (first
    | (go_at_call 34
       refine HT6.out.mono ?_
       rintro e w7 ⟨x6, rfl, ho6, hb7⟩
       have hu0 : w7.cell? ⟨w4.heap.size, 0, none⟩ = some (.slice aX D0.1.length caX) := (HVX.out.new hb7).cell 0
       have hu1 : w7.cell? ⟨w4.heap.size, 1, none⟩ = some (.slice bX D0.2.length cbX) := (HVX.out.new hb7).cell 1)
    | (go_at_call 35
       refine (eqDiskW _ x6 D0 _ HL.out (HOX.out.rd.below hb7 (Nat.le_refl _)) ho6.rd).mono ?_
       rintro e w8 ⟨rfl, hb8⟩
       have hbJ : Below w6.heap.size w6 w8 := hb7.trans (hb8.mono hb7.size)
       clear hu0 hu1 ho6 hb7 hb8))
  all_goals
    clear HVX HOX HT6 yA0 yA1 yX0 yX1
    have hB8 : Below w.heap.size w w8 := hB6.trans (hbJ.mono hB6.size)
    have hVA_8 : Var w8 w.heap.size #[.slice a0 D0.1.length ca0, .slice b0 D0.2.length cb0] 58 := hVA_6.new hbJ
    have hVW_8 : Var w8 w3.heap.size #[.slice aW E.1.length caW, .slice bW E.2.length cbW] 27 := hVW_6.new hbJ
    have hVX_8 : Var w8 w4.heap.size #[.slice aX D0.1.length caX, .slice bX D0.2.length cbX] 27 := hVX_6.new hbJ
    have hVG_8 : Var w8 w5.heap.size #[.slice aG E.1.length caG, .slice bG E.2.length cbG] 27 := hVG_6.new hbJ
    have hOX_8 := hOX_6.below hbJ
    have hOG_8 := hOG_6.below hbJ
    have hCw_8 : Below w3.heap.size w3 w8 := hCw_6.trans (hbJ.mono hCw_6.size)
    clear hB6 hVA_6 hVW_6 hVX_6 hVG_6 hOX_6 hOG_6 hCw_6
    clear hbJ
    have yX0 := hVX_8.cell 0
    have yX1 := hVX_8.cell 1
    simp at yX0 yX1
    go_wp2_with fail
    refine (markDiskW _ lox 1 D0 _ HL.out (by omega) hOX_8).mono ?_
    rintro e w9 ⟨rfl, hm9, hon9⟩
    clear yX0 yX1
    have hbk9 := hOX_8.blk
    have hB9 : Below w.heap.size w w9 := hB8.trans (hon9.below hB8.size (fun j hj => Nat.le_trans hX0 (hbk9 j hj).1))
    have hVA_9 : Var w9 w.heap.size #[.slice a0 D0.1.length ca0, .slice b0 D0.2.length cb0] 58 := hVA_8.only hon9 (hOX_8.notVar hVA_8 (by decide) (by decide))
    have hVW_9 : Var w9 w3.heap.size #[.slice aW E.1.length caW, .slice bW E.2.length cbW] 27 := hVW_8.only hon9 (hOX_8.notVar hVW_8 (by decide) (by decide))
    have hVX_9 : Var w9 w4.heap.size #[.slice aX D0.1.length caX, .slice bX D0.2.length cbX] 27 := hVX_8.only hon9 (hOX_8.notVar hVX_8 (by decide) (by decide))
    have hVG_9 : Var w9 w5.heap.size #[.slice aG E.1.length caG, .slice bG E.2.length cbG] 27 := hVG_8.only hon9 (hOX_8.notVar hVG_8 (by decide) (by decide))
    have hOG_9 := hOG_8.only hon9 (fun j hj hb => by have h1 := (hOG_8.blk j hj).1; have h2 := hxlt j hb; omega)
    have hCw_9 : Below w3.heap.size w3 w9 := hCw_8.trans (hon9.below hCw_8.size (fun j hj => Nat.le_trans hX1 (hbk9 j hj).1))
    clear hon9 hbk9 hB8 hVA_8 hVW_8 hVX_8 hVG_8 hOG_8 hCw_8 hOX_8
    have yW0 := hVW_9.cell 0
    have yW1 := hVW_9.cell 1
    simp at yW0 yW1
    have yG0 := hVG_9.cell 0
    have yG1 := hVG_9.cell 1
    simp at yG0 yG1
    go_wp2_with fail
    refine (eqDiskW _ _ E _ HLE.out hOG_9.rd (HRW.out.below hCw_9 (Nat.le_refl _))).mono ?_
    rintro e w10 ⟨rfl, hb10⟩
    clear yW0 yW1 yG0 yG1
    have hB10 : Below w.heap.size w w10 := hB9.trans (hb10.mono hB9.size)
    have hVA_10 : Var w10 w.heap.size #[.slice a0 D0.1.length ca0, .slice b0 D0.2.length cb0] 58 := hVA_9.new hb10
    have hVW_10 : Var w10 w3.heap.size #[.slice aW E.1.length caW, .slice bW E.2.length cbW] 27 := hVW_9.new hb10
    have hVX_10 : Var w10 w4.heap.size #[.slice aX D0.1.length caX, .slice bX D0.2.length cbX] 27 := hVX_9.new hb10
    have hVG_10 : Var w10 w5.heap.size #[.slice aG E.1.length caG, .slice bG E.2.length cbG] 27 := hVG_9.new hb10
    have hOX_10 := hm9.below hb10
    have hOG_10 := hOG_9.below hb10
    have hCw_10 : Below w3.heap.size w3 w10 := hCw_9.trans (hb10.mono hCw_9.size)
    clear hB9 hVA_9 hVW_9 hVX_9 hVG_9 hm9 hOG_9 hCw_9
    clear hb10
    have yG0 := hVG_10.cell 0
    have yG1 := hVG_10.cell 1
    simp at yG0 yG1
    go_wp2_with fail
    refine (markDiskW _ log 1 E _ HLE.out (by omega) hOG_10).mono ?_
    rintro e w11 ⟨rfl, hm11, hon11⟩
    clear yG0 yG1
    have hbk11 := hOG_10.blk
    have hB11 : Below w.heap.size w w11 := hB10.trans (hon11.below hB10.size (fun j hj => Nat.le_trans hG0 (hbk11 j hj).1))
    have hVA_11 : Var w11 w.heap.size #[.slice a0 D0.1.length ca0, .slice b0 D0.2.length cb0] 58 := hVA_10.only hon11 (hOG_10.notVar hVA_10 (by decide) (by decide))
    have hVW_11 : Var w11 w3.heap.size #[.slice aW E.1.length caW, .slice bW E.2.length cbW] 27 := hVW_10.only hon11 (hOG_10.notVar hVW_10 (by decide) (by decide))
    have hVG_11 : Var w11 w5.heap.size #[.slice aG E.1.length caG, .slice bG E.2.length cbG] 27 := hVG_10.only hon11 (hOG_10.notVar hVG_10 (by decide) (by decide))
    have hCw_11 : Below w3.heap.size w3 w11 := hCw_10.trans (hon11.below hCw_10.size (fun j hj => Nat.le_trans hG1 (hbk11 j hj).1))
    clear hon11 hbk11 hB10 hVA_10 hVW_10 hVG_10 hCw_10 hOG_10
    have hGM : OwnD w11 log (.agg #[.slice aG E.1.length caG, .slice bG E.2.length cbG]) (mrkD 1 E) := hm11
    clear hm11
    have yG0 := hVG_11.cell 0
    have yG1 := hVG_11.cell 1
    simp at yG0 yG1
    go_wp2_with fail
    refine (heldDiskW _ 1 E _ HLE.out (by omega) hGM.rd).mono ?_
    rintro e w12 ⟨rfl, hb12⟩
    clear yG0 yG1
    have hB12 : Below w.heap.size w w12 := hB11.trans (hb12.mono hB11.size)
    have hVA_12 : Var w12 w.heap.size #[.slice a0 D0.1.length ca0, .slice b0 D0.2.length cb0] 58 := hVA_11.new hb12
    have hVW_12 : Var w12 w3.heap.size #[.slice aW E.1.length caW, .slice bW E.2.length cbW] 27 := hVW_11.new hb12
    have hVG_12 : Var w12 w5.heap.size #[.slice aG E.1.length caG, .slice bG E.2.length cbG] 27 := hVG_11.new hb12
    have hOG_12 := hGM.below hb12
    have hCw_12 : Below w3.heap.size w3 w12 := hCw_11.trans (hb12.mono hCw_11.size)
    clear hB11 hVA_11 hVW_11 hVG_11 hGM hCw_11
    clear hb12
    have hcq : ¬ ((1 + cntD E : Nat) : Int) < 0 := by omega
    have yA0 := hVA_12.cell 0
    have yA1 := hVA_12.cell 1
    simp at yA0 yA1
    go_wp2_with fail
    refine (toDiskW _ D0 _ HSZ.out (HR.out _ hB12)).mono ?_
    rintro e w13 ⟨x7, rfl, ho7, hb13⟩
    clear yA0 yA1
    have hB13 : Below w.heap.size w w13 := hB12.trans (hb13.mono hB12.size)
    have hVA_13 : Var w13 w.heap.size #[.slice a0 D0.1.length ca0, .slice b0 D0.2.length cb0] 58 := hVA_12.new hb13
    have hVW_13 : Var w13 w3.heap.size #[.slice aW E.1.length caW, .slice bW E.2.length cbW] 27 := hVW_12.new hb13
    have hVG_13 : Var w13 w5.heap.size #[.slice aG E.1.length caG, .slice bG E.2.length cbG] 27 := hVG_12.new hb13
    have hOG_13 := hOG_12.below hb13
    have hCw_13 : Below w3.heap.size w3 w13 := hCw_12.trans (hb13.mono hCw_12.size)
    clear hB12 hVA_12 hVW_12 hVG_12 hOG_12 hCw_12
    clear hb13
    go_wp2_with fail
    refine (IC.out _ _ _ hB13 HSZ.out ho7).mono ?_
    rintro e w14 ⟨x8, rfl, ho8, hb14⟩
    have hB14 : Below w.heap.size w w14 := hB13.trans (hb14.mono hB13.size)
    have hVA_14 : Var w14 w.heap.size #[.slice a0 D0.1.length ca0, .slice b0 D0.2.length cb0] 58 := hVA_13.new hb14
    have hVW_14 : Var w14 w3.heap.size #[.slice aW E.1.length caW, .slice bW E.2.length cbW] 27 := hVW_13.new hb14
    have hVG_14 : Var w14 w5.heap.size #[.slice aG E.1.length caG, .slice bG E.2.length cbG] 27 := hVG_13.new hb14
    have hOG_14 := hOG_13.below hb14
    have hCw_14 : Below w3.heap.size w3 w14 := hCw_13.trans (hb14.mono hCw_13.size)
    clear hB13 hVA_13 hVW_13 hVG_13 hOG_13 hCw_13
    clear hb14 ho7
    obtain ⟨aH, caH, bH, cbH, rfl⟩ := ho8.shape
    have hB14a : Below w.heap.size w (w14.alloc (.cells #[.slice aH E.1.length caH, .slice bH E.2.length cbH] 27)) := hB14.trans ((below1 w14 (.cells #[.slice aH E.1.length caH, .slice bH E.2.length cbH] 27)).mono hB14.size)
    have hVA_14a : Var (w14.alloc (.cells #[.slice aH E.1.length caH, .slice bH E.2.length cbH] 27)) w.heap.size #[.slice a0 D0.1.length ca0, .slice b0 D0.2.length cb0] 58 := hVA_14.new (below1 w14 (.cells #[.slice aH E.1.length caH, .slice bH E.2.length cbH] 27))
    have hVW_14a : Var (w14.alloc (.cells #[.slice aH E.1.length caH, .slice bH E.2.length cbH] 27)) w3.heap.size #[.slice aW E.1.length caW, .slice bW E.2.length cbW] 27 := hVW_14.new (below1 w14 (.cells #[.slice aH E.1.length caH, .slice bH E.2.length cbH] 27))
    have hVG_14a : Var (w14.alloc (.cells #[.slice aH E.1.length caH, .slice bH E.2.length cbH] 27)) w5.heap.size #[.slice aG E.1.length caG, .slice bG E.2.length cbG] 27 := hVG_14.new (below1 w14 (.cells #[.slice aH E.1.length caH, .slice bH E.2.length cbH] 27))
    have hOG_14a := hOG_14.below (below1 w14 (.cells #[.slice aH E.1.length caH, .slice bH E.2.length cbH] 27))
    have hOH_14a := ho8.below (below1 w14 (.cells #[.slice aH E.1.length caH, .slice bH E.2.length cbH] 27))
    have hCw_14a : Below w3.heap.size w3 (w14.alloc (.cells #[.slice aH E.1.length caH, .slice bH E.2.length cbH] 27)) := hCw_14.trans ((below1 w14 (.cells #[.slice aH E.1.length caH, .slice bH E.2.length cbH] 27)).mono hCw_14.size)
    clear hB14 hVA_14 hVW_14 hVG_14 hOG_14 ho8 hCw_14
    have hVH : Var (w14.alloc (.cells #[.slice aH E.1.length caH, .slice bH E.2.length cbH] 27)) w14.heap.size #[.slice aH E.1.length caH, .slice bH E.2.length cbH] 27 := Var.made w14 _ _
    have yW0 := hVW_14a.cell 0
    have yW1 := hVW_14a.cell 1
    simp at yW0 yW1
    have yH0 := hVH.cell 0
    have yH1 := hVH.cell 1
    simp at yH0 yH1
    go_wp2_with fail
    refine (eqDiskW _ _ E _ HLE.out hOH_14a.rd (HRW.out.below hCw_14a (Nat.le_refl _))).mono ?_
    rintro e w15 ⟨rfl, hb15⟩
    clear yW0 yW1 yH0 yH1
    have hB15 : Below w.heap.size w w15 := hB14a.trans (hb15.mono hB14a.size)
    have hVA_15 : Var w15 w.heap.size #[.slice a0 D0.1.length ca0, .slice b0 D0.2.length cb0] 58 := hVA_14a.new hb15
    have hVW_15 : Var w15 w3.heap.size #[.slice aW E.1.length caW, .slice bW E.2.length cbW] 27 := hVW_14a.new hb15
    have hVG_15 : Var w15 w5.heap.size #[.slice aG E.1.length caG, .slice bG E.2.length cbG] 27 := hVG_14a.new hb15
    have hVH_15 : Var w15 w14.heap.size #[.slice aH E.1.length caH, .slice bH E.2.length cbH] 27 := hVH.new hb15
    have hOG_15 := hOG_14a.below hb15
    have hOH_15 := hOH_14a.below hb15
    have hCw_15 : Below w3.heap.size w3 w15 := hCw_14a.trans (hb15.mono hCw_14a.size)
    clear hB14a hVA_14a hVW_14a hVG_14a hVH hOG_14a hOH_14a hCw_14a
    clear hb15
    have yG0 := hVG_15.cell 0
    have yG1 := hVG_15.cell 1
    simp at yG0 yG1
    go_wp2_with fail
    refine (heldDiskW _ 1 E _ HLE.out (by omega) hOG_15.rd).mono ?_
    rintro e w16 ⟨rfl, hb16⟩
    clear yG0 yG1
    have hB16 : Below w.heap.size w w16 := hB15.trans (hb16.mono hB15.size)
    have hVA_16 : Var w16 w.heap.size #[.slice a0 D0.1.length ca0, .slice b0 D0.2.length cb0] 58 := hVA_15.new hb16
    have hVW_16 : Var w16 w3.heap.size #[.slice aW E.1.length caW, .slice bW E.2.length cbW] 27 := hVW_15.new hb16
    have hVG_16 : Var w16 w5.heap.size #[.slice aG E.1.length caG, .slice bG E.2.length cbG] 27 := hVG_15.new hb16
    have hVH_16 : Var w16 w14.heap.size #[.slice aH E.1.length caH, .slice bH E.2.length cbH] 27 := hVH_15.new hb16
    have hOG_16 := hOG_15.below hb16
    have hOH_16 := hOH_15.below hb16
    have hCw_16 : Below w3.heap.size w3 w16 := hCw_15.trans (hb16.mono hCw_15.size)
    clear hB15 hVA_15 hVW_15 hVG_15 hVH_15 hOG_15 hOH_15 hCw_15
    clear hb16
    go_wp2
    go_ret
    exact ⟨rfl, hB16⟩

set_option maxRecDepth 100000 in
theorem lifted (os : Os) (started : os.Started) (H : Type) (enc : TypeId × Value → H) :
    ReturnsInHanded {} Tryd.checked os 7 .any (fun w args => (Rows.fnExactRecoverSpec.pre enc Tryd.prog Tryd.f7 Rows.fnExactRecoverRow.domain false w args ∧ laidMetH Tryd.prog Rows.fnExactRecoverRow.laid w) ∧ sizedMet enc Tryd.prog Tryd.f7 (OpenSpec.ofChange Rows.fnExactRecoverSpec) false w args) (Rows.fnExactRecoverSpec.post enc Tryd.prog Tryd.f7 false true false false) := by
  refine returnsInHanded_of_change_and (C := Tryd.checked) (X := fun w _ => laidMetH Tryd.prog Rows.fnExactRecoverRow.laid w) (fun _ _ _ hh h => h.of_heap hh) own started (by kernel_rfl) Tryd.func7
    (ChangeSpec.witness_shaped (enc := enc) (C := Tryd.checked) (os := os) (X := fun w _ => laidMetH Tryd.prog Rows.fnExactRecoverRow.laid w) false (World.doorLaid Tryd.prog 28 os) #[.agg #[.slice none 0 0, .slice none 0 0], .int .i64 0] 8 rfl (World.shaped_of_RefB (by kernel_rfl) (by kernel_rfl)) (by kernel_rfl) (by kernel_rfl) (by kernel_rfl) (door_met os _)) ?_
  intro W base args ds gs before hval0 hW _ _ hL _
  have hval : ∀ (j : Nat) t v, Tryd.f7.params[j]? = some t → args[j]? = some v → Value.okWide Tryd.prog W .any base t v := hval0
  have hW' := hW
  obtain ⟨p, q, hA0, hV, rfl, hfz, hnd⟩ := hW
  have hA : DataW.TrodAll enc Tryd.prog W 0 (fun _ => true) true Tryd.f7.params.toList args.toList ds p := hA0
  rw [Tryd.params7] at hA hval
  obtain ⟨v0, vs0, d0, ds0, p0, q0, hargs, rfl, rfl, h0, rr0⟩ := trodAll_cons hA
  obtain ⟨v1, vs1, d1, ds1, p1, q1, rfl, rfl, rfl, h1, rr1⟩ := trodAll_cons rr0
  obtain ⟨rfl, rfl, rfl⟩ := trodAll_nil rr1
  obtain rfl : args = #[v0, v1] := by cases args; simp_all
  have hV1 : DataW.TrodVars enc Tryd.prog W (fun _ => true) ["loop.example/g00483/impl.errNoNum"] gs q := hV
  obtain ⟨xv, hv0⟩ := errVar (Rows.fnExactRecoverRow.laid) rfl hL
  obtain ⟨rfl, rfl⟩ := hV1.unique (vars_read1 enc gErr tErr Tryd.underlying137 hv0 trivial _)
  have k0 := h0
  have lt0 : ∀ x ∈ p0, x.block < W.heap.size := by obtain ⟨m, hm⟩ := k0; exact DataW.trod_lt m _ _ _ hm
  have k1 := h1
  have lt1 : ∀ x ∈ p1, x.block < W.heap.size := by obtain ⟨m, hm⟩ := k1; exact DataW.trod_lt m _ _ _ hm
  obtain ⟨D0, f0, r0⟩ := open_Disk (hval 0 58 v0 rfl rfl) h0
  obtain ⟨a1, rfl, rfl, rfl, w1⟩ := open_int Tryd.underlying3 (hval 1 3 v1 rfl rfl) h1
  clear hA0 hval0
  refine (walk v0 D0 f0 a1 w1 W r0 hL).mono fun e W' ⟨he, bel⟩ => ?_
  subst he
  exact ⟨_, rfl, _, _, _, [], _, [.cell errG 0], hW', trodAll_mk1 (shut_bool Tryd.underlying4 _), (trodAll_cons_mk (Below.trod laidOut (by kernel_rfl) (of_decide_eq_true (by kernel_rfl)) k0 bel lt0) (trodAll_cons_mk (Below.trod laidOut (by kernel_rfl) (of_decide_eq_true (by kernel_rfl)) k1 bel lt1) trodAll_mk0)), vars_read1 enc gErr tErr Tryd.underlying137 (Joins.var_stays gErr hv0 bel (Nat.le_refl _)) trivial _, bel.frame _, fun h => by cases h⟩

theorem over : Rows.fnExactRecoverRow.holds Tryd.pinned (OpenSpec.ofChange Rows.fnExactRecoverSpec) :=
  OpenClaim.holds_of_wide 7 Tryd.f7 rfl rfl rfl rfl rfl rfl rfl ⟨rfl, rfl, rfl, rfl, rfl⟩ rfl rfl rfl rfl rfl (by kernel_rfl) Tryd.func7 (by kernel_rfl)
    (of_decide_eq_true (by kernel_rfl)) (by unfold Func.isWrapper; first | (rw [if_pos (by decide +kernel)]; kernel_rfl) | (rw [if_neg (by decide +kernel)]; exact ⟨rfl, rfl⟩))
    (fun os started H enc _ => lifted os started H enc)

theorem plain (f : FuncId) (fn : Func) (hf : Tryd.pinned.checked.prog.funcNamed "loop.example/g00483/laws.FnExactRecover" = some f) (hfn : Tryd.pinned.checked.prog.funcs[f]? = some fn) :
    false = Tryd.pinned.checked.prog.looks [] ∧ ∀ (j : Nat) t, fn.params[j]? = some t → Tryd.pinned.checked.prog.wantsStandIn t = false := by
  obtain rfl : f = 7 := Option.some.inj ((show Tryd.prog.funcNamed "loop.example/g00483/laws.FnExactRecover" = some 7 by kernel_rfl).symm.trans hf) |>.symm
  obtain rfl : fn = Tryd.f7 := (Option.some.inj (Tryd.func7.symm.trans hfn)).symm
  refine ⟨by kernel_rfl, fun j t ht => ?_⟩
  rw [Tryd.params7] at ht
  have hm : t ∈ [58, 3] := by simpa using Array.mem_of_getElem? ht
  have hall : ([58, 3].all fun u => !Tryd.prog.wantsStandIn u) = true := by kernel_rfl
  exact (show Tryd.prog.wantsStandIn t = false by simpa using List.all_eq_true.1 hall t hm)

theorem card : Rows.FnExactRecoverCardSaid :=
  Claim7.holds_tied_plain_at .later [] _ _ _ _ over (fun _ h => by cases h) (by kernel_rfl) (fun _ h => by cases h) fnExactRecover_row_tie rfl ⟨rfl, rfl⟩ (by kernel_rfl) rfl plain (by kernel_rfl)
#print axioms card
end Go.Proofs.YtlidmnehpcodkaaDoor.fnExactRecover
