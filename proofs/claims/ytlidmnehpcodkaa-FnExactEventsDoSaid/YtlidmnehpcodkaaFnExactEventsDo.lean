/-
  For every disk and row of events the law FnExactEventsDo returns true, and what came in reads behind the call as it read before: no condition.
-/
import Derived.Test.YtlidmnehpcodkaaBunA
import Derived.Deep.RegionHeld3
import Derived.Test.YtlidmnehpcodkaaBunS
import Derived.Test.YtlidmnehpcodkaaBoolW
import Derived.Test.YtlidmnehpcodkaaEvDoL
import Derived.Test.YtlidmnehpcodkaaIJourW
import Derived.Test.YtlidmnehpcodkaaRows
import Derived.WalkKit
import Derived.ProofKit
import Derived.OpenShut
import Derived.ShutString
import Derived.ChangeOld
import Derived.Below
namespace Go.Proofs.Ytlidmnehpcodkaa.fnExactEventsDo
open Go.ChangeShapes Go.WideShapes Go.ChangeAt Go.RowKit
open Go.ChangeMaps (open_string shut_string)
set_option linter.unusedVariables false

theorem own : ownKnob Try.prog.godebug = none := by kernel_rfl
theorem laidOut : laidOutB Try.prog = true := by kernel_rfl

set_option maxRecDepth 20000 in
set_option maxHeartbeats 4000000 in
theorem walk (v0 : Value) (D0 : DiskD) (f0 : FitD D0) (q1 : Option Addr) (qc1 : Nat) (E1 : List EvD) (f1 : FitE E1) (w : World) (r0 : RdD w v0 D0) (r1 : RdF encE 3 w q1 E1) :
    Calls Try.prog 6 #[v0, .slice q1 E1.length qc1] w fun e w' => e = .returned (.bool true) ∧ Below w.heap.size w w' := by
  obtain ⟨a0, ca0, b0, cb0, rfl⟩ := r0.shape
  have HR : Hid (∀ W, Below w.heap.size w W → RdD W (.agg #[.slice a0 D0.1.length ca0, .slice b0 D0.2.length cb0]) D0) := fun W h => r0.below h (Nat.le_refl _)
  have HF : Hid (FitD D0) := f0
  clear r0 f0
  have HK : Hid (∀ W, Below w.heap.size w W → RdF encE 3 W q1 E1) := fun W h => r1.below h (Nat.le_refl _)
  have HFE : Hid (FitE E1) := f1
  clear r1 f1
  obtain ⟨E, HE⟩ : ∃ E, Hid (evDo D0 E1 = E) := ⟨_, rfl⟩
  have SC : Hid (∀ v W a c, szD D0 ≤ 1048576 → szE E1 ≤ 1048576 → RdD W v D0 → RdF encE 3 W a E1 → Calls Try.prog 23 #[v, .slice a E1.length c] W fun e w' => ∃ v', e = .returned v' ∧ OwnD w' W.heap.size v' E ∧ Below W.heap.size W w') := by
    intro v W a c hs hse hv hk
    have h1 := len_of_sz1 hs
    rw [← HE.out]
    exact specEventsDo v D0 a c E1 W h1 (by have := szE_len E1; omega) hv hk
  have IC : Hid (∀ v W a c, szD D0 ≤ 1048576 → szE E1 ≤ 1048576 → RdD W v D0 → RdF encE 3 W a E1 → Calls Try.prog 26 #[v, .slice a E1.length c] W fun e w' => ∃ v', e = .returned v' ∧ OwnD w' W.heap.size v' E ∧ Below W.heap.size W w') := by
    intro v W a c hs hse hv hk
    have h1 := len_of_sz1 hs
    rw [← HE.out]
    exact implEventsDo v D0 a c E1 W h1 (smD_sz hs) (by have := szE_len E1; omega) hv hk
  have HLS : Hid (szD D0 ≤ 1048576 → E.1.length ≤ 4194304 ∧ E.2.length ≤ 4194304) := by
    intro hs
    have h1 := len_of_sz1 hs
    rw [← HE.out]
    exact len_evDo h1
  go_enter Try.func6, Try.ntmps6
  go_wp2_with fail
  refine (szDiskW _ D0 1048576 _ (by omega) (by omega) HF.out (HR.out _ (below1 _ _))).mono ?_
  rintro e wz ⟨r, rfl, hsz, hr0, hr1, hbz⟩
  have hVz : Var wz w.heap.size #[.slice a0 D0.1.length ca0, .slice b0 D0.2.length cb0] 38 := (Var.made w _ _).new hbz
  have hBz : Below w.heap.size w wz := (below1 w _).trans (hbz.mono (by simp))
  by_cases hneg : r < 0
  · clear hsz
    go_wp2
    go_ret
    exact ⟨rfl, hBz⟩
  have HSZ : Hid (szD D0 ≤ 1048576) := by have := hsz (by omega); show _ ≤ _; omega
  have HL : Hid (D0.1.length ≤ 4194304 ∧ D0.2.length ≤ 4194304) := len_of_sz HSZ.out
  have HLE : Hid (E.1.length ≤ 4194304 ∧ E.2.length ≤ 4194304) := HLS.out HSZ.out
  clear hsz hbz
  go_wp2_with fail
  refine (szEvs _ _ E1 r _ (by omega) hr1 HFE.out.1 HFE.out.2 (HK.out _ hBz)).mono ?_
  rintro e w1 ⟨r2, rfl, hsze, hr20, hr21, hb1⟩
  have hVA : Var w1 w.heap.size #[.slice a0 D0.1.length ca0, .slice b0 D0.2.length cb0] 38 := hVz.new hb1
  have hB1 : Below w.heap.size w w1 := hBz.trans (hb1.mono hBz.size)
  by_cases hneg2 : r2 < 0
  · clear hsze
    go_wp2
    go_ret
    exact ⟨rfl, hB1⟩
  have HSE : Hid (szE E1 ≤ 1048576) := by have := hsze (by omega); show _ ≤ _; omega
  have HLV : Hid (E1.length ≤ 1048576) := by have := HSE.out; have := szE_len E1; show _ ≤ _; omega
  clear hsze hb1 hVz hBz
  have yA0 := hVA.cell 0
  have yA1 := hVA.cell 1
  simp at yA0 yA1
  go_wp2_with fail
  refine (toDiskW _ D0 _ HSZ.out (HR.out _ hB1)).mono ?_
  rintro e w2 ⟨x2, rfl, ho2, hb2⟩
  clear yA0 yA1
  have hB2 : Below w.heap.size w w2 := hB1.trans (hb2.mono hB1.size)
  have hVA_2 : Var w2 w.heap.size #[.slice a0 D0.1.length ca0, .slice b0 D0.2.length cb0] 38 := hVA.new hb2
  clear hB1 hVA
  clear hb2
  go_wp2_with fail
  refine (toEvs _ _ E1 _ HLV.out (HK.out _ hB2)).mono ?_
  rintro e w3 ⟨y2, rfl, hks, hb3⟩
  have hB3 : Below w.heap.size w w3 := hB2.trans (hb3.mono hB2.size)
  have hVA_3 : Var w3 w.heap.size #[.slice a0 D0.1.length ca0, .slice b0 D0.2.length cb0] 38 := hVA_2.new hb3
  have hOS_3 := ho2.below hb3
  clear hB2 hVA_2 ho2
  clear hb3
  obtain ⟨qs, qcs, rfl, _, rqs⟩ := own_rdF encE_len hks rfl
  clear rqs
  go_wp2_with fail
  refine (SC.out _ _ _ _ HSZ.out HSE.out hOS_3.rd (rdE hks)).mono ?_
  rintro e w4 ⟨x3, rfl, ho3, hb4⟩
  clear hOS_3 hks
  have hB4 : Below w.heap.size w w4 := hB3.trans (hb4.mono hB3.size)
  have hVA_4 : Var w4 w.heap.size #[.slice a0 D0.1.length ca0, .slice b0 D0.2.length cb0] 38 := hVA_3.new hb4
  clear hB3 hVA_3
  clear hb4
  obtain ⟨aW, caW, bW, cbW, rfl⟩ := ho3.shape
  have HRW : Hid (RdD w4 (.agg #[.slice aW E.1.length caW, .slice bW E.2.length cbW]) E) := ho3.rd
  clear ho3
  have hCw : Below w4.heap.size w4 w4 := Below.refl _ _
  have hB4a : Below w.heap.size w (w4.alloc (.cells #[.slice aW E.1.length caW, .slice bW E.2.length cbW] 43)) := hB4.trans ((below1 w4 (.cells #[.slice aW E.1.length caW, .slice bW E.2.length cbW] 43)).mono hB4.size)
  have hVA_4a : Var (w4.alloc (.cells #[.slice aW E.1.length caW, .slice bW E.2.length cbW] 43)) w.heap.size #[.slice a0 D0.1.length ca0, .slice b0 D0.2.length cb0] 38 := hVA_4.new (below1 w4 (.cells #[.slice aW E.1.length caW, .slice bW E.2.length cbW] 43))
  have hCw_4a : Below w4.heap.size w4 (w4.alloc (.cells #[.slice aW E.1.length caW, .slice bW E.2.length cbW] 43)) := hCw.trans ((below1 w4 (.cells #[.slice aW E.1.length caW, .slice bW E.2.length cbW] 43)).mono hCw.size)
  clear hB4 hVA_4 hCw
  have hVW : Var (w4.alloc (.cells #[.slice aW E.1.length caW, .slice bW E.2.length cbW] 43)) w4.heap.size #[.slice aW E.1.length caW, .slice bW E.2.length cbW] 43 := Var.made w4 _ _
  have hX1 : w4.heap.size ≤ (w4.alloc (.cells #[.slice aW E.1.length caW, .slice bW E.2.length cbW] 43)).heap.size := hCw_4a.size
  have hX0 : w.heap.size ≤ (w4.alloc (.cells #[.slice aW E.1.length caW, .slice bW E.2.length cbW] 43)).heap.size := hB4a.size
  generalize hlx : (w4.alloc (.cells #[.slice aW E.1.length caW, .slice bW E.2.length cbW] 43)).heap.size = lox at hX0 hX1
  have yA0 := hVA_4a.cell 0
  have yA1 := hVA_4a.cell 1
  simp at yA0 yA1
  go_wp2_with fail
  refine (toDiskW _ D0 _ HSZ.out (HR.out _ hB4a)).mono ?_
  rintro e w5 ⟨x4, rfl, ho4, hb5⟩
  clear yA0 yA1
  rw [hlx] at ho4
  clear hlx
  have hB5 : Below w.heap.size w w5 := hB4a.trans (hb5.mono hB4a.size)
  have hVA_5 : Var w5 w.heap.size #[.slice a0 D0.1.length ca0, .slice b0 D0.2.length cb0] 38 := hVA_4a.new hb5
  have hVW_5 : Var w5 w4.heap.size #[.slice aW E.1.length caW, .slice bW E.2.length cbW] 43 := hVW.new hb5
  have hCw_5 : Below w4.heap.size w4 w5 := hCw_4a.trans (hb5.mono hCw_4a.size)
  clear hB4a hVA_4a hVW hCw_4a
  clear hb5
  obtain ⟨aX, caX, bX, cbX, rfl⟩ := ho4.shape
  have hB5a : Below w.heap.size w (w5.alloc (.cells #[.slice aX D0.1.length caX, .slice bX D0.2.length cbX] 43)) := hB5.trans ((below1 w5 (.cells #[.slice aX D0.1.length caX, .slice bX D0.2.length cbX] 43)).mono hB5.size)
  have hVA_5a : Var (w5.alloc (.cells #[.slice aX D0.1.length caX, .slice bX D0.2.length cbX] 43)) w.heap.size #[.slice a0 D0.1.length ca0, .slice b0 D0.2.length cb0] 38 := hVA_5.new (below1 w5 (.cells #[.slice aX D0.1.length caX, .slice bX D0.2.length cbX] 43))
  have hVW_5a : Var (w5.alloc (.cells #[.slice aX D0.1.length caX, .slice bX D0.2.length cbX] 43)) w4.heap.size #[.slice aW E.1.length caW, .slice bW E.2.length cbW] 43 := hVW_5.new (below1 w5 (.cells #[.slice aX D0.1.length caX, .slice bX D0.2.length cbX] 43))
  have hOX_5a := ho4.below (below1 w5 (.cells #[.slice aX D0.1.length caX, .slice bX D0.2.length cbX] 43))
  have hCw_5a : Below w4.heap.size w4 (w5.alloc (.cells #[.slice aX D0.1.length caX, .slice bX D0.2.length cbX] 43)) := hCw_5.trans ((below1 w5 (.cells #[.slice aX D0.1.length caX, .slice bX D0.2.length cbX] 43)).mono hCw_5.size)
  clear hB5 hVA_5 hVW_5 ho4 hCw_5
  have hVX : Var (w5.alloc (.cells #[.slice aX D0.1.length caX, .slice bX D0.2.length cbX] 43)) w5.heap.size #[.slice aX D0.1.length caX, .slice bX D0.2.length cbX] 43 := Var.made w5 _ _
  have hY1 : w4.heap.size ≤ (w5.alloc (.cells #[.slice aX D0.1.length caX, .slice bX D0.2.length cbX] 43)).heap.size := hCw_5a.size
  have hY0 : w.heap.size ≤ (w5.alloc (.cells #[.slice aX D0.1.length caX, .slice bX D0.2.length cbX] 43)).heap.size := hB5a.size
  generalize hly : (w5.alloc (.cells #[.slice aX D0.1.length caX, .slice bX D0.2.length cbX] 43)).heap.size = loy at hY0 hY1
  go_wp2_with fail
  refine (toEvs _ _ E1 _ HLV.out (HK.out _ hB5a)).mono ?_
  rintro e w6 ⟨y4, rfl, hky, hb6⟩
  rw [hly] at hky
  clear hly
  have hB6 : Below w.heap.size w w6 := hB5a.trans (hb6.mono hB5a.size)
  have hVA_6 : Var w6 w.heap.size #[.slice a0 D0.1.length ca0, .slice b0 D0.2.length cb0] 38 := hVA_5a.new hb6
  have hVW_6 : Var w6 w4.heap.size #[.slice aW E.1.length caW, .slice bW E.2.length cbW] 43 := hVW_5a.new hb6
  have hVX_6 : Var w6 w5.heap.size #[.slice aX D0.1.length caX, .slice bX D0.2.length cbX] 43 := hVX.new hb6
  have hOX_6 := hOX_5a.below hb6
  have hCw_6 : Below w4.heap.size w4 w6 := hCw_5a.trans (hb6.mono hCw_5a.size)
  clear hB5a hVA_5a hVW_5a hVX hOX_5a hCw_5a
  clear hb6
  obtain ⟨qy, qcy, rfl, _, rqy⟩ := own_rdF encE_len hky rfl
  clear rqy
  have hxlt0 := hOX_6.blk
  have hG1 : w4.heap.size ≤ w6.heap.size := hCw_6.size
  have hG0 : w.heap.size ≤ w6.heap.size := hB6.size
  generalize hlg : w6.heap.size = log at hG0 hG1 hxlt0
  have hxlt : ∀ j, blkD (.agg #[.slice aX D0.1.length caX, .slice bX D0.2.length cbX]) j → j < log := fun j hj => (hxlt0 j hj).2
  have yX0 := hVX_6.cell 0
  have yX1 := hVX_6.cell 1
  simp at yX0 yX1
  go_wp2_with fail
  refine (IC.out _ _ _ _ HSZ.out HSE.out hOX_6.rd (rdE hky)).mono ?_
  rintro e w7 ⟨x5, rfl, ho5, hb7⟩
  clear yX0 yX1
  rw [hlg] at ho5
  clear hlg hxlt0
  have hB7 : Below w.heap.size w w7 := hB6.trans (hb7.mono hB6.size)
  have hVA_7 : Var w7 w.heap.size #[.slice a0 D0.1.length ca0, .slice b0 D0.2.length cb0] 38 := hVA_6.new hb7
  have hVW_7 : Var w7 w4.heap.size #[.slice aW E.1.length caW, .slice bW E.2.length cbW] 43 := hVW_6.new hb7
  have hVX_7 : Var w7 w5.heap.size #[.slice aX D0.1.length caX, .slice bX D0.2.length cbX] 43 := hVX_6.new hb7
  have hOX_7 := hOX_6.below hb7
  have hQy_7 := ownsRow_below hky hb7 (Nat.le_refl _)
  have hCw_7 : Below w4.heap.size w4 w7 := hCw_6.trans (hb7.mono hCw_6.size)
  clear hB6 hVA_6 hVW_6 hVX_6 hOX_6 hky hCw_6
  clear hb7
  obtain ⟨aG, caG, bG, cbG, rfl⟩ := ho5.shape
  have hB7a : Below w.heap.size w (w7.alloc (.cells #[.slice aG E.1.length caG, .slice bG E.2.length cbG] 43)) := hB7.trans ((below1 w7 (.cells #[.slice aG E.1.length caG, .slice bG E.2.length cbG] 43)).mono hB7.size)
  have hVA_7a : Var (w7.alloc (.cells #[.slice aG E.1.length caG, .slice bG E.2.length cbG] 43)) w.heap.size #[.slice a0 D0.1.length ca0, .slice b0 D0.2.length cb0] 38 := hVA_7.new (below1 w7 (.cells #[.slice aG E.1.length caG, .slice bG E.2.length cbG] 43))
  have hVW_7a : Var (w7.alloc (.cells #[.slice aG E.1.length caG, .slice bG E.2.length cbG] 43)) w4.heap.size #[.slice aW E.1.length caW, .slice bW E.2.length cbW] 43 := hVW_7.new (below1 w7 (.cells #[.slice aG E.1.length caG, .slice bG E.2.length cbG] 43))
  have hVX_7a : Var (w7.alloc (.cells #[.slice aG E.1.length caG, .slice bG E.2.length cbG] 43)) w5.heap.size #[.slice aX D0.1.length caX, .slice bX D0.2.length cbX] 43 := hVX_7.new (below1 w7 (.cells #[.slice aG E.1.length caG, .slice bG E.2.length cbG] 43))
  have hOX_7a := hOX_7.below (below1 w7 (.cells #[.slice aG E.1.length caG, .slice bG E.2.length cbG] 43))
  have hOG_7a := ho5.below (below1 w7 (.cells #[.slice aG E.1.length caG, .slice bG E.2.length cbG] 43))
  have hQy_7a := ownsRow_below hQy_7 (below1 w7 (.cells #[.slice aG E.1.length caG, .slice bG E.2.length cbG] 43)) (Nat.le_refl _)
  have hCw_7a : Below w4.heap.size w4 (w7.alloc (.cells #[.slice aG E.1.length caG, .slice bG E.2.length cbG] 43)) := hCw_7.trans ((below1 w7 (.cells #[.slice aG E.1.length caG, .slice bG E.2.length cbG] 43)).mono hCw_7.size)
  clear hB7 hVA_7 hVW_7 hVX_7 hOX_7 ho5 hQy_7 hCw_7
  have hVG : Var (w7.alloc (.cells #[.slice aG E.1.length caG, .slice bG E.2.length cbG] 43)) w7.heap.size #[.slice aG E.1.length caG, .slice bG E.2.length cbG] 43 := Var.made w7 _ _
  have yW0 := hVW_7a.cell 0
  have yW1 := hVW_7a.cell 1
  simp at yW0 yW1
  have yG0 := hVG.cell 0
  have yG1 := hVG.cell 1
  simp at yG0 yG1
  go_wp2_with fail
  refine (eqDiskW _ _ E _ HLE.out hOG_7a.rd (HRW.out.below hCw_7a (Nat.le_refl _))).mono ?_
  rintro e w8 ⟨rfl, hb8⟩
  clear yW0 yW1 yG0 yG1
  have hB8 : Below w.heap.size w w8 := hB7a.trans (hb8.mono hB7a.size)
  have hVA_8 : Var w8 w.heap.size #[.slice a0 D0.1.length ca0, .slice b0 D0.2.length cb0] 38 := hVA_7a.new hb8
  have hVW_8 : Var w8 w4.heap.size #[.slice aW E.1.length caW, .slice bW E.2.length cbW] 43 := hVW_7a.new hb8
  have hVX_8 : Var w8 w5.heap.size #[.slice aX D0.1.length caX, .slice bX D0.2.length cbX] 43 := hVX_7a.new hb8
  have hVG_8 : Var w8 w7.heap.size #[.slice aG E.1.length caG, .slice bG E.2.length cbG] 43 := hVG.new hb8
  have hOX_8 := hOX_7a.below hb8
  have hOG_8 := hOG_7a.below hb8
  have hQy_8 := ownsRow_below hQy_7a hb8 (Nat.le_refl _)
  have hCw_8 : Below w4.heap.size w4 w8 := hCw_7a.trans (hb8.mono hCw_7a.size)
  clear hB7a hVA_7a hVW_7a hVX_7a hVG hOX_7a hOG_7a hQy_7a hCw_7a
  clear hb8
  have yA0 := hVA_8.cell 0
  have yA1 := hVA_8.cell 1
  simp at yA0 yA1
  have yX0 := hVX_8.cell 0
  have yX1 := hVX_8.cell 1
  simp at yX0 yX1
  have HVX : Hid (Var w8 w5.heap.size #[.slice aX D0.1.length caX, .slice bX D0.2.length cbX] 43) := hVX_8
  have HOX : Hid (OwnD w8 lox (.agg #[.slice aX D0.1.length caX, .slice bX D0.2.length cbX]) D0) := hOX_8
  have HT6 : Hid (Calls Try.prog 24 #[(.agg #[.slice a0 D0.1.length ca0, .slice b0 D0.2.length cb0])] w8.drew fun e w' => ∃ v', e = .returned v' ∧ OwnD w' w8.heap.size v' D0 ∧ Below w8.heap.size w8 w') := by
    refine (toDiskW _ D0 w8.drew HSZ.out (HR.out _ hB8.drew)).mono ?_
    rintro e w' ⟨v', rfl, h1, h2⟩
    exact ⟨v', rfl, h1, ⟨h2.os, h2.tape, h2.output, h2.size, h2.block⟩⟩
  go_wp2_with fail
  go_region_with (first
    | (go_at_call 24
       refine HT6.out.mono ?_
       rintro e w9 ⟨x6, rfl, ho6, hb9⟩
       have hu0 : w9.cell? ⟨w5.heap.size, 0, none⟩ = some (.slice aX D0.1.length caX) := (HVX.out.new hb9).cell 0
       have hu1 : w9.cell? ⟨w5.heap.size, 1, none⟩ = some (.slice bX D0.2.length cbX) := (HVX.out.new hb9).cell 1)
    | (go_at_call 27
       refine (eqDiskW _ x6 D0 _ HL.out (HOX.out.rd.below hb9 (Nat.le_refl _)) ho6.rd).mono ?_
       rintro e w10 ⟨rfl, hb10⟩
       have hbJ : Below w8.heap.size w8 w10 := hb9.trans (hb10.mono hb9.size)
       clear hu0 hu1 ho6 hb9 hb10))
  all_goals
    clear HVX HOX HT6 yA0 yA1 yX0 yX1
    have hB10 : Below w.heap.size w w10 := hB8.trans (hbJ.mono hB8.size)
    have hVA_10 : Var w10 w.heap.size #[.slice a0 D0.1.length ca0, .slice b0 D0.2.length cb0] 38 := hVA_8.new hbJ
    have hVW_10 : Var w10 w4.heap.size #[.slice aW E.1.length caW, .slice bW E.2.length cbW] 43 := hVW_8.new hbJ
    have hVX_10 : Var w10 w5.heap.size #[.slice aX D0.1.length caX, .slice bX D0.2.length cbX] 43 := hVX_8.new hbJ
    have hVG_10 : Var w10 w7.heap.size #[.slice aG E.1.length caG, .slice bG E.2.length cbG] 43 := hVG_8.new hbJ
    have hOX_10 := hOX_8.below hbJ
    have hOG_10 := hOG_8.below hbJ
    have hQy_10 := ownsRow_below hQy_8 hbJ (Nat.le_refl _)
    have hCw_10 : Below w4.heap.size w4 w10 := hCw_8.trans (hbJ.mono hCw_8.size)
    clear hB8 hVA_8 hVW_8 hVX_8 hVG_8 hOX_8 hOG_8 hQy_8 hCw_8
    clear hbJ
    go_wp2_with fail
    refine (toEvs _ _ E1 _ HLV.out (HK.out _ hB10)).mono ?_
    rintro e w11 ⟨y6, rfl, hkz, hb11⟩
    have hB11 : Below w.heap.size w w11 := hB10.trans (hb11.mono hB10.size)
    have hVA_11 : Var w11 w.heap.size #[.slice a0 D0.1.length ca0, .slice b0 D0.2.length cb0] 38 := hVA_10.new hb11
    have hVW_11 : Var w11 w4.heap.size #[.slice aW E.1.length caW, .slice bW E.2.length cbW] 43 := hVW_10.new hb11
    have hVX_11 : Var w11 w5.heap.size #[.slice aX D0.1.length caX, .slice bX D0.2.length cbX] 43 := hVX_10.new hb11
    have hVG_11 : Var w11 w7.heap.size #[.slice aG E.1.length caG, .slice bG E.2.length cbG] 43 := hVG_10.new hb11
    have hOX_11 := hOX_10.below hb11
    have hOG_11 := hOG_10.below hb11
    have hQy_11 := ownsRow_below hQy_10 hb11 (Nat.le_refl _)
    have hCw_11 : Below w4.heap.size w4 w11 := hCw_10.trans (hb11.mono hCw_10.size)
    clear hB10 hVA_10 hVW_10 hVX_10 hVG_10 hOX_10 hOG_10 hQy_10 hCw_10
    clear hb11
    obtain ⟨qz, qcz, rfl, _, rqz⟩ := own_rdF encE_len hkz rfl
    clear rqz
    go_wp2_with fail
    refine (eqEvs _ _ _ _ E1 _ (by have := HLV.out; omega) (rdE hQy_11) (rdE hkz)).mono ?_
    rintro e w12 ⟨rfl, hb12⟩
    have hB12 : Below w.heap.size w w12 := hB11.trans (hb12.mono hB11.size)
    have hVA_12 : Var w12 w.heap.size #[.slice a0 D0.1.length ca0, .slice b0 D0.2.length cb0] 38 := hVA_11.new hb12
    have hVW_12 : Var w12 w4.heap.size #[.slice aW E.1.length caW, .slice bW E.2.length cbW] 43 := hVW_11.new hb12
    have hVX_12 : Var w12 w5.heap.size #[.slice aX D0.1.length caX, .slice bX D0.2.length cbX] 43 := hVX_11.new hb12
    have hVG_12 : Var w12 w7.heap.size #[.slice aG E.1.length caG, .slice bG E.2.length cbG] 43 := hVG_11.new hb12
    have hOX_12 := hOX_11.below hb12
    have hOG_12 := hOG_11.below hb12
    have hQy_12 := ownsRow_below hQy_11 hb12 (Nat.le_refl _)
    have hCw_12 : Below w4.heap.size w4 w12 := hCw_11.trans (hb12.mono hCw_11.size)
    clear hB11 hVA_11 hVW_11 hVX_11 hVG_11 hOX_11 hOG_11 hQy_11 hCw_11
    clear hb12 hkz
    have yX0 := hVX_12.cell 0
    have yX1 := hVX_12.cell 1
    simp at yX0 yX1
    go_wp2_with fail
    refine (markDiskW _ lox 1 D0 _ HL.out (by omega) hOX_12).mono ?_
    rintro e w13 ⟨rfl, hm13, hon13⟩
    clear yX0 yX1
    have hbk13 := hOX_12.blk
    have hB13 : Below w.heap.size w w13 := hB12.trans (hon13.below hB12.size (fun j hj => Nat.le_trans hX0 (hbk13 j hj).1))
    have hVA_13 : Var w13 w.heap.size #[.slice a0 D0.1.length ca0, .slice b0 D0.2.length cb0] 38 := hVA_12.only hon13 (hOX_12.notVar hVA_12 (by decide) (by decide))
    have hVW_13 : Var w13 w4.heap.size #[.slice aW E.1.length caW, .slice bW E.2.length cbW] 43 := hVW_12.only hon13 (hOX_12.notVar hVW_12 (by decide) (by decide))
    have hVX_13 : Var w13 w5.heap.size #[.slice aX D0.1.length caX, .slice bX D0.2.length cbX] 43 := hVX_12.only hon13 (hOX_12.notVar hVX_12 (by decide) (by decide))
    have hVG_13 : Var w13 w7.heap.size #[.slice aG E.1.length caG, .slice bG E.2.length cbG] 43 := hVG_12.only hon13 (hOX_12.notVar hVG_12 (by decide) (by decide))
    have hOG_13 := hOG_12.only hon13 (fun j hj hb => by have h1 := (hOG_12.blk j hj).1; have h2 := hxlt j hb; omega)
    have hQy_13 := own_only hQy_12 hon13 (fun j hj hb => hOX_12.notRow hQy_12 (by decide) (by decide) j hb hj)
    have hCw_13 : Below w4.heap.size w4 w13 := hCw_12.trans (hon13.below hCw_12.size (fun j hj => Nat.le_trans hX1 (hbk13 j hj).1))
    clear hon13 hbk13 hB12 hVA_12 hVW_12 hVX_12 hVG_12 hOG_12 hQy_12 hCw_12 hOX_12
    go_wp2_with fail
    refine (markEvs _ E1.length (1 + cntD D0) _ E1 _ (by have := HLV.out; omega) (by have := HL.out; have := cnt_le HSZ.out; omega) rfl hQy_13).mono ?_
    rintro e w14 ⟨rfl, _, hon14⟩
    have hbk14 := hQy_13.lt
    have hB14 : Below w.heap.size w w14 := hB13.trans (hon14.below hB13.size (fun j hj => Nat.le_trans hY0 (hbk14 j hj).1))
    have hVA_14 : Var w14 w.heap.size #[.slice a0 D0.1.length ca0, .slice b0 D0.2.length cb0] 38 := hVA_13.only hon14 (own_var hQy_13 hVA_13 (by decide))
    have hVW_14 : Var w14 w4.heap.size #[.slice aW E.1.length caW, .slice bW E.2.length cbW] 43 := hVW_13.only hon14 (own_var hQy_13 hVW_13 (by decide))
    have hVX_14 : Var w14 w5.heap.size #[.slice aX D0.1.length caX, .slice bX D0.2.length cbX] 43 := hVX_13.only hon14 (own_var hQy_13 hVX_13 (by decide))
    have hVG_14 : Var w14 w7.heap.size #[.slice aG E.1.length caG, .slice bG E.2.length cbG] 43 := hVG_13.only hon14 (own_var hQy_13 hVG_13 (by decide))
    have hOX_14 := hm13.only hon14 (fun j hj hb => hm13.notRow hQy_13 (by decide) (by decide) j hj hb)
    have hOG_14 := hOG_13.only hon14 (fun j hj hb => hOG_13.notRow hQy_13 (by decide) (by decide) j hj hb)
    have hCw_14 : Below w4.heap.size w4 w14 := hCw_13.trans (hon14.below hCw_13.size (fun j hj => Nat.le_trans hY1 (hbk14 j hj).1))
    clear hon14 hbk14 hB13 hVA_13 hVW_13 hVX_13 hVG_13 hm13 hOG_13 hCw_13 hQy_13
    have yW0 := hVW_14.cell 0
    have yW1 := hVW_14.cell 1
    simp at yW0 yW1
    have yG0 := hVG_14.cell 0
    have yG1 := hVG_14.cell 1
    simp at yG0 yG1
    go_wp2_with fail
    refine (eqDiskW _ _ E _ HLE.out hOG_14.rd (HRW.out.below hCw_14 (Nat.le_refl _))).mono ?_
    rintro e w15 ⟨rfl, hb15⟩
    clear yW0 yW1 yG0 yG1
    have hB15 : Below w.heap.size w w15 := hB14.trans (hb15.mono hB14.size)
    have hVA_15 : Var w15 w.heap.size #[.slice a0 D0.1.length ca0, .slice b0 D0.2.length cb0] 38 := hVA_14.new hb15
    have hVW_15 : Var w15 w4.heap.size #[.slice aW E.1.length caW, .slice bW E.2.length cbW] 43 := hVW_14.new hb15
    have hVX_15 : Var w15 w5.heap.size #[.slice aX D0.1.length caX, .slice bX D0.2.length cbX] 43 := hVX_14.new hb15
    have hVG_15 : Var w15 w7.heap.size #[.slice aG E.1.length caG, .slice bG E.2.length cbG] 43 := hVG_14.new hb15
    have hOX_15 := hOX_14.below hb15
    have hOG_15 := hOG_14.below hb15
    have hCw_15 : Below w4.heap.size w4 w15 := hCw_14.trans (hb15.mono hCw_14.size)
    clear hB14 hVA_14 hVW_14 hVX_14 hVG_14 hOX_14 hOG_14 hCw_14
    clear hb15
    have yG0 := hVG_15.cell 0
    have yG1 := hVG_15.cell 1
    simp at yG0 yG1
    go_wp2_with fail
    refine (markDiskW _ log 1 E _ HLE.out (by omega) hOG_15).mono ?_
    rintro e w16 ⟨rfl, hm16, hon16⟩
    clear yG0 yG1
    have hbk16 := hOG_15.blk
    have hB16 : Below w.heap.size w w16 := hB15.trans (hon16.below hB15.size (fun j hj => Nat.le_trans hG0 (hbk16 j hj).1))
    have hVA_16 : Var w16 w.heap.size #[.slice a0 D0.1.length ca0, .slice b0 D0.2.length cb0] 38 := hVA_15.only hon16 (hOG_15.notVar hVA_15 (by decide) (by decide))
    have hVW_16 : Var w16 w4.heap.size #[.slice aW E.1.length caW, .slice bW E.2.length cbW] 43 := hVW_15.only hon16 (hOG_15.notVar hVW_15 (by decide) (by decide))
    have hVG_16 : Var w16 w7.heap.size #[.slice aG E.1.length caG, .slice bG E.2.length cbG] 43 := hVG_15.only hon16 (hOG_15.notVar hVG_15 (by decide) (by decide))
    have hCw_16 : Below w4.heap.size w4 w16 := hCw_15.trans (hon16.below hCw_15.size (fun j hj => Nat.le_trans hG1 (hbk16 j hj).1))
    clear hon16 hbk16 hB15 hVA_15 hVW_15 hVG_15 hCw_15 hOG_15
    have hGM : OwnD w16 log (.agg #[.slice aG E.1.length caG, .slice bG E.2.length cbG]) (mrkD 1 E) := hm16
    clear hm16
    have yG0 := hVG_16.cell 0
    have yG1 := hVG_16.cell 1
    simp at yG0 yG1
    go_wp2_with fail
    refine (heldDiskW _ 1 E _ HLE.out (by omega) hGM.rd).mono ?_
    rintro e w17 ⟨rfl, hb17⟩
    clear yG0 yG1
    have hB17 : Below w.heap.size w w17 := hB16.trans (hb17.mono hB16.size)
    have hVA_17 : Var w17 w.heap.size #[.slice a0 D0.1.length ca0, .slice b0 D0.2.length cb0] 38 := hVA_16.new hb17
    have hVW_17 : Var w17 w4.heap.size #[.slice aW E.1.length caW, .slice bW E.2.length cbW] 43 := hVW_16.new hb17
    have hVG_17 : Var w17 w7.heap.size #[.slice aG E.1.length caG, .slice bG E.2.length cbG] 43 := hVG_16.new hb17
    have hOG_17 := hGM.below hb17
    have hCw_17 : Below w4.heap.size w4 w17 := hCw_16.trans (hb17.mono hCw_16.size)
    clear hB16 hVA_16 hVW_16 hVG_16 hGM hCw_16
    clear hb17
    have hcq : ¬ ((1 + cntD E : Nat) : Int) < 0 := by omega
    have yA0 := hVA_17.cell 0
    have yA1 := hVA_17.cell 1
    simp at yA0 yA1
    go_wp2_with fail
    refine (toDiskW _ D0 _ HSZ.out (HR.out _ hB17)).mono ?_
    rintro e w18 ⟨x7, rfl, ho7, hb18⟩
    clear yA0 yA1
    have hB18 : Below w.heap.size w w18 := hB17.trans (hb18.mono hB17.size)
    have hVA_18 : Var w18 w.heap.size #[.slice a0 D0.1.length ca0, .slice b0 D0.2.length cb0] 38 := hVA_17.new hb18
    have hVW_18 : Var w18 w4.heap.size #[.slice aW E.1.length caW, .slice bW E.2.length cbW] 43 := hVW_17.new hb18
    have hVG_18 : Var w18 w7.heap.size #[.slice aG E.1.length caG, .slice bG E.2.length cbG] 43 := hVG_17.new hb18
    have hOG_18 := hOG_17.below hb18
    have hCw_18 : Below w4.heap.size w4 w18 := hCw_17.trans (hb18.mono hCw_17.size)
    clear hB17 hVA_17 hVW_17 hVG_17 hOG_17 hCw_17
    clear hb18
    go_wp2_with fail
    refine (toEvs _ _ E1 _ HLV.out (HK.out _ hB18)).mono ?_
    rintro e w19 ⟨y7, rfl, hkt, hb19⟩
    have hB19 : Below w.heap.size w w19 := hB18.trans (hb19.mono hB18.size)
    have hVA_19 : Var w19 w.heap.size #[.slice a0 D0.1.length ca0, .slice b0 D0.2.length cb0] 38 := hVA_18.new hb19
    have hVW_19 : Var w19 w4.heap.size #[.slice aW E.1.length caW, .slice bW E.2.length cbW] 43 := hVW_18.new hb19
    have hVG_19 : Var w19 w7.heap.size #[.slice aG E.1.length caG, .slice bG E.2.length cbG] 43 := hVG_18.new hb19
    have hOG_19 := hOG_18.below hb19
    have hOT_19 := ho7.below hb19
    have hCw_19 : Below w4.heap.size w4 w19 := hCw_18.trans (hb19.mono hCw_18.size)
    clear hB18 hVA_18 hVW_18 hVG_18 hOG_18 ho7 hCw_18
    clear hb19
    obtain ⟨qt, qct, rfl, _, rqt⟩ := own_rdF encE_len hkt rfl
    clear rqt
    go_wp2_with fail
    refine (IC.out _ _ _ _ HSZ.out HSE.out hOT_19.rd (rdE hkt)).mono ?_
    rintro e w20 ⟨x8, rfl, ho8, hb20⟩
    clear hOT_19 hkt
    have hB20 : Below w.heap.size w w20 := hB19.trans (hb20.mono hB19.size)
    have hVA_20 : Var w20 w.heap.size #[.slice a0 D0.1.length ca0, .slice b0 D0.2.length cb0] 38 := hVA_19.new hb20
    have hVW_20 : Var w20 w4.heap.size #[.slice aW E.1.length caW, .slice bW E.2.length cbW] 43 := hVW_19.new hb20
    have hVG_20 : Var w20 w7.heap.size #[.slice aG E.1.length caG, .slice bG E.2.length cbG] 43 := hVG_19.new hb20
    have hOG_20 := hOG_19.below hb20
    have hCw_20 : Below w4.heap.size w4 w20 := hCw_19.trans (hb20.mono hCw_19.size)
    clear hB19 hVA_19 hVW_19 hVG_19 hOG_19 hCw_19
    clear hb20
    obtain ⟨aH, caH, bH, cbH, rfl⟩ := ho8.shape
    have hB20a : Below w.heap.size w (w20.alloc (.cells #[.slice aH E.1.length caH, .slice bH E.2.length cbH] 43)) := hB20.trans ((below1 w20 (.cells #[.slice aH E.1.length caH, .slice bH E.2.length cbH] 43)).mono hB20.size)
    have hVA_20a : Var (w20.alloc (.cells #[.slice aH E.1.length caH, .slice bH E.2.length cbH] 43)) w.heap.size #[.slice a0 D0.1.length ca0, .slice b0 D0.2.length cb0] 38 := hVA_20.new (below1 w20 (.cells #[.slice aH E.1.length caH, .slice bH E.2.length cbH] 43))
    have hVW_20a : Var (w20.alloc (.cells #[.slice aH E.1.length caH, .slice bH E.2.length cbH] 43)) w4.heap.size #[.slice aW E.1.length caW, .slice bW E.2.length cbW] 43 := hVW_20.new (below1 w20 (.cells #[.slice aH E.1.length caH, .slice bH E.2.length cbH] 43))
    have hVG_20a : Var (w20.alloc (.cells #[.slice aH E.1.length caH, .slice bH E.2.length cbH] 43)) w7.heap.size #[.slice aG E.1.length caG, .slice bG E.2.length cbG] 43 := hVG_20.new (below1 w20 (.cells #[.slice aH E.1.length caH, .slice bH E.2.length cbH] 43))
    have hOG_20a := hOG_20.below (below1 w20 (.cells #[.slice aH E.1.length caH, .slice bH E.2.length cbH] 43))
    have hOH_20a := ho8.below (below1 w20 (.cells #[.slice aH E.1.length caH, .slice bH E.2.length cbH] 43))
    have hCw_20a : Below w4.heap.size w4 (w20.alloc (.cells #[.slice aH E.1.length caH, .slice bH E.2.length cbH] 43)) := hCw_20.trans ((below1 w20 (.cells #[.slice aH E.1.length caH, .slice bH E.2.length cbH] 43)).mono hCw_20.size)
    clear hB20 hVA_20 hVW_20 hVG_20 hOG_20 ho8 hCw_20
    have hVH : Var (w20.alloc (.cells #[.slice aH E.1.length caH, .slice bH E.2.length cbH] 43)) w20.heap.size #[.slice aH E.1.length caH, .slice bH E.2.length cbH] 43 := Var.made w20 _ _
    have yW0 := hVW_20a.cell 0
    have yW1 := hVW_20a.cell 1
    simp at yW0 yW1
    have yH0 := hVH.cell 0
    have yH1 := hVH.cell 1
    simp at yH0 yH1
    go_wp2_with fail
    refine (eqDiskW _ _ E _ HLE.out hOH_20a.rd (HRW.out.below hCw_20a (Nat.le_refl _))).mono ?_
    rintro e w21 ⟨rfl, hb21⟩
    clear yW0 yW1 yH0 yH1
    have hB21 : Below w.heap.size w w21 := hB20a.trans (hb21.mono hB20a.size)
    have hVA_21 : Var w21 w.heap.size #[.slice a0 D0.1.length ca0, .slice b0 D0.2.length cb0] 38 := hVA_20a.new hb21
    have hVW_21 : Var w21 w4.heap.size #[.slice aW E.1.length caW, .slice bW E.2.length cbW] 43 := hVW_20a.new hb21
    have hVG_21 : Var w21 w7.heap.size #[.slice aG E.1.length caG, .slice bG E.2.length cbG] 43 := hVG_20a.new hb21
    have hVH_21 : Var w21 w20.heap.size #[.slice aH E.1.length caH, .slice bH E.2.length cbH] 43 := hVH.new hb21
    have hOG_21 := hOG_20a.below hb21
    have hOH_21 := hOH_20a.below hb21
    have hCw_21 : Below w4.heap.size w4 w21 := hCw_20a.trans (hb21.mono hCw_20a.size)
    clear hB20a hVA_20a hVW_20a hVG_20a hVH hOG_20a hOH_20a hCw_20a
    clear hb21
    have yG0 := hVG_21.cell 0
    have yG1 := hVG_21.cell 1
    simp at yG0 yG1
    go_wp2_with fail
    refine (heldDiskW _ 1 E _ HLE.out (by omega) hOG_21.rd).mono ?_
    rintro e w22 ⟨rfl, hb22⟩
    clear yG0 yG1
    have hB22 : Below w.heap.size w w22 := hB21.trans (hb22.mono hB21.size)
    have hVA_22 : Var w22 w.heap.size #[.slice a0 D0.1.length ca0, .slice b0 D0.2.length cb0] 38 := hVA_21.new hb22
    have hVW_22 : Var w22 w4.heap.size #[.slice aW E.1.length caW, .slice bW E.2.length cbW] 43 := hVW_21.new hb22
    have hVG_22 : Var w22 w7.heap.size #[.slice aG E.1.length caG, .slice bG E.2.length cbG] 43 := hVG_21.new hb22
    have hVH_22 : Var w22 w20.heap.size #[.slice aH E.1.length caH, .slice bH E.2.length cbH] 43 := hVH_21.new hb22
    have hOG_22 := hOG_21.below hb22
    have hOH_22 := hOH_21.below hb22
    have hCw_22 : Below w4.heap.size w4 w22 := hCw_21.trans (hb22.mono hCw_21.size)
    clear hB21 hVA_21 hVW_21 hVG_21 hVH_21 hOG_21 hOH_21 hCw_21
    clear hb22
    go_wp2
    go_ret
    exact ⟨rfl, hB22⟩

set_option maxRecDepth 100000 in
theorem lifted (os : Os) (started : os.Started) (H : Type) (enc : TypeId × Value → H) :
    ReturnsInHanded {} Try.checked os 6 .any (Rows.fnExactEventsDoSpec.pre6 enc Try.prog Try.f6 Rows.fnExactEventsDoRow.domain false) (Rows.fnExactEventsDoSpec.post enc Try.prog Try.f6 false true false false) := by
  refine returnsInHanded_of_change (C := Try.checked) own started (by kernel_rfl) Try.func6
    (ChangeSpec.witness6 (enc := enc) (C := Try.checked) false ⟨#[], #[.agg #[.slice none 0 0, .slice none 0 0], .slice none 0 0], []⟩ 8 (by kernel_rfl) (by kernel_rfl) (by kernel_rfl) (by kernel_rfl)) ?_
  intro W base args ds gs before hval0 hW hcnd _
  have hval : ∀ (j : Nat) t v, Try.f6.params[j]? = some t → args[j]? = some v → Value.okWide Try.prog W .any base t v := hval0
  have hW' := hW
  obtain ⟨p, q, hA0, hV, rfl, hfz, hnd⟩ := hW
  have hA : DataW.TrodAll enc Try.prog W 0 (fun _ => true) true Try.f6.params.toList args.toList ds p := hA0
  rw [Try.params6] at hA hval
  obtain ⟨v0, vs0, d0, ds0, p0, q0, hargs, rfl, rfl, h0, rr0⟩ := trodAll_cons hA
  obtain ⟨v1, vs1, d1, ds1, p1, q1, rfl, rfl, rfl, h1, rr1⟩ := trodAll_cons rr0
  obtain ⟨rfl, rfl, rfl⟩ := trodAll_nil rr1
  obtain rfl : args = #[v0, v1] := by cases args; simp_all
  obtain ⟨rfl, rfl⟩ := trodVars_none hV
  have k0 := h0
  have lt0 : ∀ x ∈ p0, x.block < W.heap.size := by obtain ⟨m, hm⟩ := k0; exact DataW.trod_lt m _ _ _ hm
  have k1 := h1
  have lt1 : ∀ x ∈ p1, x.block < W.heap.size := by obtain ⟨m, hm⟩ := k1; exact DataW.trod_lt m _ _ _ hm
  obtain ⟨D0, f0, r0⟩ := open_Disk (hval 0 38 v0 rfl rfl) h0
  obtain ⟨q1, qc1, E1, rfl, f1, r1⟩ := open_Events (hval 1 39 v1 rfl rfl) h1
  clear hA0 hval0
  refine (walk v0 D0 f0 q1 qc1 E1 f1 W r0 r1).mono fun e W' ⟨he, bel⟩ => ?_
  subst he
  exact ⟨_, rfl, _, _, _, [], _, [], hW', trodAll_mk1 (shut_bool Try.underlying4 _), (trodAll_cons_mk (Below.trod laidOut (by kernel_rfl) (of_decide_eq_true (by kernel_rfl)) k0 bel lt0) (trodAll_cons_mk (Below.trod laidOut (by kernel_rfl) (of_decide_eq_true (by kernel_rfl)) k1 bel lt1) trodAll_mk0)), rfl, bel.frame _, fun h => by cases h⟩

theorem over : Rows.fnExactEventsDoRow.holds Try.pinned (OpenSpec.ofChange Rows.fnExactEventsDoSpec) :=
  OpenClaim.holds_of_wide 6 Try.f6 rfl rfl rfl rfl rfl rfl rfl ⟨rfl, rfl, rfl, rfl, rfl⟩ rfl rfl rfl rfl rfl (by kernel_rfl) Try.func6 (by kernel_rfl)
    (of_decide_eq_true (by kernel_rfl)) (by unfold Func.isWrapper; first | (rw [if_pos (by decide +kernel)]; kernel_rfl) | (rw [if_neg (by decide +kernel)]; exact ⟨rfl, rfl⟩))
    (fun os started H enc _ => lifted os started H enc)

theorem proved : Rows.FnExactEventsDoSaid := over
#print axioms proved
end Go.Proofs.Ytlidmnehpcodkaa.fnExactEventsDo
