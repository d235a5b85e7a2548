/-
  For every disk and number the law FnExactHomeOf returns true, and what came in reads behind the call as it read before: no condition.
-/
import Derived.Test.YtlidmnehpcodkaaBunA
import Derived.Deep.RegionWith
import Derived.Test.YtlidmnehpcodkaaBunS
import Derived.Test.YtlidmnehpcodkaaHomeL
import Derived.Test.YtlidmnehpcodkaaIJourW
import Derived.Test.YtlidmnehpcodkaaRows
import Derived.WalkKit
import Derived.ProofKit
import Derived.OpenShut
import Derived.ShutString
import Derived.ChangeOld
import Derived.Below
namespace Go.Proofs.Ytlidmnehpcodkaa.fnExactHomeOf
open Go.ChangeShapes Go.WideShapes Go.ChangeAt Go.RowKit
open Go.ChangeMaps (open_string shut_string)
set_option linter.unusedVariables false

theorem own : ownKnob Try.prog.godebug = none := by kernel_rfl
theorem laidOut : laidOutB Try.prog = true := by kernel_rfl

set_option maxRecDepth 20000 in
set_option maxHeartbeats 4000000 in
theorem walk (v0 : Value) (D0 : DiskD) (f0 : FitD D0) (a1 : Int) (w1 : (Lit.int .i64 a1).wf = true) (w : World) (r0 : RdD w v0 D0) :
    Calls Try.prog 7 #[v0, .int .i64 a1] w fun e w' => e = .returned (.bool true) ∧ Below w.heap.size w w' := by
  obtain ⟨a0, ca0, b0, cb0, rfl⟩ := r0.shape
  have HR : Hid (∀ W, Below w.heap.size w W → RdD W (.agg #[.slice a0 D0.1.length ca0, .slice b0 D0.2.length cb0]) D0) := fun W h => r0.below h (Nat.le_refl _)
  have HF : Hid (FitD D0) := f0
  clear r0 f0
  obtain ⟨E, HE⟩ : ∃ E, Hid (homeD D0 a1 = E) := ⟨_, rfl⟩
  have HLE : Hid (E.length ≤ 48) := by show _ ≤ _; rw [← HE.out]; exact homeD_le D0 a1
  have SC : Hid (∀ v W, szD D0 ≤ 1048576 → RdD W v D0 → Calls Try.prog 30 #[v, .int .i64 a1] W fun e w' => ∃ v', e = .returned v' ∧ w'.ownsRow W.heap.size 9 1 v' E.length (E.map Value.string) ∧ Below W.heap.size W w') := by
    intro v W hs hv
    rw [← HE.out]
    exact specHomeOf v D0 a1 W (len_of_sz hs) hv
  have IC : Hid (∀ v W, szD D0 ≤ 1048576 → RdD W v D0 → Calls Try.prog 31 #[v, .int .i64 a1] W fun e w' => ∃ v', e = .returned v' ∧ w'.ownsRow W.heap.size 9 1 v' E.length (E.map Value.string) ∧ Below W.heap.size W w') := by
    intro v W hs hv
    rw [← HE.out]
    exact implHomeOf v D0 a1 W (len_of_sz hs) hv
  clear HE
  go_enter Try.func7, Try.ntmps7
  go_wp2_with fail
  refine (szDiskW _ D0 1048576 _ (by omega) (by omega) HF.out (HR.out _ (below1 _ _))).mono ?_
  rintro e w1 ⟨r, rfl, hsz, hr0, hr1, hb1⟩
  have hVA : Var w1 w.heap.size #[.slice a0 D0.1.length ca0, .slice b0 D0.2.length cb0] 38 := (Var.made w _ _).new hb1
  have hB1 : Below w.heap.size w w1 := (below1 w _).trans (hb1.mono (by simp))
  by_cases hneg : r < 0
  · clear hsz
    go_wp2
    go_ret
    exact ⟨rfl, hB1⟩
  have HSZ : Hid (szD D0 ≤ 1048576) := by have := hsz (by omega); show _ ≤ _; omega
  have HL : Hid (D0.1.length ≤ 4194304 ∧ D0.2.length ≤ 4194304) := len_of_sz HSZ.out
  clear hsz hb1
  have yA0 := hVA.cell 0
  have yA1 := hVA.cell 1
  simp at yA0 yA1
  go_wp2_with fail
  refine (toDiskW _ D0 _ HSZ.out (HR.out _ hB1)).mono ?_
  rintro e w2 ⟨x2, rfl, ho2, hb2⟩
  clear yA0 yA1
  have hB2 : Below w.heap.size w w2 := hB1.trans (hb2.mono hB1.size)
  have hVA_2 : Var w2 w.heap.size #[.slice a0 D0.1.length ca0, .slice b0 D0.2.length cb0] 38 := hVA.new hb2
  clear hB1 hVA
  clear hb2
  go_wp2_with fail
  refine (SC.out _ _ HSZ.out ho2.rd).mono ?_
  rintro e w3 ⟨x3, rfl, ho3, hb3⟩
  have hB3 : Below w.heap.size w w3 := hB2.trans (hb3.mono hB2.size)
  have hVA_3 : Var w3 w.heap.size #[.slice a0 D0.1.length ca0, .slice b0 D0.2.length cb0] 38 := hVA_2.new hb3
  clear hB2 hVA_2
  clear hb3 ho2
  obtain ⟨xw, cw, rfl, hqw, hrw⟩ := own_rdS ho3
  have HRW : Hid (RdS w3 xw E) := hrw
  clear ho3 hrw hqw
  have hCw : Below w3.heap.size w3 w3 := Below.refl _ _
  have hX1 : w3.heap.size ≤ w3.heap.size := hCw.size
  have hX0 : w.heap.size ≤ w3.heap.size := hB3.size
  obtain ⟨lox, hlx⟩ : ∃ lox, w3.heap.size = lox := ⟨_, rfl⟩
  have yA0 := hVA_3.cell 0
  have yA1 := hVA_3.cell 1
  simp at yA0 yA1
  go_wp2_with fail
  refine (toDiskW _ D0 _ HSZ.out (HR.out _ hB3)).mono ?_
  rintro e w4 ⟨x4, rfl, ho4, hb4⟩
  clear yA0 yA1
  have hB4 : Below w.heap.size w w4 := hB3.trans (hb4.mono hB3.size)
  have hVA_4 : Var w4 w.heap.size #[.slice a0 D0.1.length ca0, .slice b0 D0.2.length cb0] 38 := hVA_3.new hb4
  have hCw_4 : Below w3.heap.size w3 w4 := hCw.trans (hb4.mono hCw.size)
  clear hB3 hVA_3 hCw
  clear hb4
  obtain ⟨aX, caX, bX, cbX, rfl⟩ := ho4.shape
  have hB4a : Below w.heap.size w (w4.alloc (.cells #[.slice aX D0.1.length caX, .slice bX D0.2.length cbX] 43)) := hB4.trans ((below1 w4 (.cells #[.slice aX D0.1.length caX, .slice bX D0.2.length cbX] 43)).mono hB4.size)
  have hVA_4a : Var (w4.alloc (.cells #[.slice aX D0.1.length caX, .slice bX D0.2.length cbX] 43)) w.heap.size #[.slice a0 D0.1.length ca0, .slice b0 D0.2.length cb0] 38 := hVA_4.new (below1 w4 (.cells #[.slice aX D0.1.length caX, .slice bX D0.2.length cbX] 43))
  have hOX_4a := ho4.below (below1 w4 (.cells #[.slice aX D0.1.length caX, .slice bX D0.2.length cbX] 43))
  have hCw_4a : Below w3.heap.size w3 (w4.alloc (.cells #[.slice aX D0.1.length caX, .slice bX D0.2.length cbX] 43)) := hCw_4.trans ((below1 w4 (.cells #[.slice aX D0.1.length caX, .slice bX D0.2.length cbX] 43)).mono hCw_4.size)
  clear hB4 hVA_4 ho4 hCw_4
  have hVX : Var (w4.alloc (.cells #[.slice aX D0.1.length caX, .slice bX D0.2.length cbX] 43)) w4.heap.size #[.slice aX D0.1.length caX, .slice bX D0.2.length cbX] 43 := Var.made w4 _ _
  have hxlt0 := hOX_4a.blk
  have hG1 : w3.heap.size ≤ (w4.alloc (.cells #[.slice aX D0.1.length caX, .slice bX D0.2.length cbX] 43)).heap.size := hCw_4a.size
  have hG0 : w.heap.size ≤ (w4.alloc (.cells #[.slice aX D0.1.length caX, .slice bX D0.2.length cbX] 43)).heap.size := hB4a.size
  generalize hlg : (w4.alloc (.cells #[.slice aX D0.1.length caX, .slice bX D0.2.length cbX] 43)).heap.size = log at hG0 hG1 hxlt0
  have hxlt : ∀ j, blkD (.agg #[.slice aX D0.1.length caX, .slice bX D0.2.length cbX]) j → j < log := fun j hj => (hxlt0 j hj).2
  have yX0 := hVX.cell 0
  have yX1 := hVX.cell 1
  simp at yX0 yX1
  go_wp2_with fail
  refine (IC.out _ _ HSZ.out hOX_4a.rd).mono ?_
  rintro e w5 ⟨x5, rfl, ho5, hb5⟩
  clear yX0 yX1
  rw [hlg] at ho5
  clear hlg hxlt0
  have hB5 : Below w.heap.size w w5 := hB4a.trans (hb5.mono hB4a.size)
  have hVA_5 : Var w5 w.heap.size #[.slice a0 D0.1.length ca0, .slice b0 D0.2.length cb0] 38 := hVA_4a.new hb5
  have hVX_5 : Var w5 w4.heap.size #[.slice aX D0.1.length caX, .slice bX D0.2.length cbX] 43 := hVX.new hb5
  have hOX_5 := hOX_4a.below hb5
  have hCw_5 : Below w3.heap.size w3 w5 := hCw_4a.trans (hb5.mono hCw_4a.size)
  clear hB4a hVA_4a hVX hOX_4a hCw_4a
  clear hb5
  obtain ⟨xg, cg, rfl, hqg, hrg⟩ := own_rdS ho5
  clear hrg hqg
  go_wp2_with fail
  refine (eqS _ _ _ _ E _ (by have := HLE.out; omega) (rdS_own ho5) (HRW.out.below hCw_5 (Nat.le_refl _))).mono ?_
  rintro e w6 ⟨rfl, hb6⟩
  have hB6 : Below w.heap.size w w6 := hB5.trans (hb6.mono hB5.size)
  have hVA_6 : Var w6 w.heap.size #[.slice a0 D0.1.length ca0, .slice b0 D0.2.length cb0] 38 := hVA_5.new hb6
  have hVX_6 : Var w6 w4.heap.size #[.slice aX D0.1.length caX, .slice bX D0.2.length cbX] 43 := hVX_5.new hb6
  have hOX_6 := hOX_5.below hb6
  have hQg_6 := ownsRow_below ho5 hb6 (Nat.le_refl _)
  have hCw_6 : Below w3.heap.size w3 w6 := hCw_5.trans (hb6.mono hCw_5.size)
  clear hB5 hVA_5 hVX_5 hOX_5 ho5 hCw_5
  clear hb6
  have yA0 := hVA_6.cell 0
  have yA1 := hVA_6.cell 1
  simp at yA0 yA1
  have yX0 := hVX_6.cell 0
  have yX1 := hVX_6.cell 1
  simp at yX0 yX1
  have HVX : Hid (Var w6 w4.heap.size #[.slice aX D0.1.length caX, .slice bX D0.2.length cbX] 43) := hVX_6
  have HOX : Hid (OwnD w6 w3.heap.size (.agg #[.slice aX D0.1.length caX, .slice bX D0.2.length cbX]) D0) := hOX_6
  have HT6 : Hid (Calls Try.prog 24 #[(.agg #[.slice a0 D0.1.length ca0, .slice b0 D0.2.length cb0])] w6.drew fun e w' => ∃ v', e = .returned v' ∧ OwnD w' w6.heap.size v' D0 ∧ Below w6.heap.size w6 w') := by
    refine (toDiskW _ D0 w6.drew HSZ.out (HR.out _ hB6.drew)).mono ?_
    rintro e w' ⟨v', rfl, h1, h2⟩
    exact ⟨v', rfl, h1, ⟨h2.os, h2.tape, h2.output, h2.size, h2.block⟩⟩
  go_wp2_with fail
  go_region_with (first
    | (go_at_call 24
       refine HT6.out.mono ?_
       rintro e w7 ⟨x6, rfl, ho6, hb7⟩
       have hu0 : w7.cell? ⟨w4.heap.size, 0, none⟩ = some (.slice aX D0.1.length caX) := (HVX.out.new hb7).cell 0
       have hu1 : w7.cell? ⟨w4.heap.size, 1, none⟩ = some (.slice bX D0.2.length cbX) := (HVX.out.new hb7).cell 1)
    | (go_at_call 27
       refine (eqDiskW _ x6 D0 _ HL.out (HOX.out.rd.below hb7 (Nat.le_refl _)) ho6.rd).mono ?_
       rintro e w8 ⟨rfl, hb8⟩
       have hbJ : Below w6.heap.size w6 w8 := hb7.trans (hb8.mono hb7.size)
       clear hu0 hu1 ho6 hb7 hb8))
  all_goals
    clear HVX HOX HT6 yA0 yA1 yX0 yX1
    have hB8 : Below w.heap.size w w8 := hB6.trans (hbJ.mono hB6.size)
    have hVA_8 : Var w8 w.heap.size #[.slice a0 D0.1.length ca0, .slice b0 D0.2.length cb0] 38 := hVA_6.new hbJ
    have hVX_8 : Var w8 w4.heap.size #[.slice aX D0.1.length caX, .slice bX D0.2.length cbX] 43 := hVX_6.new hbJ
    have hOX_8 := hOX_6.below hbJ
    have hQg_8 := ownsRow_below hQg_6 hbJ (Nat.le_refl _)
    have hCw_8 : Below w3.heap.size w3 w8 := hCw_6.trans (hbJ.mono hCw_6.size)
    clear hB6 hVA_6 hVX_6 hOX_6 hQg_6 hCw_6
    clear hbJ
    have yX0 := hVX_8.cell 0
    have yX1 := hVX_8.cell 1
    simp at yX0 yX1
    go_wp2_with fail
    refine (markDiskW _ w3.heap.size 1 D0 _ HL.out (by omega) hOX_8).mono ?_
    rintro e w9 ⟨rfl, hm9, hon9⟩
    clear yX0 yX1
    have hbk9 := hOX_8.blk
    have hB9 : Below w.heap.size w w9 := hB8.trans (hon9.below hB8.size (fun j hj => Nat.le_trans hX0 (hbk9 j hj).1))
    have hVA_9 : Var w9 w.heap.size #[.slice a0 D0.1.length ca0, .slice b0 D0.2.length cb0] 38 := hVA_8.only hon9 (hOX_8.notVar hVA_8 (by decide) (by decide))
    have hVX_9 : Var w9 w4.heap.size #[.slice aX D0.1.length caX, .slice bX D0.2.length cbX] 43 := hVX_8.only hon9 (hOX_8.notVar hVX_8 (by decide) (by decide))
    have hQg_9 := own_only hQg_8 hon9 (fun j hj hb => by have h1 := (hQg_8.lt j hj).1; have h2 := hxlt j hb; omega)
    have hCw_9 : Below w3.heap.size w3 w9 := hCw_8.trans (hon9.below hCw_8.size (fun j hj => Nat.le_trans (Nat.le_refl _) (hbk9 j hj).1))
    clear hon9 hbk9 hB8 hVA_8 hVX_8 hQg_8 hCw_8 hOX_8
    have hkq : ¬ ((1 + cntD D0 : Nat) : Int) < 0 := by omega
    go_wp2_with fail
    refine (eqS _ _ _ _ E _ (by have := HLE.out; omega) (rdS_own hQg_9) (HRW.out.below hCw_9 (Nat.le_refl _))).mono ?_
    rintro e w10 ⟨rfl, hb10⟩
    have hB10 : Below w.heap.size w w10 := hB9.trans (hb10.mono hB9.size)
    have hVA_10 : Var w10 w.heap.size #[.slice a0 D0.1.length ca0, .slice b0 D0.2.length cb0] 38 := hVA_9.new hb10
    have hVX_10 : Var w10 w4.heap.size #[.slice aX D0.1.length caX, .slice bX D0.2.length cbX] 43 := hVX_9.new hb10
    have hOX_10 := hm9.below hb10
    have hQg_10 := ownsRow_below hQg_9 hb10 (Nat.le_refl _)
    have hCw_10 : Below w3.heap.size w3 w10 := hCw_9.trans (hb10.mono hCw_9.size)
    clear hB9 hVA_9 hVX_9 hm9 hQg_9 hCw_9
    clear hb10
    go_wp2_with fail
    refine (markStrO _ E.length 1 _ E _ (by have := HLE.out; omega) (by omega) hQg_10).mono ?_
    rintro e w11 ⟨rfl, hgm, hon11⟩
    have hbk11 := hQg_10.lt
    have hB11 : Below w.heap.size w w11 := hB10.trans (hon11.below hB10.size (fun j hj => Nat.le_trans hG0 (hbk11 j hj).1))
    have hVA_11 : Var w11 w.heap.size #[.slice a0 D0.1.length ca0, .slice b0 D0.2.length cb0] 38 := hVA_10.only hon11 (own_var hQg_10 hVA_10 (by decide))
    have hCw_11 : Below w3.heap.size w3 w11 := hCw_10.trans (hon11.below hCw_10.size (fun j hj => Nat.le_trans hG1 (hbk11 j hj).1))
    have hG9 : w11.ownsRow log 9 1 (.slice xg E.length cg) E.length ((marksS 1 E.length).map Value.string) := hgm
    clear hgm hon11 hbk11 hQg_10
    go_wp2_with fail
    refine (heldStr _ E.length 1 _ _ (by have := HLE.out; omega) (by omega) hG9).mono ?_
    rintro e w12 ⟨rfl, hb12⟩
    have hB12 : Below w.heap.size w w12 := hB11.trans (hb12.mono hB11.size)
    have hVA_12 : Var w12 w.heap.size #[.slice a0 D0.1.length ca0, .slice b0 D0.2.length cb0] 38 := hVA_11.new hb12
    have hQg_12 := ownsRow_below hG9 hb12 (Nat.le_refl _)
    have hCw_12 : Below w3.heap.size w3 w12 := hCw_11.trans (hb12.mono hCw_11.size)
    clear hB11 hVA_11 hG9 hCw_11
    clear hb12
    have hcq : ¬ ((1 + E.length : Nat) : Int) < 0 := by omega
    have yA0 := hVA_12.cell 0
    have yA1 := hVA_12.cell 1
    simp at yA0 yA1
    go_wp2_with fail
    refine (toDiskW _ D0 _ HSZ.out (HR.out _ hB12)).mono ?_
    rintro e w13 ⟨x7, rfl, ho7, hb13⟩
    clear yA0 yA1
    have hB13 : Below w.heap.size w w13 := hB12.trans (hb13.mono hB12.size)
    have hVA_13 : Var w13 w.heap.size #[.slice a0 D0.1.length ca0, .slice b0 D0.2.length cb0] 38 := hVA_12.new hb13
    have hQg_13 := ownsRow_below hQg_12 hb13 (Nat.le_refl _)
    have hCw_13 : Below w3.heap.size w3 w13 := hCw_12.trans (hb13.mono hCw_12.size)
    clear hB12 hVA_12 hQg_12 hCw_12
    clear hb13
    go_wp2_with fail
    refine (IC.out _ _ HSZ.out ho7.rd).mono ?_
    rintro e w14 ⟨x8, rfl, ho8, hb14⟩
    have hB14 : Below w.heap.size w w14 := hB13.trans (hb14.mono hB13.size)
    have hVA_14 : Var w14 w.heap.size #[.slice a0 D0.1.length ca0, .slice b0 D0.2.length cb0] 38 := hVA_13.new hb14
    have hQg_14 := ownsRow_below hQg_13 hb14 (Nat.le_refl _)
    have hCw_14 : Below w3.heap.size w3 w14 := hCw_13.trans (hb14.mono hCw_13.size)
    clear hB13 hVA_13 hQg_13 hCw_13
    clear hb14 ho7
    obtain ⟨xh, ch, rfl, hqh, hrh⟩ := own_rdS ho8
    clear hqh ho8
    go_wp2_with fail
    refine (eqS _ _ _ _ E _ (by have := HLE.out; omega) hrh (HRW.out.below hCw_14 (Nat.le_refl _))).mono ?_
    rintro e w15 ⟨rfl, hb15⟩
    have hB15 : Below w.heap.size w w15 := hB14.trans (hb15.mono hB14.size)
    have hVA_15 : Var w15 w.heap.size #[.slice a0 D0.1.length ca0, .slice b0 D0.2.length cb0] 38 := hVA_14.new hb15
    have hQg_15 := ownsRow_below hQg_14 hb15 (Nat.le_refl _)
    have hCw_15 : Below w3.heap.size w3 w15 := hCw_14.trans (hb15.mono hCw_14.size)
    clear hB14 hVA_14 hQg_14 hCw_14
    clear hb15 hrh
    go_wp2_with fail
    refine (heldStr _ E.length 1 _ _ (by have := HLE.out; omega) (by omega) hQg_15).mono ?_
    rintro e w16 ⟨rfl, hb16⟩
    have hB16 : Below w.heap.size w w16 := hB15.trans (hb16.mono hB15.size)
    have hVA_16 : Var w16 w.heap.size #[.slice a0 D0.1.length ca0, .slice b0 D0.2.length cb0] 38 := hVA_15.new hb16
    have hQg_16 := ownsRow_below hQg_15 hb16 (Nat.le_refl _)
    have hCw_16 : Below w3.heap.size w3 w16 := hCw_15.trans (hb16.mono hCw_15.size)
    clear hB15 hVA_15 hQg_15 hCw_15
    clear hb16
    go_wp2
    go_ret
    exact ⟨rfl, hB16⟩

set_option maxRecDepth 100000 in
theorem lifted (os : Os) (started : os.Started) (H : Type) (enc : TypeId × Value → H) :
    ReturnsInHanded {} Try.checked os 7 .any (Rows.fnExactHomeOfSpec.pre6 enc Try.prog Try.f7 Rows.fnExactHomeOfRow.domain false) (Rows.fnExactHomeOfSpec.post enc Try.prog Try.f7 false true false false) := by
  refine returnsInHanded_of_change (C := Try.checked) own started (by kernel_rfl) Try.func7
    (ChangeSpec.witness6 (enc := enc) (C := Try.checked) false ⟨#[], #[.agg #[.slice none 0 0, .slice none 0 0], .int .i64 0], []⟩ 8 (by kernel_rfl) (by kernel_rfl) (by kernel_rfl) (by kernel_rfl)) ?_
  intro W base args ds gs before hval0 hW hcnd _
  have hval : ∀ (j : Nat) t v, Try.f7.params[j]? = some t → args[j]? = some v → Value.okWide Try.prog W .any base t v := hval0
  have hW' := hW
  obtain ⟨p, q, hA0, hV, rfl, hfz, hnd⟩ := hW
  have hA : DataW.TrodAll enc Try.prog W 0 (fun _ => true) true Try.f7.params.toList args.toList ds p := hA0
  rw [Try.params7] at hA hval
  obtain ⟨v0, vs0, d0, ds0, p0, q0, hargs, rfl, rfl, h0, rr0⟩ := trodAll_cons hA
  obtain ⟨v1, vs1, d1, ds1, p1, q1, rfl, rfl, rfl, h1, rr1⟩ := trodAll_cons rr0
  obtain ⟨rfl, rfl, rfl⟩ := trodAll_nil rr1
  obtain rfl : args = #[v0, v1] := by cases args; simp_all
  obtain ⟨rfl, rfl⟩ := trodVars_none hV
  have k0 := h0
  have lt0 : ∀ x ∈ p0, x.block < W.heap.size := by obtain ⟨m, hm⟩ := k0; exact DataW.trod_lt m _ _ _ hm
  have k1 := h1
  have lt1 : ∀ x ∈ p1, x.block < W.heap.size := by obtain ⟨m, hm⟩ := k1; exact DataW.trod_lt m _ _ _ hm
  obtain ⟨D0, f0, r0⟩ := open_Disk (hval 0 38 v0 rfl rfl) h0
  obtain ⟨a1, rfl, rfl, rfl, w1⟩ := open_int Try.underlying3 (hval 1 3 v1 rfl rfl) h1
  clear hA0 hval0
  refine (walk v0 D0 f0 a1 w1 W r0).mono fun e W' ⟨he, bel⟩ => ?_
  subst he
  exact ⟨_, rfl, _, _, _, [], _, [], hW', trodAll_mk1 (shut_bool Try.underlying4 _), (trodAll_cons_mk (Below.trod laidOut (by kernel_rfl) (of_decide_eq_true (by kernel_rfl)) k0 bel lt0) (trodAll_cons_mk (Below.trod laidOut (by kernel_rfl) (of_decide_eq_true (by kernel_rfl)) k1 bel lt1) trodAll_mk0)), rfl, bel.frame _, fun h => by cases h⟩

theorem over : Rows.fnExactHomeOfRow.holds Try.pinned (OpenSpec.ofChange Rows.fnExactHomeOfSpec) :=
  OpenClaim.holds_of_wide 7 Try.f7 rfl rfl rfl rfl rfl rfl rfl ⟨rfl, rfl, rfl, rfl, rfl⟩ rfl rfl rfl rfl rfl (by kernel_rfl) Try.func7 (by kernel_rfl)
    (of_decide_eq_true (by kernel_rfl)) (by unfold Func.isWrapper; first | (rw [if_pos (by decide +kernel)]; kernel_rfl) | (rw [if_neg (by decide +kernel)]; exact ⟨rfl, rfl⟩))
    (fun os started H enc _ => lifted os started H enc)

theorem proved : Rows.FnExactHomeOfSaid := over
#print axioms proved
end Go.Proofs.Ytlidmnehpcodkaa.fnExactHomeOf
