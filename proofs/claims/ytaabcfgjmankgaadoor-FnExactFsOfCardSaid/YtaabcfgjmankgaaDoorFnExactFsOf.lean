/-
  For every row of texts the law FnExactFsOf returns true, and what came in reads behind the call as it read before: no condition.
-/
import Derived.Test.YtaabcfgjmankgaaDoorBunR
import Derived.Test.YtaabcfgjmankgaaDoorFsOfX
import Derived.Deep.RegionHeld3
import Derived.Test.YtaabcfgjmankgaaDoorCards
import Derived.Test.YtaabcfgjmankgaaDoorTie
import Derived.LaidMore
import Derived.Stop.Joined
import Derived.Stop.LaidErr
import Derived.Lib.LaidTab
import Derived.Lib.SmallJoins
import Derived.SevenTiedAt
import Derived.WalkKit
import Derived.ProofKit
import Derived.OpenShut
import Derived.ShutString
import Derived.ChangeOld
import Derived.Below
namespace Go.Proofs.YtaabcfgjmankgaaDoor.fnExactFsOf
open Go.ChangeShapes Go.WideShapes Go.ChangeAt Go.RowKit
open Go.ChangeMaps (open_string shut_string)
set_option linter.unusedVariables false

theorem own : ownKnob Tryd.prog.godebug = none := by kernel_rfl
theorem door_met (os : Os) (args : Array Value) : laidMetH Tryd.prog Rows.fnExactFsOfRow.laid ((World.doorLaid Tryd.prog 28 os).forCall (fun _ _ => 0) ⟨#[], args, []⟩).memory :=
  laidMetH_of_parts3 (fuel := 8) (laidMet_of_run' 8 (by kernel_rfl) (by kernel_rfl)) (by kernel_rfl) (by kernel_rfl)
theorem laidOut : laidOutB Tryd.prog = true := by kernel_rfl

set_option maxRecDepth 20000 in
set_option maxHeartbeats 8000000 in
theorem walk (a0 : Option Addr) (c0 : Nat) (l0 : List ByteArray) (f0 : FitTk l0) (cc0 : l0.length ≤ c0) (w : World) (r0 : RdS w a0 l0) (hL : laidMetH Tryd.prog Rows.fnExactFsOfRow.laid w) :
    Calls Tryd.prog 3 #[.slice a0 l0.length c0] w fun e w' => e = .returned (.bool true) ∧ Below w.heap.size w w' := by
  have HR0 : Hid (∀ W, Below w.heap.size w W → RdTk W (.slice a0 l0.length c0) l0) := fun W h => ⟨_, _, rfl, cc0, r0.below h (Nat.le_refl _)⟩
  have HF0 : Hid (FitTk l0) := f0
  clear r0 f0
  obtain ⟨aE, hv⟩ := errVar (Rows.fnExactFsOfRow.laid) rfl hL
  have hgc : w.cell? ⟨errG, 0, none⟩ = some (.iface 81 (.pointer (some aE))) := by simpa using World.var?_cell gErr hv 0
  have HEA : Hid (ErrAt aE w) := ⟨World.block_lt_of_cell? w _ hgc, hgc⟩
  clear hL hv hgc
  obtain ⟨E0, HE0⟩ : ∃ x, Hid (ofFs l0 = x) := ⟨_, rfl⟩
  obtain ⟨E1, HE1⟩ : ∃ x, Hid (ofFsOk l0 = x) := ⟨_, rfl⟩
  have HGX0 : Hid (szTk l0 ≤ 1048576 → szF E0 ≤ 1048576) := by show _ → szF E0 ≤ 1048576; rw [← HE0.out]; exact fun h => ofFs_sz h
  have SC : Hid (∀ v0 W, szTk l0 ≤ 1048576 → RdTk W v0 l0 → Calls Tryd.prog 5 #[v0] W fun e w' => ∃ u0, e = .returned (.tuple #[u0, .bool E1]) ∧ OwnFs w' W.heap.size w'.heap.size u0 E0 ∧ Below W.heap.size W w') := by
    intro v0 W hs0 hv0
    rw [← HE0.out]
    rw [← HE1.out]
    exact specFsOfX v0 l0 W hs0 hv0
  have IC : Hid (∀ v0 W, szTk l0 ≤ 1048576 → RdTk W v0 l0 → Below w.heap.size w W → Calls Tryd.prog 7 #[v0] W fun e w' => ∃ u0, e = .returned (.tuple #[u0, .bool E1]) ∧ OwnFs w' W.heap.size w'.heap.size u0 E0 ∧ Below W.heap.size W w') := by
    intro v0 W hs0 hv0 hBW
    rw [← HE0.out]
    rw [← HE1.out]
    exact implFsOfX v0 l0 aE W hs0 hv0 (HEA.out.below hBW)
  clear HE0
  clear HE1
  go_enter Tryd.func3, Tryd.ntmps3
  have hB0 : Below w.heap.size w w := Below.refl _ _
  go_wp2_with fail
  refine (szTkX _ l0 1048576 _ (by omega) (by omega) HF0.out (HR0.out _ hB0)).mono ?_
  rintro e w1 ⟨s0, rfl, hsz0, s0ge, s0le, hb1⟩
  have hz2 : w.heap.size ≤ w1.heap.size := hb1.size
  have hB2 : Below w.heap.size w w1 := hB0.trans (hb1.mono hB0.size)
  clear hB0
  by_cases hneg0 : s0 < 0
  · clear hsz0
    go_wp2
    go_ret
    exact ⟨rfl, hB2⟩
  have HS0 : Hid (szTk l0 ≤ 1048576) := by have := hsz0 (by omega); show szTk l0 ≤ 1048576; omega
  clear hsz0 hb1
  have HG0 : Hid (szF E0 ≤ 1048576) := HGX0.out HS0.out
  clear HGX0
  go_wp2_with fail
  refine (toTkX _ l0 _ HS0.out (HR0.out _ hB2)).mono ?_
  rintro e w3 ⟨x2, rfl, ho2, hb3⟩
  have hz4 : w1.heap.size ≤ w3.heap.size := hb3.size
  have hB4 : Below w.heap.size w w3 := hB2.trans (hb3.mono hB2.size)
  clear hB2
  clear hb3
  go_wp2_with fail
  refine (SC.out _ _ HS0.out ho2.rd).mono ?_
  rintro e w5 ⟨uW0, rfl, hOW0, hb5⟩
  have hz6 : w3.heap.size ≤ w5.heap.size := hb5.size
  have hB6 : Below w.heap.size w w5 := hB4.trans (hb5.mono hB4.size)
  clear hB4
  clear hb5
  obtain ⟨aW0, cW0, bW0, eW0, rfl⟩ := hOW0.lay
  clear ho2
  have hsz7 : (w5.alloc (.cells #[.slice aW0 E0.ns.length cW0, .slice bW0 E0.ds.length eW0] 26)).heap.size = w5.heap.size + 1 := by simp
  have hz8 : w5.heap.size ≤ (w5.alloc (.cells #[.slice aW0 E0.ns.length cW0, .slice bW0 E0.ds.length eW0] 26)).heap.size := (below1 w5 (.cells #[.slice aW0 E0.ns.length cW0, .slice bW0 E0.ds.length eW0] 26)).size
  have hB8 : Below w.heap.size w (w5.alloc (.cells #[.slice aW0 E0.ns.length cW0, .slice bW0 E0.ds.length eW0] 26)) := hB6.trans ((below1 w5 (.cells #[.slice aW0 E0.ns.length cW0, .slice bW0 E0.ds.length eW0] 26)).mono hB6.size)
  have hOW0_8 := hOW0.below (below1 w5 (.cells #[.slice aW0 E0.ns.length cW0, .slice bW0 E0.ds.length eW0] 26))
  clear hB6 hOW0
  have hVW0 : Var (w5.alloc (.cells #[.slice aW0 E0.ns.length cW0, .slice bW0 E0.ds.length eW0] 26)) w5.heap.size #[.slice aW0 E0.ns.length cW0, .slice bW0 E0.ds.length eW0] 26 := Var.made w5 _ _
  go_wp2_with fail
  refine (toTkX _ l0 _ HS0.out (HR0.out _ hB8)).mono ?_
  rintro e w9 ⟨z0, rfl, hOX0, hb9⟩
  have hz10 : (w5.alloc (.cells #[.slice aW0 E0.ns.length cW0, .slice bW0 E0.ds.length eW0] 26)).heap.size ≤ w9.heap.size := hb9.size
  have hB10 : Below w.heap.size w w9 := hB8.trans (hb9.mono hB8.size)
  have hVW0_10 : Var w9 w5.heap.size #[.slice aW0 E0.ns.length cW0, .slice bW0 E0.ds.length eW0] 26 := hVW0.new hb9
  have hOW0_10 := hOW0_8.below hb9
  clear hB8 hVW0 hOW0_8
  clear hb9
  go_wp2_with fail
  refine (IC.out _ _ HS0.out hOX0.rd hB10).mono ?_
  rintro e w11 ⟨uG0, rfl, hOG0, hb11⟩
  have hz12 : w9.heap.size ≤ w11.heap.size := hb11.size
  have hB12 : Below w.heap.size w w11 := hB10.trans (hb11.mono hB10.size)
  have hVW0_12 : Var w11 w5.heap.size #[.slice aW0 E0.ns.length cW0, .slice bW0 E0.ds.length eW0] 26 := hVW0_10.new hb11
  have hOW0_12 := hOW0_10.below hb11
  have hOX0_12 := hOX0.below hb11
  clear hB10 hVW0_10 hOW0_10 hOX0
  clear hb11
  obtain ⟨aG0, cG0, bG0, eG0, rfl⟩ := hOG0.lay
  have hsz13 : (w11.alloc (.cells #[.slice aG0 E0.ns.length cG0, .slice bG0 E0.ds.length eG0] 26)).heap.size = w11.heap.size + 1 := by simp
  have hz14 : w11.heap.size ≤ (w11.alloc (.cells #[.slice aG0 E0.ns.length cG0, .slice bG0 E0.ds.length eG0] 26)).heap.size := (below1 w11 (.cells #[.slice aG0 E0.ns.length cG0, .slice bG0 E0.ds.length eG0] 26)).size
  have hB14 : Below w.heap.size w (w11.alloc (.cells #[.slice aG0 E0.ns.length cG0, .slice bG0 E0.ds.length eG0] 26)) := hB12.trans ((below1 w11 (.cells #[.slice aG0 E0.ns.length cG0, .slice bG0 E0.ds.length eG0] 26)).mono hB12.size)
  have hVW0_14 : Var (w11.alloc (.cells #[.slice aG0 E0.ns.length cG0, .slice bG0 E0.ds.length eG0] 26)) w5.heap.size #[.slice aW0 E0.ns.length cW0, .slice bW0 E0.ds.length eW0] 26 := hVW0_12.new (below1 w11 (.cells #[.slice aG0 E0.ns.length cG0, .slice bG0 E0.ds.length eG0] 26))
  have hOW0_14 := hOW0_12.below (below1 w11 (.cells #[.slice aG0 E0.ns.length cG0, .slice bG0 E0.ds.length eG0] 26))
  have hOX0_14 := hOX0_12.below (below1 w11 (.cells #[.slice aG0 E0.ns.length cG0, .slice bG0 E0.ds.length eG0] 26))
  have hOG0_14 := hOG0.below (below1 w11 (.cells #[.slice aG0 E0.ns.length cG0, .slice bG0 E0.ds.length eG0] 26))
  clear hB12 hVW0_12 hOW0_12 hOX0_12 hOG0
  have hVG0 : Var (w11.alloc (.cells #[.slice aG0 E0.ns.length cG0, .slice bG0 E0.ds.length eG0] 26)) w11.heap.size #[.slice aG0 E0.ns.length cG0, .slice bG0 E0.ds.length eG0] 26 := Var.made w11 _ _
  have yG00 := hVG0.cell 0
  have yG01 := hVG0.cell 1
  simp at yG00 yG01
  have yW00 := hVW0_14.cell 0
  have yW01 := hVW0_14.cell 1
  simp at yW00 yW01
  go_wp2_with fail
  refine (eqFsW _ _ E0 _ (smF_sz HG0.out) hOG0_14.rd hOW0_14.rd).mono ?_
  rintro e w15 ⟨rfl, hb15⟩
  clear yG00 yG01 yW00 yW01
  have hz16 : (w11.alloc (.cells #[.slice aG0 E0.ns.length cG0, .slice bG0 E0.ds.length eG0] 26)).heap.size ≤ w15.heap.size := hb15.size
  have hB16 : Below w.heap.size w w15 := hB14.trans (hb15.mono hB14.size)
  have hVW0_16 : Var w15 w5.heap.size #[.slice aW0 E0.ns.length cW0, .slice bW0 E0.ds.length eW0] 26 := hVW0_14.new hb15
  have hVG0_16 : Var w15 w11.heap.size #[.slice aG0 E0.ns.length cG0, .slice bG0 E0.ds.length eG0] 26 := hVG0.new hb15
  have hOW0_16 := hOW0_14.below hb15
  have hOX0_16 := hOX0_14.below hb15
  have hOG0_16 := hOG0_14.below hb15
  clear hB14 hVW0_14 hVG0 hOW0_14 hOX0_14 hOG0_14
  clear hb15
  go_wp2_with fail
  refine (toTkX _ l0 _ HS0.out (HR0.out _ hB16)).mono ?_
  rintro e w17 ⟨zq0, rfl, hoq, hb17⟩
  have hz18 : w15.heap.size ≤ w17.heap.size := hb17.size
  have hB18 : Below w.heap.size w w17 := hB16.trans (hb17.mono hB16.size)
  have hVW0_18 : Var w17 w5.heap.size #[.slice aW0 E0.ns.length cW0, .slice bW0 E0.ds.length eW0] 26 := hVW0_16.new hb17
  have hVG0_18 : Var w17 w11.heap.size #[.slice aG0 E0.ns.length cG0, .slice bG0 E0.ds.length eG0] 26 := hVG0_16.new hb17
  have hOW0_18 := hOW0_16.below hb17
  have hOX0_18 := hOX0_16.below hb17
  have hOG0_18 := hOG0_16.below hb17
  clear hB16 hVW0_16 hVG0_16 hOW0_16 hOX0_16 hOG0_16
  clear hb17
  go_wp2_with fail
  refine (eqTk _ _ l0 _ (Nat.le_trans (szTk_len _) (Nat.le_trans HS0.out (by omega))) hOX0_18.rd hoq.rd).mono ?_
  rintro e w19 ⟨rfl, hb19⟩
  have hz20 : w17.heap.size ≤ w19.heap.size := hb19.size
  have hB20 : Below w.heap.size w w19 := hB18.trans (hb19.mono hB18.size)
  have hVW0_20 : Var w19 w5.heap.size #[.slice aW0 E0.ns.length cW0, .slice bW0 E0.ds.length eW0] 26 := hVW0_18.new hb19
  have hVG0_20 : Var w19 w11.heap.size #[.slice aG0 E0.ns.length cG0, .slice bG0 E0.ds.length eG0] 26 := hVG0_18.new hb19
  have hOW0_20 := hOW0_18.below hb19
  have hOX0_20 := hOX0_18.below hb19
  have hOG0_20 := hOG0_18.below hb19
  clear hB18 hVW0_18 hVG0_18 hOW0_18 hOX0_18 hOG0_18
  clear hoq hb19
  have hcb0 := (Nat.le_trans (szTk_len l0) HS0.out)
  have hcg0 := cntF_le HG0.out
  go_wp2_with fail
  refine (markTk _ _ _ (1) l0 _ (Nat.le_trans (szTk_len _) (Nat.le_trans HS0.out (by omega))) (by omega) (by omega) hOX0_20).mono ?_
  rintro e w21 ⟨rfl, hMX0, hb21⟩
  have hz22 : w19.heap.size ≤ w21.heap.size := hb21.size
  have hB22 : Below w.heap.size w w21 := hB20.trans (hb21.below hB20.size (fun j hj => by omega))
  have hVW0_22 : Var w21 w5.heap.size #[.slice aW0 E0.ns.length cW0, .slice bW0 E0.ds.length eW0] 26 := hVW0_20.only hb21 (fun hj => by omega)
  have hVG0_22 : Var w21 w11.heap.size #[.slice aG0 E0.ns.length cG0, .slice bG0 E0.ds.length eG0] 26 := hVG0_20.only hb21 (fun hj => by omega)
  have hOW0_22 := hOW0_20.only hb21 (fun j h1 h2 hj => by omega)
  have hOG0_22 := hOG0_20.only hb21 (fun j h1 h2 hj => by omega)
  clear hB20 hVW0_20 hVG0_20 hOW0_20 hOG0_20
  clear hb21 hOX0_20
  have hkq : ¬ ((1 + l0.length : Nat) : Int) < 0 := by omega
  have yG00 := hVG0_22.cell 0
  have yG01 := hVG0_22.cell 1
  simp at yG00 yG01
  have yW00 := hVW0_22.cell 0
  have yW01 := hVW0_22.cell 1
  simp at yW00 yW01
  go_wp2_with fail
  refine (eqFsW _ _ E0 _ (smF_sz HG0.out) hOG0_22.rd hOW0_22.rd).mono ?_
  rintro e w23 ⟨rfl, hb23⟩
  clear yG00 yG01 yW00 yW01
  have hz24 : w21.heap.size ≤ w23.heap.size := hb23.size
  have hB24 : Below w.heap.size w w23 := hB22.trans (hb23.mono hB22.size)
  have hVW0_24 : Var w23 w5.heap.size #[.slice aW0 E0.ns.length cW0, .slice bW0 E0.ds.length eW0] 26 := hVW0_22.new hb23
  have hVG0_24 : Var w23 w11.heap.size #[.slice aG0 E0.ns.length cG0, .slice bG0 E0.ds.length eG0] 26 := hVG0_22.new hb23
  have hOW0_24 := hOW0_22.below hb23
  have hOX0_24 := hMX0.below hb23
  have hOG0_24 := hOG0_22.below hb23
  clear hB22 hVW0_22 hVG0_22 hOW0_22 hMX0 hOG0_22
  clear hb23
  have yG00 := hVG0_24.cell 0
  have yG01 := hVG0_24.cell 1
  simp at yG00 yG01
  go_wp2_with fail
  refine (markFsW _ _ _ (1) E0 _ (Nat.le_trans HG0.out (by omega)) (by omega) (by omega) hOG0_24).mono ?_
  rintro e w25 ⟨rfl, hMG0, hb25⟩
  clear yG00 yG01
  have hz26 : w23.heap.size ≤ w25.heap.size := hb25.size
  have hB26 : Below w.heap.size w w25 := hB24.trans (hb25.below hB24.size (fun j hj => by omega))
  have hVW0_26 : Var w25 w5.heap.size #[.slice aW0 E0.ns.length cW0, .slice bW0 E0.ds.length eW0] 26 := hVW0_24.only hb25 (fun hj => by omega)
  have hVG0_26 : Var w25 w11.heap.size #[.slice aG0 E0.ns.length cG0, .slice bG0 E0.ds.length eG0] 26 := hVG0_24.only hb25 (fun hj => by omega)
  have hOW0_26 := hOW0_24.only hb25 (fun j h1 h2 hj => by omega)
  clear hB24 hVW0_24 hVG0_24 hOW0_24
  clear hb25 hOG0_24
  have hmq : ¬ ((1 + cntF E0 : Nat) : Int) < 0 := by omega
  have yG00 := hVG0_26.cell 0
  have yG01 := hVG0_26.cell 1
  simp at yG00 yG01
  go_wp2_with fail
  refine (heldFsW _ _ _ (1) E0 _ (Nat.le_trans HG0.out (by omega)) (by omega) hMG0).mono ?_
  rintro e w27 ⟨rfl, hb27⟩
  clear yG00 yG01
  have hz28 : w25.heap.size ≤ w27.heap.size := hb27.size
  have hB28 : Below w.heap.size w w27 := hB26.trans (hb27.mono hB26.size)
  have hVW0_28 : Var w27 w5.heap.size #[.slice aW0 E0.ns.length cW0, .slice bW0 E0.ds.length eW0] 26 := hVW0_26.new hb27
  have hVG0_28 : Var w27 w11.heap.size #[.slice aG0 E0.ns.length cG0, .slice bG0 E0.ds.length eG0] 26 := hVG0_26.new hb27
  have hOW0_28 := hOW0_26.below hb27
  have hOG0_28 := hMG0.below hb27
  clear hB26 hVW0_26 hVG0_26 hOW0_26 hMG0
  clear hb27
  go_wp2_with fail
  refine (toTkX _ l0 _ HS0.out (HR0.out _ hB28)).mono ?_
  rintro e w29 ⟨x7, rfl, ho7, hb29⟩
  have hz30 : w27.heap.size ≤ w29.heap.size := hb29.size
  have hB30 : Below w.heap.size w w29 := hB28.trans (hb29.mono hB28.size)
  have hVW0_30 : Var w29 w5.heap.size #[.slice aW0 E0.ns.length cW0, .slice bW0 E0.ds.length eW0] 26 := hVW0_28.new hb29
  have hVG0_30 : Var w29 w11.heap.size #[.slice aG0 E0.ns.length cG0, .slice bG0 E0.ds.length eG0] 26 := hVG0_28.new hb29
  have hOW0_30 := hOW0_28.below hb29
  have hOG0_30 := hOG0_28.below hb29
  clear hB28 hVW0_28 hVG0_28 hOW0_28 hOG0_28
  clear hb29
  go_wp2_with fail
  refine (IC.out _ _ HS0.out ho7.rd hB30).mono ?_
  rintro e w31 ⟨uH0, rfl, hOH0, hb31⟩
  have hz32 : w29.heap.size ≤ w31.heap.size := hb31.size
  have hB32 : Below w.heap.size w w31 := hB30.trans (hb31.mono hB30.size)
  have hVW0_32 : Var w31 w5.heap.size #[.slice aW0 E0.ns.length cW0, .slice bW0 E0.ds.length eW0] 26 := hVW0_30.new hb31
  have hVG0_32 : Var w31 w11.heap.size #[.slice aG0 E0.ns.length cG0, .slice bG0 E0.ds.length eG0] 26 := hVG0_30.new hb31
  have hOW0_32 := hOW0_30.below hb31
  have hOG0_32 := hOG0_30.below hb31
  clear hB30 hVW0_30 hVG0_30 hOW0_30 hOG0_30
  clear hb31
  obtain ⟨aH0, cH0, bH0, eH0, rfl⟩ := hOH0.lay
  clear ho7
  have hsz33 : (w31.alloc (.cells #[.slice aH0 E0.ns.length cH0, .slice bH0 E0.ds.length eH0] 26)).heap.size = w31.heap.size + 1 := by simp
  have hz34 : w31.heap.size ≤ (w31.alloc (.cells #[.slice aH0 E0.ns.length cH0, .slice bH0 E0.ds.length eH0] 26)).heap.size := (below1 w31 (.cells #[.slice aH0 E0.ns.length cH0, .slice bH0 E0.ds.length eH0] 26)).size
  have hB34 : Below w.heap.size w (w31.alloc (.cells #[.slice aH0 E0.ns.length cH0, .slice bH0 E0.ds.length eH0] 26)) := hB32.trans ((below1 w31 (.cells #[.slice aH0 E0.ns.length cH0, .slice bH0 E0.ds.length eH0] 26)).mono hB32.size)
  have hVW0_34 : Var (w31.alloc (.cells #[.slice aH0 E0.ns.length cH0, .slice bH0 E0.ds.length eH0] 26)) w5.heap.size #[.slice aW0 E0.ns.length cW0, .slice bW0 E0.ds.length eW0] 26 := hVW0_32.new (below1 w31 (.cells #[.slice aH0 E0.ns.length cH0, .slice bH0 E0.ds.length eH0] 26))
  have hVG0_34 : Var (w31.alloc (.cells #[.slice aH0 E0.ns.length cH0, .slice bH0 E0.ds.length eH0] 26)) w11.heap.size #[.slice aG0 E0.ns.length cG0, .slice bG0 E0.ds.length eG0] 26 := hVG0_32.new (below1 w31 (.cells #[.slice aH0 E0.ns.length cH0, .slice bH0 E0.ds.length eH0] 26))
  have hOW0_34 := hOW0_32.below (below1 w31 (.cells #[.slice aH0 E0.ns.length cH0, .slice bH0 E0.ds.length eH0] 26))
  have hOG0_34 := hOG0_32.below (below1 w31 (.cells #[.slice aH0 E0.ns.length cH0, .slice bH0 E0.ds.length eH0] 26))
  have hOH0_34 := hOH0.below (below1 w31 (.cells #[.slice aH0 E0.ns.length cH0, .slice bH0 E0.ds.length eH0] 26))
  clear hB32 hVW0_32 hVG0_32 hOW0_32 hOG0_32 hOH0
  have hVH0 : Var (w31.alloc (.cells #[.slice aH0 E0.ns.length cH0, .slice bH0 E0.ds.length eH0] 26)) w31.heap.size #[.slice aH0 E0.ns.length cH0, .slice bH0 E0.ds.length eH0] 26 := Var.made w31 _ _
  have yH00 := hVH0.cell 0
  have yH01 := hVH0.cell 1
  simp at yH00 yH01
  have yW00 := hVW0_34.cell 0
  have yW01 := hVW0_34.cell 1
  simp at yW00 yW01
  go_wp2_with fail
  refine (eqFsW _ _ E0 _ (smF_sz HG0.out) hOH0_34.rd hOW0_34.rd).mono ?_
  rintro e w35 ⟨rfl, hb35⟩
  clear yH00 yH01 yW00 yW01
  have hz36 : (w31.alloc (.cells #[.slice aH0 E0.ns.length cH0, .slice bH0 E0.ds.length eH0] 26)).heap.size ≤ w35.heap.size := hb35.size
  have hB36 : Below w.heap.size w w35 := hB34.trans (hb35.mono hB34.size)
  have hVW0_36 : Var w35 w5.heap.size #[.slice aW0 E0.ns.length cW0, .slice bW0 E0.ds.length eW0] 26 := hVW0_34.new hb35
  have hVG0_36 : Var w35 w11.heap.size #[.slice aG0 E0.ns.length cG0, .slice bG0 E0.ds.length eG0] 26 := hVG0_34.new hb35
  have hVH0_36 : Var w35 w31.heap.size #[.slice aH0 E0.ns.length cH0, .slice bH0 E0.ds.length eH0] 26 := hVH0.new hb35
  have hOW0_36 := hOW0_34.below hb35
  have hOG0_36 := hOG0_34.below hb35
  have hOH0_36 := hOH0_34.below hb35
  clear hB34 hVW0_34 hVG0_34 hVH0 hOW0_34 hOG0_34 hOH0_34
  clear hb35
  have yG00 := hVG0_36.cell 0
  have yG01 := hVG0_36.cell 1
  simp at yG00 yG01
  go_wp2_with fail
  refine (heldFsW _ _ _ (1) E0 _ (Nat.le_trans HG0.out (by omega)) (by omega) hOG0_36).mono ?_
  rintro e w37 ⟨rfl, hb37⟩
  clear yG00 yG01
  have hz38 : w35.heap.size ≤ w37.heap.size := hb37.size
  have hB38 : Below w.heap.size w w37 := hB36.trans (hb37.mono hB36.size)
  have hVW0_38 : Var w37 w5.heap.size #[.slice aW0 E0.ns.length cW0, .slice bW0 E0.ds.length eW0] 26 := hVW0_36.new hb37
  have hVG0_38 : Var w37 w11.heap.size #[.slice aG0 E0.ns.length cG0, .slice bG0 E0.ds.length eG0] 26 := hVG0_36.new hb37
  have hVH0_38 : Var w37 w31.heap.size #[.slice aH0 E0.ns.length cH0, .slice bH0 E0.ds.length eH0] 26 := hVH0_36.new hb37
  have hOW0_38 := hOW0_36.below hb37
  have hOG0_38 := hOG0_36.below hb37
  clear hB36 hVW0_36 hVG0_36 hVH0_36 hOW0_36 hOG0_36
  clear hb37
  go_wp2
  go_ret
  exact ⟨rfl, hB38⟩

set_option maxRecDepth 100000 in
theorem lifted (os : Os) (started : os.Started) (H : Type) (enc : TypeId × Value → H) :
    ReturnsInHanded {} Tryd.checked os 3 .any (fun w args => (Rows.fnExactFsOfSpec.pre enc Tryd.prog Tryd.f3 Rows.fnExactFsOfRow.domain false w args ∧ laidMetH Tryd.prog Rows.fnExactFsOfRow.laid w) ∧ sizedMet enc Tryd.prog Tryd.f3 (OpenSpec.ofChange Rows.fnExactFsOfSpec) false w args) (Rows.fnExactFsOfSpec.post enc Tryd.prog Tryd.f3 false true false false) := by
  refine returnsInHanded_of_change_and (C := Tryd.checked) (X := fun w _ => laidMetH Tryd.prog Rows.fnExactFsOfRow.laid w) (fun _ _ _ hh h => h.of_heap hh) own started (by kernel_rfl) Tryd.func3
    (ChangeSpec.witness_shaped (enc := enc) (C := Tryd.checked) (os := os) (X := fun w _ => laidMetH Tryd.prog Rows.fnExactFsOfRow.laid w) false (World.doorLaid Tryd.prog 28 os) #[.slice none 0 0] 8 rfl (World.shaped_of_RefB (by kernel_rfl) (by kernel_rfl)) (by kernel_rfl) (by kernel_rfl) (by kernel_rfl) (door_met os _)) ?_
  intro W base args ds gs before hval0 hW _ _ hL _
  have hval : ∀ (j : Nat) t v, Tryd.f3.params[j]? = some t → args[j]? = some v → Value.okWide Tryd.prog W .any base t v := hval0
  have hW' := hW
  obtain ⟨p, q, hA0, hV, rfl, hfz, hnd⟩ := hW
  have hA : DataW.TrodAll enc Tryd.prog W 0 (fun _ => true) true Tryd.f3.params.toList args.toList ds p := hA0
  rw [Tryd.params3] at hA hval
  obtain ⟨v0, vs0, d0, ds0, p0, q0, hargs, rfl, rfl, h0, rr0⟩ := trodAll_cons hA
  obtain ⟨rfl, rfl, rfl⟩ := trodAll_nil rr0
  obtain rfl : args = #[v0] := by cases args; simp_all
  have hV1 : DataW.TrodVars enc Tryd.prog W (fun _ => true) ["loop.example/g00483/impl.errNoNum"] gs q := hV
  obtain ⟨xv, hv0⟩ := errVar (Rows.fnExactFsOfRow.laid) rfl hL
  obtain ⟨rfl, rfl⟩ := hV1.unique (vars_read1 enc gErr tErr Tryd.underlying79 hv0 trivial _)
  have k0 := h0
  have lt0 : ∀ x ∈ p0, x.block < W.heap.size := by obtain ⟨m, hm⟩ := k0; exact DataW.trod_lt m _ _ _ hm
  obtain ⟨a0, c0, l0, rfl, f0, cc0, r0⟩ := open_Texts (hval 0 22 v0 rfl rfl) h0
  clear hA0 hval0
  refine (walk a0 c0 l0 f0 cc0 W r0 hL).mono fun e W' ⟨he, bel⟩ => ?_
  subst he
  exact ⟨_, rfl, _, _, _, [], _, [.cell errG 0], hW', trodAll_mk1 (shut_bool Tryd.underlying4 _), (trodAll_cons_mk (Below.trod laidOut (by kernel_rfl) (of_decide_eq_true (by kernel_rfl)) k0 bel lt0) trodAll_mk0), vars_read1 enc gErr tErr Tryd.underlying79 (Joins.var_stays gErr hv0 bel (Nat.le_refl _)) trivial _, bel.frame _, fun h => by cases h⟩

theorem over : Rows.fnExactFsOfRow.holds Tryd.pinned (OpenSpec.ofChange Rows.fnExactFsOfSpec) :=
  OpenClaim.holds_of_wide 3 Tryd.f3 rfl rfl rfl rfl rfl rfl rfl ⟨rfl, rfl, rfl, rfl, rfl⟩ rfl rfl rfl rfl rfl (by kernel_rfl) Tryd.func3 (by kernel_rfl)
    (of_decide_eq_true (by kernel_rfl)) (by unfold Func.isWrapper; first | (rw [if_pos (by decide +kernel)]; kernel_rfl) | (rw [if_neg (by decide +kernel)]; exact ⟨rfl, rfl⟩))
    (fun os started H enc _ => lifted os started H enc)

theorem plain (f : FuncId) (fn : Func) (hf : Tryd.pinned.checked.prog.funcNamed "loop.example/g00483/laws.FnExactFsOf" = some f) (hfn : Tryd.pinned.checked.prog.funcs[f]? = some fn) :
    false = Tryd.pinned.checked.prog.looks [] ∧ ∀ (j : Nat) t, fn.params[j]? = some t → Tryd.pinned.checked.prog.wantsStandIn t = false := by
  obtain rfl : f = 3 := Option.some.inj ((show Tryd.prog.funcNamed "loop.example/g00483/laws.FnExactFsOf" = some 3 by kernel_rfl).symm.trans hf) |>.symm
  obtain rfl : fn = Tryd.f3 := (Option.some.inj (Tryd.func3.symm.trans hfn)).symm
  refine ⟨by kernel_rfl, fun j t ht => ?_⟩
  rw [Tryd.params3] at ht
  have hm : t ∈ [22] := by simpa using Array.mem_of_getElem? ht
  have hall : ([22].all fun u => !Tryd.prog.wantsStandIn u) = true := by kernel_rfl
  exact (show Tryd.prog.wantsStandIn t = false by simpa using List.all_eq_true.1 hall t hm)

theorem card : Rows.FnExactFsOfCardSaid :=
  Claim7.holds_tied_plain_at .later [] _ _ _ _ over (fun _ h => by cases h) (by kernel_rfl) (fun _ h => by cases h) fnExactFsOf_row_tie rfl ⟨rfl, rfl⟩ (by kernel_rfl) rfl plain (by kernel_rfl)
#print axioms card
end Go.Proofs.YtaabcfgjmankgaaDoor.fnExactFsOf
