/-
  For every slice of bytes the law FnRecovered returns true (a recovery a second time is none; a recovery that falls itself is done again), and what came in reads behind the call as it read before; the program's error variable holds what the program's text lays.
-/
import Derived.Test.YtlidmnehpcodkaaDoorDRcW
import Derived.Test.YtlidmnehpcodkaaDoorBigW
import Derived.Test.YtlidmnehpcodkaaDoorOpenB
import Derived.Test.YtlidmnehpcodkaaDoorErrW
import Derived.Test.YtlidmnehpcodkaaDoorBunI
import Derived.Test.YtlidmnehpcodkaaDoorRecL
import Derived.Test.YtlidmnehpcodkaaDoorRcvL
import Derived.Test.YtlidmnehpcodkaaDoorIRecW
import Derived.Test.YtlidmnehpcodkaaDoorCards
import Derived.Test.YtlidmnehpcodkaaDoorTie
import Derived.LaidMore
import Derived.Stop.Joined
import Derived.Stop.LaidErr
import Derived.Lib.LaidTab
import Derived.Lib.SmallJoins
import Derived.SevenTiedAt
import Derived.WalkKit
import Derived.ProofKit
import Derived.OpenShut
import Derived.ShutString
import Derived.ChangeOld
import Derived.Below
namespace Go.Proofs.YtlidmnehpcodkaaDoor.fnRecovered
open Go.ChangeShapes Go.WideShapes Go.ChangeAt Go.RowKit
open Go.ChangeMaps (open_string shut_string)
set_option linter.unusedVariables false

theorem own : ownKnob Tryd.prog.godebug = none := by kernel_rfl
theorem door_met (os : Os) (args : Array Value) : laidMetH Tryd.prog Rows.fnRecoveredRow.laid ((World.doorLaid Tryd.prog 28 os).forCall (fun _ _ => 0) ⟨#[], args, []⟩).memory :=
  laidMetH_of_parts3 (fuel := 8) (laidMet_of_run' 8 (by kernel_rfl) (by kernel_rfl)) (by kernel_rfl) (by kernel_rfl)
theorem laidOut : laidOutB Tryd.prog = true := by kernel_rfl

set_option maxRecDepth 20000 in
set_option maxHeartbeats 8000000 in
theorem walk (a0 : Option Addr) (cap0 : Nat) (l0 : List Int) (u0 : U8 l0) (w : World) (r0 : Rd .u8 w a0 l0) (hL : laidMetH Tryd.prog Rows.fnRecoveredRow.laid w) :
    Calls Tryd.prog 4 #[.slice a0 l0.length cap0] w fun e w' => e = .returned (.bool true) ∧ Below w.heap.size w w' := by
  obtain ⟨aE, hv⟩ := errVar (Rows.fnRecoveredRow.laid) rfl hL
  have hgc : w.cell? ⟨errG, 0, none⟩ = some (.iface 138 (.pointer (some aE))) := by simpa using World.var?_cell gErr hv 0
  have HEA : Hid (ErrAt aE w) := ⟨World.block_lt_of_cell? w _ hgc, hgc⟩
  clear hL hv hgc
  by_cases hbig : 1048576 < l0.length
  · have hbg : decide ((1048576 : Int) < (l0.length : Int)) = true := by simp; omega
    go_enter Tryd.func4, Tryd.ntmps4
    go_wp2_with (go_at_call 8; refine (bigL _ _ _ _).mono ?_; rintro e w1 ⟨rfl, hw1⟩; subst w1; rw [hbg])
    go_ret
    exact ⟨rfl, Below.refl _ _⟩
  have hbg : decide ((1048576 : Int) < (l0.length : Int)) = false := by simp; omega
  have HR0 : Hid (Rd .u8 w a0 l0) := r0
  have HU : Hid (U8 l0) := u0
  clear r0 u0
  go_enter Tryd.func4, Tryd.ntmps4
  go_wp2_with fail
  refine (bigL _ _ _ _).mono ?_
  rintro e w0 ⟨rfl, hw0⟩
  subst w0
  rw [hbg]
  go_wp2_with fail
  refine (drawRecover _ _ l0 _ (by omega) HU.out HR0.out).mono ?_
  rintro e w1 ⟨v1, d, n, rfl, hO1, hd1, hd2, hsm, hfit, hb1⟩
  obtain ⟨aD, cD, bD, eD, rfl⟩ := hO1.shape
  have HSM : Hid (SmD d) := hsm
  have HFN : Hid (FitN d n) := hfit
  have HOD : Hid (OwnD (w1.alloc (.cells #[.slice aD d.1.length cD, .slice bD d.2.length eD] 27)) w.heap.size (.agg #[.slice aD d.1.length cD, .slice bD d.2.length eD]) d) := hO1.below (below1 _ _)
  have HB1 : Hid (Below w.heap.size w (w1.alloc (.cells #[.slice aD d.1.length cD, .slice bD d.2.length eD] 27))) := hb1.alloc hb1.size _
  have hVD : Var (w1.alloc (.cells #[.slice aD d.1.length cD, .slice bD d.2.length eD] 27)) w1.heap.size #[.slice aD d.1.length cD, .slice bD d.2.length eD] 27 := Var.made w1 _ _
  have HVD : Hid (Var (w1.alloc (.cells #[.slice aD d.1.length cD, .slice bD d.2.length eD] 27)) w1.heap.size #[.slice aD d.1.length cD, .slice bD d.2.length eD] 27) := hVD
  have yd0 := hVD.cell 0
  have yd1 := hVD.cell 1
  simp at yd0 yd1
  clear hO1 hb1 hsm hfit hVD
  generalize hQd : w1.heap.size = Qd at *
  have HRC : Hid (Calls Tryd.prog 12 #[.agg #[.slice aD d.1.length cD, .slice bD d.2.length eD], .int .i64 n] (w1.alloc (.cells #[.slice aD d.1.length cD, .slice bD d.2.length eD] 27)) fun e w' => ∃ v', e = .returned v' ∧ OwnD w' (w1.alloc (.cells #[.slice aD d.1.length cD, .slice bD d.2.length eD] 27)).heap.size v' (recD d n) ∧ Below (w1.alloc (.cells #[.slice aD d.1.length cD, .slice bD d.2.length eD] 27)).heap.size (w1.alloc (.cells #[.slice aD d.1.length cD, .slice bD d.2.length eD] 27)) w') :=
    implRecover _ d n aE _ ⟨by omega, by omega⟩ HSM.out (HEA.out.below HB1.out) HOD.out.rd
  obtain ⟨R, HRR⟩ : ∃ R, Hid (recD d n = R) := ⟨_, rfl⟩
  rw [HRR.out] at HRC
  have HRL : Hid (R.1.length ≤ 4194303 ∧ R.2.length ≤ 4194303 ∧ SmD R) := by rw [← HRR.out]; exact rec_fine ⟨by omega, by omega⟩ HSM.out
  go_wp2_with fail
  refine HRC.out.mono ?_
  rintro e w2 ⟨v2, rfl, hO2, hb2⟩
  obtain ⟨aR, cR, bR, eR, rfl⟩ := hO2.shape
  have hW1 : (w1.alloc (.cells #[.slice aD d.1.length cD, .slice bD d.2.length eD] 27)).heap.size ≤ w2.heap.size := hb2.size
  have HB2 : Hid (Below w.heap.size w w2) := HB1.out.trans (hb2.mono HB1.out.size)
  have HVD2 := HVD.out.new hb2
  have HOD2 := HOD.out.below hb2
  obtain ⟨W3, hW3⟩ : ∃ W, w2.alloc (.cells #[.slice aR R.1.length cR, .slice bR R.2.length eR] 27) = W := ⟨_, rfl⟩
  have HVR : Hid (Var W3 w2.heap.size #[.slice aR R.1.length cR, .slice bR R.2.length eR] 27) := by rw [← hW3]; exact Var.made w2 _ _
  have HVD3 : Hid (Var W3 Qd #[.slice aD d.1.length cD, .slice bD d.2.length eD] 27) := by rw [← hW3]; exact HVD2.alloc _
  have HRD : Hid (RdD W3 (.agg #[.slice aD d.1.length cD, .slice bD d.2.length eD]) d) := by rw [← hW3]; exact (HOD2.below (below1 _ _)).rd
  have HRX : Hid (RdD W3 (.agg #[.slice aR R.1.length cR, .slice bR R.2.length eR]) R) := by rw [← hW3]; exact (hO2.below (below1 _ _)).rd
  have HB3 : Hid (Below w.heap.size w W3) := by rw [← hW3]; exact HB2.out.alloc HB2.out.size _
  generalize hQr : w2.heap.size = Qr at *
  have HBW3 : Hid (Below W3.heap.size W3 W3) := Below.refl _ _
  have HS : Hid (∀ W, Below W3.heap.size W3 W → W.cell? ⟨Qd, 0, none⟩ = some (.slice aD d.1.length cD) ∧ W.cell? ⟨Qd, 1, none⟩ = some (.slice bD d.2.length eD) ∧ W.cell? ⟨Qr, 0, none⟩ = some (.slice aR R.1.length cR) ∧ W.cell? ⟨Qr, 1, none⟩ = some (.slice bR R.2.length eR)) :=
    fun W h => ⟨(HVD3.out.new h).cell 0, (HVD3.out.new h).cell 1, (HVR.out.new h).cell 0, (HVR.out.new h).cell 1⟩
  have HD : Hid (∀ W, Below W3.heap.size W3 W → RdD W (.agg #[.slice aD d.1.length cD, .slice bD d.2.length eD]) d ∧ RdD W (.agg #[.slice aR R.1.length cR, .slice bR R.2.length eR]) R ∧ ErrAt aE W) :=
    fun W h => ⟨HRD.out.below h (Nat.le_refl _), HRX.out.below h (Nat.le_refl _), (HEA.out.below HB3.out).below h⟩
  have HEND : Hid (∀ W, Below W3.heap.size W3 W → Below w.heap.size w W) := fun W h => HB3.out.trans (h.mono HB3.out.size)
  have CSR : Hid (∀ W, Below W3.heap.size W3 W → Calls Tryd.prog 22 #[.agg #[.slice aD d.1.length cD, .slice bD d.2.length eD], .int .i64 n] W fun e w' => ∃ v', e = .returned v' ∧ OwnD w' W.heap.size v' R ∧ Below W.heap.size W w') := by
    intro W h
    have := specRecover _ d n W ⟨by omega, by omega⟩ (HD.out W h).1
    rwa [HRR.out] at this
  have CIR : Hid (∀ W, Below W3.heap.size W3 W → Calls Tryd.prog 12 #[.agg #[.slice aR R.1.length cR, .slice bR R.2.length eR], .int .i64 n] W fun e w' => ∃ v', e = .returned v' ∧ OwnD w' W.heap.size v' R ∧ Below W.heap.size W w') := by
    intro W h
    have := implRecover _ R n aE W ⟨HRL.out.1, HRL.out.2.1⟩ HRL.out.2.2 (HD.out W h).2.2 (HD.out W h).2.1
    rwa [show recD R n = R by rw [← HRR.out]; exact rec_again d n] at this
  have CFA : Hid (∀ W, Below W3.heap.size W3 W → Calls Tryd.prog 19 #[.agg #[.slice aD d.1.length cD, .slice bD d.2.length eD], .slice none 0 0] W fun e w' => ∃ v', e = .returned v' ∧ OwnD w' W.heap.size v' (dkFall d []) ∧ Below W.heap.size W w') :=
    fun W h => implFall _ d none 0 [] W ⟨by omega, by omega⟩ HSM.out (HD.out W h).1 (.inl rfl)
  have CDK : Hid (∀ W, Below W3.heap.size W3 W → Calls Tryd.prog 24 #[.agg #[.slice aD d.1.length cD, .slice bD d.2.length eD]] W fun e w' => e = .returned (.bool (dkOk d)) ∧ Below W.heap.size W w') :=
    fun W h => specDiskOk _ d W ⟨by omega, by omega⟩ (HD.out W h).1
  have CSM : Hid (∀ W v, Below W3.heap.size W3 W → RdD W v R → Calls Tryd.prog 15 #[.agg #[.slice aR R.1.length cR, .slice bR R.2.length eR], v] W fun r w' => r = .returned (.bool true) ∧ Below W.heap.size W w') := by
    intro W v h hv
    have := specDiskSame _ v R R W ⟨by have := HRL.out; omega, by have := HRL.out; omega⟩ (HD.out W h).2.1 hv
    rwa [same_self] at this
  have CIS : Hid (∀ (X : DiskD) q W v, dkSame X R = q → X.1.length ≤ 4194303 ∧ X.2.length ≤ 4194303 → Below W3.heap.size W3 W → RdD W v X → Calls Tryd.prog 23 #[v, .agg #[.slice aR R.1.length cR, .slice bR R.2.length eR]] W fun r w' => r = .returned (.bool q) ∧ Below W.heap.size W w') := by
    rintro X q W v rfl hl h hv
    exact implDiskSame v _ X R W ⟨by omega, by omega⟩ hv (HD.out W h).2.1
  clear hO2 hb2 HVD2 HOD2 HVR HVD3 HRD HRX HB3 HB2 HB1 HRC HVD HOD yd0 yd1 hW1 HU HR0
  go_wp2
  refine wp_region_noPanic ?_
  refine wp_region_held_drew (S := fun W => W.cell? ⟨Qd, 0, none⟩ = some (.slice aD d.1.length cD) ∧ W.cell? ⟨Qd, 1, none⟩ = some (.slice bD d.2.length eD) ∧ W.cell? ⟨Qr, 0, none⟩ = some (.slice aR R.1.length cR) ∧ W.cell? ⟨Qr, 1, none⟩ = some (.slice bR R.2.length eR)) (by kernel_rfl) (HS.out W3.drew (by exact HBW3.out.drew)) (fun _ => ?_)
  refine held_take (i := 0) (v := .agg #[.slice aR R.1.length cR, .slice bR R.2.length eR]) rfl rfl (by kernel_rfl) (by kernel_rfl) (by kernel_rfl) (by kernel_rfl) (fun W hW => by obtain ⟨hW1, hW2, hW3, hW4⟩ := hW; go_simp) (HS.out W3.drew (by exact HBW3.out.drew)) ?_
  simp only [Act.put, List.setIfInBounds_toArray, List.set_cons_zero, List.set_cons_succ]
  refine held_take (i := 1) (v := .agg #[.slice aD d.1.length cD, .slice bD d.2.length eD]) rfl rfl (by kernel_rfl) (by kernel_rfl) (by kernel_rfl) (by kernel_rfl) (fun W hW => by obtain ⟨hW1, hW2, hW3, hW4⟩ := hW; go_simp) (HS.out W3.drew (by exact HBW3.out.drew)) ?_
  simp only [Act.put, List.setIfInBounds_toArray, List.set_cons_zero, List.set_cons_succ]
  refine held_take (i := 2) (v := .int .i64 n) rfl rfl (by kernel_rfl) (by kernel_rfl) (by kernel_rfl) (by kernel_rfl) (fun W _ => by go_simp) (HS.out W3.drew (by exact HBW3.out.drew)) ?_
  simp only [Act.put, List.setIfInBounds_toArray, List.set_cons_zero, List.set_cons_succ]
  refine wpAnyH_ready (rs := [3]) (by kernel_rfl) (by simp) (AllReadyH.cons rfl (fun K hK => ?_) AllReadyH.nil)
  go_simp
  refine (CSR.out W3.drew (by exact HBW3.out.drew)).mono ?_
  rintro e w4 ⟨v4, rfl, ho4, hb4⟩
  have HBw4 : Hid (Below W3.heap.size W3 w4) := (Below.refl _ W3).drew.trans hb4
  have hrd4 := ho4.rd
  clear hb4
  refine hK.out _ _ (HS.out w4 HBw4.out) (fun _ => ?_)
  clear hK K
  try simp only [Act.put, List.setIfInBounds_toArray, List.set_cons_zero, List.set_cons_succ]
  refine wpAnyH_ready (rs := [4]) (by kernel_rfl) (by simp) (AllReadyH.cons rfl (fun K hK => ?_) AllReadyH.nil)
  go_simp
  refine (CSM.out w4 v4 HBw4.out hrd4).mono ?_
  rintro e w5 ⟨rfl, hb5⟩
  have HBw5 : Hid (Below W3.heap.size W3 w5) := HBw4.out.trans (hb5.mono HBw4.out.size)
  clear hb5
  refine hK.out _ _ (HS.out w5 HBw5.out) (fun _ => ?_)
  clear hK K
  try simp only [Act.put, List.setIfInBounds_toArray, List.set_cons_zero, List.set_cons_succ]
  refine held_take (i := 5) (v := .bool false) rfl rfl (by kernel_rfl) (by kernel_rfl) (by kernel_rfl) (by kernel_rfl) (fun W _ => by go_simp) (HS.out w5 HBw5.out) ?_
  simp only [Act.put, List.setIfInBounds_toArray, List.set_cons_zero, List.set_cons_succ]
  refine wpAnyH_done (by kernel_rfl) ?_ _
  simp only [NoPanic]
  go_wp2
  refine wp_region_noPanic ?_
  refine wp_region_held_drew (S := fun W => W.cell? ⟨Qd, 0, none⟩ = some (.slice aD d.1.length cD) ∧ W.cell? ⟨Qd, 1, none⟩ = some (.slice bD d.2.length eD) ∧ W.cell? ⟨Qr, 0, none⟩ = some (.slice aR R.1.length cR) ∧ W.cell? ⟨Qr, 1, none⟩ = some (.slice bR R.2.length eR)) (by kernel_rfl) (HS.out w5.drew (by exact HBw5.out.drew)) (fun _ => ?_)
  refine held_take (i := 0) (v := .agg #[.slice aR R.1.length cR, .slice bR R.2.length eR]) rfl rfl (by kernel_rfl) (by kernel_rfl) (by kernel_rfl) (by kernel_rfl) (fun W hW => by obtain ⟨hW1, hW2, hW3, hW4⟩ := hW; go_simp) (HS.out w5.drew (by exact HBw5.out.drew)) ?_
  simp only [Act.put, List.setIfInBounds_toArray, List.set_cons_zero, List.set_cons_succ]
  refine held_take (i := 1) (v := .int .i64 n) rfl rfl (by kernel_rfl) (by kernel_rfl) (by kernel_rfl) (by kernel_rfl) (fun W _ => by go_simp) (HS.out w5.drew (by exact HBw5.out.drew)) ?_
  simp only [Act.put, List.setIfInBounds_toArray, List.set_cons_zero, List.set_cons_succ]
  refine held_take (i := 3) (v := .agg #[.slice aR R.1.length cR, .slice bR R.2.length eR]) rfl rfl (by kernel_rfl) (by kernel_rfl) (by kernel_rfl) (by kernel_rfl) (fun W hW => by obtain ⟨hW1, hW2, hW3, hW4⟩ := hW; go_simp) (HS.out w5.drew (by exact HBw5.out.drew)) ?_
  simp only [Act.put, List.setIfInBounds_toArray, List.set_cons_zero, List.set_cons_succ]
  refine wpAnyH_ready (rs := [2]) (by kernel_rfl) (by simp) (AllReadyH.cons rfl (fun K hK => ?_) AllReadyH.nil)
  go_simp
  refine (CIR.out w5.drew (by exact HBw5.out.drew)).mono ?_
  rintro e w6 ⟨v6, rfl, ho6, hb6⟩
  have HBw6 : Hid (Below W3.heap.size W3 w6) := HBw5.out.drew.trans (hb6.mono HBw5.out.size)
  have hrd6 := ho6.rd
  clear hb6
  refine hK.out _ _ (HS.out w6 HBw6.out) (fun _ => ?_)
  clear hK K
  try simp only [Act.put, List.setIfInBounds_toArray, List.set_cons_zero, List.set_cons_succ]
  refine wpAnyH_ready (rs := [4]) (by kernel_rfl) (by simp) (AllReadyH.cons rfl (fun K hK => ?_) AllReadyH.nil)
  go_simp
  refine (CIS.out R true w6 v6 (same_self R) ⟨HRL.out.1, HRL.out.2.1⟩ HBw6.out hrd6).mono ?_
  rintro e w7 ⟨rfl, hb7⟩
  have HBw7 : Hid (Below W3.heap.size W3 w7) := HBw6.out.trans (hb7.mono HBw6.out.size)
  clear hb7
  refine hK.out _ _ (HS.out w7 HBw7.out) (fun _ => ?_)
  clear hK K
  try simp only [Act.put, List.setIfInBounds_toArray, List.set_cons_zero, List.set_cons_succ]
  refine held_take (i := 5) (v := .bool true) rfl rfl (by kernel_rfl) (by kernel_rfl) (by kernel_rfl) (by kernel_rfl) (fun W _ => by go_simp) (HS.out w7 HBw7.out) ?_
  simp only [Act.put, List.setIfInBounds_toArray, List.set_cons_zero, List.set_cons_succ]
  refine held_take (i := 6) (v := .agg #[.slice aD d.1.length cD, .slice bD d.2.length eD]) rfl rfl (by kernel_rfl) (by kernel_rfl) (by kernel_rfl) (by kernel_rfl) (fun W hW => by obtain ⟨hW1, hW2, hW3, hW4⟩ := hW; go_simp) (HS.out w7 HBw7.out) ?_
  simp only [Act.put, List.setIfInBounds_toArray, List.set_cons_zero, List.set_cons_succ]
  refine held_take (i := 8) (v := .int .i64 n) rfl rfl (by kernel_rfl) (by kernel_rfl) (by kernel_rfl) (by kernel_rfl) (fun W _ => by go_simp) (HS.out w7 HBw7.out) ?_
  simp only [Act.put, List.setIfInBounds_toArray, List.set_cons_zero, List.set_cons_succ]
  refine held_take (i := 10) (v := .agg #[.slice aR R.1.length cR, .slice bR R.2.length eR]) rfl rfl (by kernel_rfl) (by kernel_rfl) (by kernel_rfl) (by kernel_rfl) (fun W hW => by obtain ⟨hW1, hW2, hW3, hW4⟩ := hW; go_simp) (HS.out w7 HBw7.out) ?_
  simp only [Act.put, List.setIfInBounds_toArray, List.set_cons_zero, List.set_cons_succ]
  refine wpAnyH_ready (rs := [7]) (by kernel_rfl) (by simp) (AllReadyH.cons rfl (fun K hK => ?_) AllReadyH.nil)
  go_simp
  refine (CFA.out w7 HBw7.out).mono ?_
  rintro e w8 ⟨v8, rfl, ho8, hb8⟩
  have HBw8 : Hid (Below W3.heap.size W3 w8) := HBw7.out.trans (hb8.mono HBw7.out.size)
  clear hb8
  refine hK.out _ _ (HS.out w8 HBw8.out) (fun _ => ?_)
  clear hK K
  try simp only [Act.put, List.setIfInBounds_toArray, List.set_cons_zero, List.set_cons_succ]
  have HFL : Hid ((dkFall d []).1.length ≤ 4194303 ∧ (dkFall d []).2.length ≤ 4194303 ∧ SmD (dkFall d [])) := fall_fine ⟨by omega, by omega⟩ HSM.out
  have hrc9 := implRecover v8 (dkFall d []) n aE w8 ⟨HFL.out.1, HFL.out.2.1⟩ HFL.out.2.2 (HD.out w8 HBw8.out).2.2 ho8.rd
  have HF9 : Hid ((recD (dkFall d []) n).1.length ≤ 4194303 ∧ (recD (dkFall d []) n).2.length ≤ 4194303) := by have := rec_fine (n := n) ⟨HFL.out.1, HFL.out.2.1⟩ HFL.out.2.2; exact ⟨this.1, this.2.1⟩
  have HRC9 : Hid (Calls Tryd.prog 12 #[v8, .int .i64 n] w8 fun e w' => ∃ v', e = .returned v' ∧ OwnD w' w8.heap.size v' (recD (dkFall d []) n) ∧ Below w8.heap.size w8 w') := hrc9
  clear hrc9
  refine wpAnyH_ready (rs := [9]) (by kernel_rfl) (by simp) (AllReadyH.cons rfl (fun K hK => ?_) AllReadyH.nil)
  go_simp
  refine HRC9.out.mono ?_
  rintro e w9 ⟨v9, rfl, ho9, hb9⟩
  have HBw9 : Hid (Below W3.heap.size W3 w9) := HBw8.out.trans (hb9.mono HBw8.out.size)
  clear hb9
  refine hK.out _ _ (HS.out w9 HBw9.out) (fun _ => ?_)
  clear hK K
  try simp only [Act.put, List.setIfInBounds_toArray, List.set_cons_zero, List.set_cons_succ]
  obtain ⟨q, HQ⟩ : ∃ q, Hid (dkSame (recD (dkFall d []) n) R = q) := ⟨_, rfl⟩
  refine wpAnyH_ready (rs := [11]) (by kernel_rfl) (by simp) (AllReadyH.cons rfl (fun K hK => ?_) AllReadyH.nil)
  go_simp
  refine (CIS.out _ q w9 v9 HQ.out HF9.out HBw9.out ho9.rd).mono ?_
  rintro e w10 ⟨rfl, hb10⟩
  have HBw10 : Hid (Below W3.heap.size W3 w10) := HBw9.out.trans (hb10.mono HBw9.out.size)
  clear hb10
  refine hK.out _ _ (HS.out w10 HBw10.out) (fun _ => ?_)
  clear hK K
  try simp only [Act.put, List.setIfInBounds_toArray, List.set_cons_zero, List.set_cons_succ]
  cases q with
  | true =>
    refine held_take (i := 12) (v := .bool true) rfl rfl (by kernel_rfl) (by kernel_rfl) (by kernel_rfl) (by kernel_rfl) (fun W _ => by go_simp) (HS.out w10 HBw10.out) ?_
    simp only [Act.put, List.setIfInBounds_toArray, List.set_cons_zero, List.set_cons_succ]
    refine held_take (i := 13) (v := .bool true) rfl rfl (by kernel_rfl) (by kernel_rfl) (by kernel_rfl) (by kernel_rfl) (fun W _ => by go_simp) (HS.out w10 HBw10.out) ?_
    simp only [Act.put, List.setIfInBounds_toArray, List.set_cons_zero, List.set_cons_succ]
    refine held_skip (i := 14) rfl rfl (by kernel_rfl) (by kernel_rfl) (by kernel_rfl) (by kernel_rfl) (HS.out w10 HBw10.out) ?_
    simp only [Act.put, List.setIfInBounds_toArray, List.set_cons_zero, List.set_cons_succ]
    refine held_skip (i := 15) rfl rfl (by kernel_rfl) (by kernel_rfl) (by kernel_rfl) (by kernel_rfl) (HS.out w10 HBw10.out) ?_
    simp only [Act.put, List.setIfInBounds_toArray, List.set_cons_zero, List.set_cons_succ]
    refine held_skip (i := 16) rfl rfl (by kernel_rfl) (by kernel_rfl) (by kernel_rfl) (by kernel_rfl) (HS.out w10 HBw10.out) ?_
    simp only [Act.put, List.setIfInBounds_toArray, List.set_cons_zero, List.set_cons_succ]
    refine held_take (i := 17) (v := .bool true) rfl rfl (by kernel_rfl) (by kernel_rfl) (by kernel_rfl) (by kernel_rfl) (fun W _ => by go_simp) (HS.out w10 HBw10.out) ?_
    simp only [Act.put, List.setIfInBounds_toArray, List.set_cons_zero, List.set_cons_succ]
    refine held_take (i := 18) (v := .bool true) rfl rfl (by kernel_rfl) (by kernel_rfl) (by kernel_rfl) (by kernel_rfl) (fun W _ => by go_simp) (HS.out w10 HBw10.out) ?_
    simp only [Act.put, List.setIfInBounds_toArray, List.set_cons_zero, List.set_cons_succ]
    refine held_skip (i := 19) rfl rfl (by kernel_rfl) (by kernel_rfl) (by kernel_rfl) (by kernel_rfl) (HS.out w10 HBw10.out) ?_
    simp only [Act.put, List.setIfInBounds_toArray, List.set_cons_zero, List.set_cons_succ]
    refine held_skip (i := 20) rfl rfl (by kernel_rfl) (by kernel_rfl) (by kernel_rfl) (by kernel_rfl) (HS.out w10 HBw10.out) ?_
    simp only [Act.put, List.setIfInBounds_toArray, List.set_cons_zero, List.set_cons_succ]
    refine held_skip (i := 21) rfl rfl (by kernel_rfl) (by kernel_rfl) (by kernel_rfl) (by kernel_rfl) (HS.out w10 HBw10.out) ?_
    simp only [Act.put, List.setIfInBounds_toArray, List.set_cons_zero, List.set_cons_succ]
    refine held_skip (i := 22) rfl rfl (by kernel_rfl) (by kernel_rfl) (by kernel_rfl) (by kernel_rfl) (HS.out w10 HBw10.out) ?_
    simp only [Act.put, List.setIfInBounds_toArray, List.set_cons_zero, List.set_cons_succ]
    refine held_skip (i := 23) rfl rfl (by kernel_rfl) (by kernel_rfl) (by kernel_rfl) (by kernel_rfl) (HS.out w10 HBw10.out) ?_
    simp only [Act.put, List.setIfInBounds_toArray, List.set_cons_zero, List.set_cons_succ]
    refine held_skip (i := 24) rfl rfl (by kernel_rfl) (by kernel_rfl) (by kernel_rfl) (by kernel_rfl) (HS.out w10 HBw10.out) ?_
    simp only [Act.put, List.setIfInBounds_toArray, List.set_cons_zero, List.set_cons_succ]
    refine held_skip (i := 25) rfl rfl (by kernel_rfl) (by kernel_rfl) (by kernel_rfl) (by kernel_rfl) (HS.out w10 HBw10.out) ?_
    simp only [Act.put, List.setIfInBounds_toArray, List.set_cons_zero, List.set_cons_succ]
    refine held_take (i := 26) (v := .bool true) rfl rfl (by kernel_rfl) (by kernel_rfl) (by kernel_rfl) (by kernel_rfl) (fun W _ => by go_simp) (HS.out w10 HBw10.out) ?_
    simp only [Act.put, List.setIfInBounds_toArray, List.set_cons_zero, List.set_cons_succ]
    refine held_take (i := 27) (v := .bool true) rfl rfl (by kernel_rfl) (by kernel_rfl) (by kernel_rfl) (by kernel_rfl) (fun W _ => by go_simp) (HS.out w10 HBw10.out) ?_
    simp only [Act.put, List.setIfInBounds_toArray, List.set_cons_zero, List.set_cons_succ]
    refine wpAnyH_done (by kernel_rfl) ?_ _
    simp only [NoPanic]
    go_wp2
    go_ret
    exact ⟨rfl, HEND.out w10 HBw10.out⟩
  | false =>
    obtain ⟨hdk, hne⟩ := rec_other HRR.out HQ.out HFN.out
    have HDK : Hid (dkOk d = true) := hdk
    have hne2 : ¬ (d.1.length : Int) = IntKind.i64.wrap (IntKind.i64.wrap (2 * n) + 1) := hne
    clear hdk hne
    refine held_take (i := 12) (v := .bool false) rfl rfl (by kernel_rfl) (by kernel_rfl) (by kernel_rfl) (by kernel_rfl) (fun W _ => by go_simp) (HS.out w10 HBw10.out) ?_
    simp only [Act.put, List.setIfInBounds_toArray, List.set_cons_zero, List.set_cons_succ]
    refine held_take (i := 13) (v := .bool false) rfl rfl (by kernel_rfl) (by kernel_rfl) (by kernel_rfl) (by kernel_rfl) (fun W _ => by go_simp) (HS.out w10 HBw10.out) ?_
    simp only [Act.put, List.setIfInBounds_toArray, List.set_cons_zero, List.set_cons_succ]
    refine held_take (i := 14) (v := .agg #[.slice aD d.1.length cD, .slice bD d.2.length eD]) rfl rfl (by kernel_rfl) (by kernel_rfl) (by kernel_rfl) (by kernel_rfl) (fun W hW => by obtain ⟨hW1, hW2, hW3, hW4⟩ := hW; go_simp) (HS.out w10 HBw10.out) ?_
    simp only [Act.put, List.setIfInBounds_toArray, List.set_cons_zero, List.set_cons_succ]
    refine wpAnyH_ready (rs := [15]) (by kernel_rfl) (by simp) (AllReadyH.cons rfl (fun K hK => ?_) AllReadyH.nil)
    go_simp
    refine (CDK.out w10 HBw10.out).mono ?_
    rintro e w11 ⟨rfl, hb11⟩
    have HBw11 : Hid (Below W3.heap.size W3 w11) := HBw10.out.trans (hb11.mono HBw10.out.size)
    clear hb11
    rw [HDK.out]
    refine hK.out _ _ (HS.out w11 HBw11.out) (fun _ => ?_)
    clear hK K
    try simp only [Act.put, List.setIfInBounds_toArray, List.set_cons_zero, List.set_cons_succ]
    refine held_take (i := 16) (v := .bool false) rfl rfl (by kernel_rfl) (by kernel_rfl) (by kernel_rfl) (by kernel_rfl) (fun W _ => by go_simp) (HS.out w11 HBw11.out) ?_
    simp only [Act.put, List.setIfInBounds_toArray, List.set_cons_zero, List.set_cons_succ]
    refine held_take (i := 17) (v := .bool false) rfl rfl (by kernel_rfl) (by kernel_rfl) (by kernel_rfl) (by kernel_rfl) (fun W _ => by go_simp) (HS.out w11 HBw11.out) ?_
    simp only [Act.put, List.setIfInBounds_toArray, List.set_cons_zero, List.set_cons_succ]
    refine held_take (i := 18) (v := .bool false) rfl rfl (by kernel_rfl) (by kernel_rfl) (by kernel_rfl) (by kernel_rfl) (fun W _ => by go_simp) (HS.out w11 HBw11.out) ?_
    simp only [Act.put, List.setIfInBounds_toArray, List.set_cons_zero, List.set_cons_succ]
    refine held_take (i := 19) (v := .pointer (some ⟨Qd, 0, none⟩)) rfl rfl (by kernel_rfl) (by kernel_rfl) (by kernel_rfl) (by kernel_rfl) (fun W _ => by go_simp) (HS.out w11 HBw11.out) ?_
    simp only [Act.put, List.setIfInBounds_toArray, List.set_cons_zero, List.set_cons_succ]
    refine held_take (i := 20) (v := .slice aD d.1.length cD) rfl rfl (by kernel_rfl) (by kernel_rfl) (by kernel_rfl) (by kernel_rfl) (fun W hW => by obtain ⟨hW1, hW2, hW3, hW4⟩ := hW; go_simp) (HS.out w11 HBw11.out) ?_
    simp only [Act.put, List.setIfInBounds_toArray, List.set_cons_zero, List.set_cons_succ]
    refine held_take (i := 21) (v := .int .i64 (d.1.length : Int)) rfl rfl (by kernel_rfl) (by kernel_rfl) (by kernel_rfl) (by kernel_rfl) (fun W _ => by go_simp) (HS.out w11 HBw11.out) ?_
    simp only [Act.put, List.setIfInBounds_toArray, List.set_cons_zero, List.set_cons_succ]
    refine held_take (i := 22) (v := .int .i64 n) rfl rfl (by kernel_rfl) (by kernel_rfl) (by kernel_rfl) (by kernel_rfl) (fun W _ => by go_simp) (HS.out w11 HBw11.out) ?_
    simp only [Act.put, List.setIfInBounds_toArray, List.set_cons_zero, List.set_cons_succ]
    refine held_take (i := 23) (v := .int .i64 (IntKind.i64.wrap (2 * n))) rfl rfl (by kernel_rfl) (by kernel_rfl) (by kernel_rfl) (by kernel_rfl) (fun W _ => by go_simp) (HS.out w11 HBw11.out) ?_
    simp only [Act.put, List.setIfInBounds_toArray, List.set_cons_zero, List.set_cons_succ]
    refine held_take (i := 24) (v := .int .i64 (IntKind.i64.wrap (IntKind.i64.wrap (2 * n) + 1))) rfl rfl (by kernel_rfl) (by kernel_rfl) (by kernel_rfl) (by kernel_rfl) (fun W _ => by go_simp) (HS.out w11 HBw11.out) ?_
    simp only [Act.put, List.setIfInBounds_toArray, List.set_cons_zero, List.set_cons_succ]
    refine held_take (i := 25) (v := .bool true) rfl rfl (by kernel_rfl) (by kernel_rfl) (by kernel_rfl) (by kernel_rfl) (fun W _ => by go_simp) (HS.out w11 HBw11.out) ?_
    simp only [Act.put, List.setIfInBounds_toArray, List.set_cons_zero, List.set_cons_succ]
    refine held_take (i := 26) (v := .bool true) rfl rfl (by kernel_rfl) (by kernel_rfl) (by kernel_rfl) (by kernel_rfl) (fun W _ => by go_simp) (HS.out w11 HBw11.out) ?_
    simp only [Act.put, List.setIfInBounds_toArray, List.set_cons_zero, List.set_cons_succ]
    refine held_take (i := 27) (v := .bool true) rfl rfl (by kernel_rfl) (by kernel_rfl) (by kernel_rfl) (by kernel_rfl) (fun W _ => by go_simp) (HS.out w11 HBw11.out) ?_
    simp only [Act.put, List.setIfInBounds_toArray, List.set_cons_zero, List.set_cons_succ]
    refine wpAnyH_done (by kernel_rfl) ?_ _
    simp only [NoPanic]
    go_wp2
    go_ret
    exact ⟨rfl, HEND.out w11 HBw11.out⟩

set_option maxRecDepth 100000 in
theorem lifted (os : Os) (started : os.Started) (H : Type) (enc : TypeId × Value → H) :
    ReturnsInHanded {} Tryd.checked os 4 .any (fun w args => (Rows.fnRecoveredSpec.pre enc Tryd.prog Tryd.f4 Rows.fnRecoveredRow.domain false w args ∧ laidMetH Tryd.prog Rows.fnRecoveredRow.laid w) ∧ sizedMet enc Tryd.prog Tryd.f4 (OpenSpec.ofChange Rows.fnRecoveredSpec) false w args) (Rows.fnRecoveredSpec.post enc Tryd.prog Tryd.f4 false true false false) := by
  refine returnsInHanded_of_change_and (C := Tryd.checked) (X := fun w _ => laidMetH Tryd.prog Rows.fnRecoveredRow.laid w) (fun _ _ _ hh h => h.of_heap hh) own started (by kernel_rfl) Tryd.func4
    (ChangeSpec.witness_shaped (enc := enc) (C := Tryd.checked) (os := os) (X := fun w _ => laidMetH Tryd.prog Rows.fnRecoveredRow.laid w) false (World.doorLaid Tryd.prog 28 os) #[.slice none 0 0] 8 rfl (World.shaped_of_RefB (by kernel_rfl) (by kernel_rfl)) (by kernel_rfl) (by kernel_rfl) (by kernel_rfl) (door_met os _)) ?_
  intro W base args ds gs before hval0 hW _ _ hL _
  have hval : ∀ (j : Nat) t v, Tryd.f4.params[j]? = some t → args[j]? = some v → Value.okWide Tryd.prog W .any base t v := hval0
  have hW' := hW
  obtain ⟨p, q, hA0, hV, rfl, hfz, hnd⟩ := hW
  have hA : DataW.TrodAll enc Tryd.prog W 0 (fun _ => true) true Tryd.f4.params.toList args.toList ds p := hA0
  rw [Tryd.params4] at hA hval
  obtain ⟨v0, vs0, d0, ds0, p0, q0, hargs, rfl, rfl, h0, rr0⟩ := trodAll_cons hA
  obtain ⟨rfl, rfl, rfl⟩ := trodAll_nil rr0
  obtain rfl : args = #[v0] := by cases args; simp_all
  have hV1 : DataW.TrodVars enc Tryd.prog W (fun _ => true) ["loop.example/g00483/impl.errNoNum"] gs q := hV
  obtain ⟨xv, hv0⟩ := errVar (Rows.fnRecoveredRow.laid) rfl hL
  obtain ⟨rfl, rfl⟩ := hV1.unique (vars_read1 enc gErr tErr Tryd.underlying137 hv0 trivial _)
  have k0 := h0
  have lt0 : ∀ x ∈ p0, x.block < W.heap.size := by obtain ⟨m, hm⟩ := k0; exact DataW.trod_lt m _ _ _ hm
  obtain ⟨a0, cap0, l0, rfl, u0, r0⟩ := open_Bytes (hval 0 22 v0 rfl rfl) h0
  clear hA0 hval0
  refine (walk a0 cap0 l0 u0 W r0 hL).mono fun e W' ⟨he, bel⟩ => ?_
  subst he
  exact ⟨_, rfl, _, _, _, [], _, [.cell errG 0], hW', trodAll_mk1 (shut_bool Tryd.underlying4 _), (trodAll_cons_mk (Below.trod laidOut (by kernel_rfl) (of_decide_eq_true (by kernel_rfl)) k0 bel lt0) trodAll_mk0), vars_read1 enc gErr tErr Tryd.underlying137 (Joins.var_stays gErr hv0 bel (Nat.le_refl _)) trivial _, bel.frame _, fun h => by cases h⟩

theorem over : Rows.fnRecoveredRow.holds Tryd.pinned (OpenSpec.ofChange Rows.fnRecoveredSpec) :=
  OpenClaim.holds_of_wide 4 Tryd.f4 rfl rfl rfl rfl rfl rfl rfl ⟨rfl, rfl, rfl, rfl, rfl⟩ rfl rfl rfl rfl rfl (by kernel_rfl) Tryd.func4 (by kernel_rfl)
    (of_decide_eq_true (by kernel_rfl)) (by unfold Func.isWrapper; first | (rw [if_pos (by decide +kernel)]; kernel_rfl) | (rw [if_neg (by decide +kernel)]; exact ⟨rfl, rfl⟩))
    (fun os started H enc _ => lifted os started H enc)

theorem plain (f : FuncId) (fn : Func) (hf : Tryd.pinned.checked.prog.funcNamed "loop.example/g00483/laws.FnRecovered" = some f) (hfn : Tryd.pinned.checked.prog.funcs[f]? = some fn) :
    false = Tryd.pinned.checked.prog.looks [] ∧ ∀ (j : Nat) t, fn.params[j]? = some t → Tryd.pinned.checked.prog.wantsStandIn t = false := by
  obtain rfl : f = 4 := Option.some.inj ((show Tryd.prog.funcNamed "loop.example/g00483/laws.FnRecovered" = some 4 by kernel_rfl).symm.trans hf) |>.symm
  obtain rfl : fn = Tryd.f4 := (Option.some.inj (Tryd.func4.symm.trans hfn)).symm
  refine ⟨by kernel_rfl, fun j t ht => ?_⟩
  rw [Tryd.params4] at ht
  have hm : t ∈ [22] := by simpa using Array.mem_of_getElem? ht
  have hall : ([22].all fun u => !Tryd.prog.wantsStandIn u) = true := by kernel_rfl
  exact (show Tryd.prog.wantsStandIn t = false by simpa using List.all_eq_true.1 hall t hm)

theorem card : Rows.FnRecoveredCardSaid :=
  Claim7.holds_tied_plain_at .later [] _ _ _ _ over (fun _ h => by cases h) (by kernel_rfl) (fun _ h => by cases h) fnRecovered_row_tie rfl ⟨rfl, rfl⟩ (by kernel_rfl) rfl plain (by kernel_rfl)
#print axioms card
end Go.Proofs.YtlidmnehpcodkaaDoor.fnRecovered
