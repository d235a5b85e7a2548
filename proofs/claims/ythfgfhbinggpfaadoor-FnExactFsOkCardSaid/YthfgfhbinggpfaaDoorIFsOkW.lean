/-
  Own text: whether a branch is right, by the program.
-/
import Derived.Test.YthfgfhbinggpfaaDoorIWalkSW
import Derived.Test.YthfgfhbinggpfaaDoorBunU
namespace Go.Proofs.YthfgfhbinggpfaaDoor
open Go.RowKit

theorem seeS_len {F : FsD} {s : List Bool} {p : PlD} (h : s.length = 10) : (seeS F s p).1.length = 10 := by
  unfold seeS
  split
  · exact h
  · rw [List.length_set]; exact h
theorem foB_alB {F : FsD} {s' : List Bool} {b : Bool} (h : (b = true ∧ ∀ x, 0 < x → x < F.ns.length → (ndAt F (x : Int)).k ≠ 0 → s'.getD x false = true) ↔ FsOkP F) : (b = false → foB F = false) ∧ (b = true → alB F s' = foB F) := by
  refine ⟨fun hb => foB_no fun hf => ?_, fun hb => ?_⟩
  · have := (h.2 hf).1
    rw [hb] at this; cases this
  · by_cases hf : FsOkP F
    · rw [foB_yes hf, alB_yes (h.2 hf).2]
    · rw [foB_no hf, alB_no fun h2 => hf (h.1 ⟨hb, h2⟩)]

set_option maxRecDepth 20000 in
set_option maxHeartbeats 4000000 in
theorem implFsOk (v : Value) (aE : Addr) (F : FsD) (w : World) (hsm : SmF F) (he : ErrAt aE w) (hr : RdFs w v F) :
    Calls Tryd.prog 10 #[v] w fun e w' => e = .returned (.bool (foB F)) ∧ Below w.heap.size w w' := by
  obtain ⟨a, ca, b, cb, rfl, hq, r1, r2⟩ := hr
  have HRF : Hid (∀ W, Below w.heap.size w W → RdFs W (.agg #[.slice a F.ns.length ca, .slice b F.ds.length cb]) F) := fun W h => RdFs.below ⟨a, ca, b, cb, rfl, hq, r1, r2⟩ h (Nat.le_refl _)
  have hmf : ∀ (fn : Fn) (first cap : Array Value) (w : World), (Instr.makeFunc fn first cap).run Tryd.prog w = .ok (.func fn first cap) w := fun _ _ _ _ => rfl
  have hbb : Below w.heap.size w ((w.alloc (.cells #[.slice a F.ns.length ca, .slice b F.ds.length cb] 30)).alloc (.cells #[.pointer (some ⟨w.heap.size, 0, none⟩), .bool false, .bool false, .bool false, .bool false, .bool false, .bool false, .bool false, .bool false, .bool false, .bool false] 50)) := below2 _ _ _
  have hP1 := (Var.made w #[.slice a F.ns.length ca, .slice b F.ds.length cb] 30).alloc (.cells #[.pointer (some ⟨w.heap.size, 0, none⟩), .bool false, .bool false, .bool false, .bool false, .bool false, .bool false, .bool false, .bool false, .bool false, .bool false] 50)
  have hG1 : Var ((w.alloc (.cells #[.slice a F.ns.length ca, .slice b F.ds.length cb] 30)).alloc (.cells #[.pointer (some ⟨w.heap.size, 0, none⟩), .bool false, .bool false, .bool false, .bool false, .bool false, .bool false, .bool false, .bool false, .bool false, .bool false] 50)) (w.heap.size + 1) (sgC w.heap.size (List.replicate 10 false)) 50 := Var.made2 w _ _ _
  have hz1 : ((w.alloc (.cells #[.slice a F.ns.length ca, .slice b F.ds.length cb] 30)).alloc (.cells #[.pointer (some ⟨w.heap.size, 0, none⟩), .bool false, .bool false, .bool false, .bool false, .bool false, .bool false, .bool false, .bool false, .bool false, .bool false] 50)).heap.size = w.heap.size + 2 := by simp
  have hSH := implShapeOk _ F _ hsm (HRF.out _ hbb)
  have HB1 : Hid (Below w.heap.size w ((w.alloc (.cells #[.slice a F.ns.length ca, .slice b F.ds.length cb] 30)).alloc (.cells #[.pointer (some ⟨w.heap.size, 0, none⟩), .bool false, .bool false, .bool false, .bool false, .bool false, .bool false, .bool false, .bool false, .bool false, .bool false] 50))) := hbb
  have HSH : Hid (Calls Tryd.prog 24 #[.agg #[.slice a F.ns.length ca, .slice b F.ds.length cb]] ((w.alloc (.cells #[.slice a F.ns.length ca, .slice b F.ds.length cb] 30)).alloc (.cells #[.pointer (some ⟨w.heap.size, 0, none⟩), .bool false, .bool false, .bool false, .bool false, .bool false, .bool false, .bool false, .bool false, .bool false, .bool false] 50)) fun e w' => e = .returned (.bool (shOk F)) ∧ Below (w.heap.size + 2) ((w.alloc (.cells #[.slice a F.ns.length ca, .slice b F.ds.length cb] 30)).alloc (.cells #[.pointer (some ⟨w.heap.size, 0, none⟩), .bool false, .bool false, .bool false, .bool false, .bool false, .bool false, .bool false, .bool false, .bool false, .bool false] 50)) w') := by
    rw [← hz1]; exact hSH
  have HV : Hid (∀ W, Below (w.heap.size + 2) ((w.alloc (.cells #[.slice a F.ns.length ca, .slice b F.ds.length cb] 30)).alloc (.cells #[.pointer (some ⟨w.heap.size, 0, none⟩), .bool false, .bool false, .bool false, .bool false, .bool false, .bool false, .bool false, .bool false, .bool false, .bool false] 50)) W → Var W w.heap.size #[.slice a F.ns.length ca, .slice b F.ds.length cb] 30 ∧ Var W (w.heap.size + 1) (sgC w.heap.size (List.replicate 10 false)) 50 ∧ Below w.heap.size w W ∧ w.heap.size + 2 ≤ W.heap.size) := fun W h => ⟨hP1.below h (by omega), hG1.below h (by omega), hbb.trans (h.mono (by omega)), by have := h.size; omega⟩
  have HR12 : Hid (∀ W, Below w.heap.size w W → RdNs W a F.ns ∧ RdS W b F.ds ∧ ErrAt aE W) := fun W h => ⟨r1.below h (Nat.le_refl _), r2.below h (Nat.le_refl _), he.below h⟩
  clear hbb hP1 hG1 hz1 hSH r1 r2 he HRF
  have hy0 := ((HV.out _ (Below.refl _ _)).1.cell 0).trans rfl
  have hy1 := ((HV.out _ (Below.refl _ _)).1.cell 1).trans rfl
  by_cases hS : ShapeP F
  rotate_left
  · have HA : Hid (foB F = false) := foB_no fun h => hS h.1
    rw [shOk_no hS] at HSH
    clear hS
    go_enter Tryd.func10, Tryd.ntmps10
    go_wp2_with fail
    refine HSH.out.mono ?_
    rintro e w2 ⟨rfl, hb2⟩
    have hB2 := (HV.out w2 hb2).2.2.1
    clear HSH
    go_wp2
    go_ret
    exact ⟨by rw [HA.out]; rfl, hB2⟩
  rw [shOk_yes hS] at HSH
  obtain ⟨s', bb, hwk, hls, hiff⟩ := sight_res hS
  have hn10 : F.ns.length ≤ 10 := hS.1.2.1
  have HFB : Hid ((bb = false → foB F = false) ∧ (bb = true → alB F s' = foB F)) := foB_alB hiff
  have HWA : Hid (∀ w2, Below (w.heap.size + 2) ((w.alloc (.cells #[.slice a F.ns.length ca, .slice b F.ds.length cb] 30)).alloc (.cells #[.pointer (some ⟨w.heap.size, 0, none⟩), .bool false, .bool false, .bool false, .bool false, .bool false, .bool false, .bool false, .bool false, .bool false, .bool false] 50)) w2 → Calls Tryd.prog 25 #[.pointer (some ⟨w.heap.size, 0, none⟩), .func (.func 26) #[.pointer (some ⟨w.heap.size + 1, 0, none⟩)] #[]] w2 fun e w' => e = .returned (.bool bb) ∧ Var w' (w.heap.size + 1) (sgC w.heap.size s') 50 ∧ Only (fun q => w2.heap.size ≤ q ∨ q = w.heap.size + 1) w2 w') := by
    intro w2 hb2
    obtain ⟨hP2, hG2, hB2, hz2⟩ := HV.out w2 hb2
    have hfr : ∀ W, Only (fun q => w2.heap.size ≤ q ∨ q = w.heap.size + 1) w2 W → W.cell? ⟨w.heap.size, 0, none⟩ = some (.slice a F.ns.length ca) ∧ W.cell? ⟨w.heap.size, 1, none⟩ = some (.slice b F.ds.length cb) ∧ RdNs W a F.ns ∧ RdS W b F.ds ∧ ErrAt aE W := fun W hO => by
      have hV := hP2.only hO (fun h => by omega)
      obtain ⟨h1, h2, h3⟩ := HR12.out W (hB2.trans (hO.below hB2.size (fun q h => by omega)))
      exact ⟨hV.cell 0, hV.cell 1, h1, h2, h3⟩
    have h := implWalkS (seeS F) (fun st W => st.length = 10 ∧ Var W (w.heap.size + 1) (sgC w.heap.size st) 50) (w.heap.size + 1) w.heap.size aE a b ca cb F w2 hS (by omega) (by omega) hfr
      (fun st W W' _ hO' hI => ⟨hI.1, hI.2.only hO' (fun h => by omega)⟩)
      (fun st p W hO hI => by
        refine (sightSee (w.heap.size + 1) w.heap.size a ca F st p W hn10 hI.1 hI.2 (fun W' hO' => ?_)).mono ?_
        · obtain ⟨h1, h2, h3, h4, h5⟩ := hfr W' (hO.trans (hO'.mono fun _ _ h => .inr h))
          exact ⟨h1, h3⟩
        · rintro e w' ⟨rfl, h1, h2⟩
          exact ⟨rfl, ⟨seeS_len hI.1, h1⟩, h2⟩)
      20 (List.replicate 10 false) (s', bb) ⟨by simp, hG2⟩ hwk
    refine h.mono ?_
    rintro e w' ⟨rfl, h1, h2⟩
    exact ⟨rfl, h1.2, h2⟩
  clear hwk hiff hS
  go_enter Tryd.func10, Tryd.ntmps10
  go_wp2_with fail
  refine HSH.out.mono ?_
  rintro e w2 ⟨rfl, hb2⟩
  obtain ⟨hP2, hG2, hB2, hz2⟩ := HV.out w2 hb2
  have HW2 := HWA.out w2 hb2
  have HW3 : Hid (Calls Tryd.prog 25 #[.pointer (some ⟨w.heap.size, 0, none⟩), .func (.func 26) #[.pointer (some ⟨w.heap.size + 1, 0, none⟩)] #[]] w2 fun e w' => e = .returned (.bool bb) ∧ Var w' (w.heap.size + 1) (sgC w.heap.size s') 50 ∧ Only (fun q => w2.heap.size ≤ q ∨ q = w.heap.size + 1) w2 w') := HW2
  have HP2 : Hid (Var w2 w.heap.size #[.slice a F.ns.length ca, .slice b F.ds.length cb] 30) := hP2
  clear HSH HWA HW2 hP2 hG2 hb2 hy0 hy1 HV HB1
  go_wp2_with fail
  refine HW3.out.mono ?_
  rintro e w3 ⟨rfl, hV3, hO3⟩
  have hP3 := HP2.out.only hO3 (fun h => by omega)
  have hB3 : Below w.heap.size w w3 := hB2.trans (hO3.below hB2.size (fun q h => by omega))
  have hr3 := (HR12.out w3 hB3).1
  have HAL : Hid (Calls Tryd.prog 27 #[.pointer (some ⟨w.heap.size + 1, 0, none⟩)] w3 fun e w' => e = .returned (.bool (alB F s')) ∧ Below w3.heap.size w3 w') := sightAll (w.heap.size + 1) w.heap.size a ca F s' w3 hn10 hls hV3 hP3.lt (hP3.cell 0) hr3
  clear HW3 HP2 hV3 hP3 hr3 HR12 hO3 hB2
  cases bb with
  | false =>
    have HA : Hid (foB F = false) := HFB.out.1 rfl
    clear HAL
    go_wp2
    go_ret
    exact ⟨by rw [HA.out]; rfl, hB3⟩
  | true =>
    have HA : Hid (alB F s' = foB F) := HFB.out.2 rfl
    go_wp2_with fail
    refine HAL.out.mono ?_
    rintro e w4 ⟨rfl, hb4⟩
    have hB4 := hB3.trans (hb4.mono hB3.size)
    go_wp2
    go_ret
    exact ⟨by rw [← HA.out]; rfl, hB4⟩
end Go.Proofs.YthfgfhbinggpfaaDoor
