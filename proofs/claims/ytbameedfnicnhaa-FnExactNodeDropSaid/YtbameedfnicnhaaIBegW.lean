/-
  Own text: a change on a copy of a branch, given back as it was where it was not done.
-/
import Derived.Test.YtbameedfnicnhaaICopyW
import Derived.Test.YtbameedfnicnhaaMuF
import Derived.Defers
import Derived.Recover
namespace Go.Proofs.Ytbameedfnicnhaa
open Go.RowKit

theorem res_fs3 {fn : Func} {p u : Tmp} (h : fn.results = #[.cell p 27, .cell u 4]) (tmps : Array Value) (w : World) (g gb : Nat) (cs : Array Value) (b : Bool) (hs : cs.size = 2)
    (hp : tmps.getD p undef = .pointer (some ⟨g, 0, none⟩)) (hg : Var w g cs 27) (hq : tmps.getD u undef = .pointer (some ⟨gb, 0, none⟩)) (hb : Var w gb #[.bool b] 4) :
    (results fn tmps).run Try.prog w = .ok (.tuple #[.agg cs, .bool b]) w := by
  have hl1 : (loadVar 27 ⟨g, 0, none⟩).run Try.prog w = .ok (.agg cs) w := run_loadVar_row w g 27 27 cs (0, 0) _ hg Try.underlying27 rfl (by rw [hs]; exact Try.sizeFs)
  have hc : w.cell? ⟨gb, 0, none⟩ = some (.bool b) := (hb.cell 0).trans rfl
  have hl2 : (loadVar 4 ⟨gb, 0, none⟩).run Try.prog w = .ok (.bool b) w := by simp [go_sem, loadVar, hc]
  have key : (results fn tmps).run Try.prog w = ((asAddr (tmps.getD p undef)).run Try.prog w).andThen fun a w₁ => ((loadVar 27 a).run Try.prog w₁).andThen fun v w₂ => ((asAddr (tmps.getD u undef)).run Try.prog w₂).andThen fun a' w₃ => ((loadVar 4 a').run Try.prog w₃).andThen fun v' w₄ => .ok (.tuple #[v, v']) w₄ := by
    simp only [results, h]
    simp [Sem.run_bind, Result.andThen]
  rw [key, hp, hq]
  simp [asAddr, hl1, hl2]

set_option maxRecDepth 20000 in
theorem begDone (Pd : Nat) (tf tc : Value) (um : FrameMode) (w : World) (hd : w.cell? ⟨Pd, 0, none⟩ = some (.bool true)) :
    CallsD Try.prog 74 #[.pointer (some ⟨Pd, 0, none⟩), tf, tc] um w fun e u' w' => u' = um ∧ (e = .returned (.tuple #[]) ∧ w' = w) := by
  go_enter_d Try.func74, Try.ntmps74
  go_wp2
  go_end0
  exact ⟨rfl, rfl⟩

set_option maxRecDepth 20000 in
set_option maxHeartbeats 1000000 in
theorem begUndo (Pd Pf Pc P0 : Nat) (c0 c1 : Value) (aa ab : Option Addr) (ca cb : Nat) (F : FsD) (um : FrameMode) (w : World) (hd : w.cell? ⟨Pd, 0, none⟩ = some (.bool false)) (hf : w.cell? ⟨Pf, 0, none⟩ = some (.pointer (some ⟨P0, 0, none⟩))) (hc : Var w Pc #[c0, c1] 27)
    (hsm : SmF F) (hP : P0 < w.heap.size) (hp0 : w.cell? ⟨P0, 0, none⟩ = some (.slice aa F.ns.length ca)) (hp1 : w.cell? ⟨P0, 1, none⟩ = some (.slice ab F.ds.length cb)) (r1 : RdNs w aa F.ns) (r2 : RdS w ab F.ds) :
    CallsD Try.prog 74 #[.pointer (some ⟨Pd, 0, none⟩), .pointer (some ⟨Pf, 0, none⟩), .pointer (some ⟨Pc, 0, none⟩)] um w fun e u' w' => u' = um ∧ (e = .returned (.tuple #[]) ∧ ∃ vn vd, Var w' Pc #[vn, vd] 27 ∧ OwnFs w' w.heap.size w'.heap.size (.agg #[vn, vd]) F ∧ Only (fun q => q = Pc ∨ w.heap.size ≤ q) w w') := by
  have HFR : Hid (Calls Try.prog 75 #[.pointer (some ⟨P0, 0, none⟩)] w fun e w' => ∃ u, e = .returned u ∧ OwnFs w' w.heap.size w'.heap.size u F ∧ Below w.heap.size w w') := implFresh P0 aa ab ca cb F w hsm hP hp0 hp1 r1 r2
  have HC : Hid (Var w Pc #[c0, c1] 27) := hc
  clear hp0 hp1 r1 r2 hsm hc
  go_enter_d Try.func74, Try.ntmps74
  go_wp2_with fail
  refine HFR.out.mono ?_
  rintro e w1 ⟨u, rfl, ho, hb⟩
  obtain ⟨a1, d1, b1, e1, rfl⟩ := ho.lay
  have hC1 := HC.out.new hb
  have x0 := hC1.cell 0
  have x1 := hC1.cell 1
  have z0 := hC1.frozen 0
  have z1 := hC1.frozen 1
  simp at x0 x1
  have hCl := HC.out.lt
  have hV := (hC1.set 0 (.slice a1 F.ns.length d1)).set 1 (.slice b1 F.ds.length e1)
  have hO : Only (fun q => q = Pc) w1 ((w1.setCell ⟨Pc, 0, none⟩ (.slice a1 F.ns.length d1)).setCell ⟨Pc, 1, none⟩ (.slice b1 F.ds.length e1)) := (Only.setCell (S := fun q => q = Pc) (Only.refl _ _) (p := ⟨Pc, 0, none⟩) rfl _).setCell (p := ⟨Pc, 1, none⟩) rfl _
  have HE : Hid (Var ((w1.setCell ⟨Pc, 0, none⟩ (.slice a1 F.ns.length d1)).setCell ⟨Pc, 1, none⟩ (.slice b1 F.ds.length e1)) Pc #[.slice a1 F.ns.length d1, .slice b1 F.ds.length e1] 27 ∧ OwnFs ((w1.setCell ⟨Pc, 0, none⟩ (.slice a1 F.ns.length d1)).setCell ⟨Pc, 1, none⟩ (.slice b1 F.ds.length e1)) w.heap.size ((w1.setCell ⟨Pc, 0, none⟩ (.slice a1 F.ns.length d1)).setCell ⟨Pc, 1, none⟩ (.slice b1 F.ds.length e1)).heap.size (.agg #[.slice a1 F.ns.length d1, .slice b1 F.ds.length e1]) F ∧ Only (fun q => q = Pc ∨ w.heap.size ≤ q) w ((w1.setCell ⟨Pc, 0, none⟩ (.slice a1 F.ns.length d1)).setCell ⟨Pc, 1, none⟩ (.slice b1 F.ds.length e1))) := by
    refine ⟨by simpa using hV, (ho.only hO (fun k h1 _ e => by omega)).hi hO.size, ((Only.of_new hb).trans (hO.mono fun q _ e => .inl e))⟩
  clear hC1 hV hO ho hb
  go_wp2
  go_end0
  exact ⟨rfl, _, _, HE.out⟩

set_option maxRecDepth 20000 in
set_option maxHeartbeats 4000000 in
theorem beginWr (P0 ki kd : Nat) (aa ab : Option Addr) (ca cb : Nat) (F F' : FsD) (ok : Bool) (X : Nat → Prop) (Z : World → Prop) (w : World) (hsm : SmF F) (hP : P0 < w.heap.size) (hX : ∀ q, X q → q < w.heap.size) (hZ : ∀ W W', w.heap.size ≤ W.heap.size → Only (fun q => w.heap.size ≤ q) W W' → Z W → Z W')
    (hF : ∀ W, Only (fun q => w.heap.size ≤ q ∨ X q) w W → W.cell? ⟨P0, 0, none⟩ = some (.slice aa F.ns.length ca) ∧ W.cell? ⟨P0, 1, none⟩ = some (.slice ab F.ds.length cb) ∧ RdNs W aa F.ns ∧ RdS W ab F.ds)
    (hch : ∀ W vn vd, Var W (w.heap.size + 1) #[vn, vd] 27 → OwnFs W (w.heap.size + 3) W.heap.size (.agg #[vn, vd]) F → Below w.heap.size w W → w.heap.size + 3 ≤ W.heap.size →
      Calls Try.prog 35 #[.pointer (some ⟨w.heap.size + 1, 0, none⟩), .pointer (some ⟨ki, 0, none⟩), .pointer (some ⟨kd, 0, none⟩)] W fun e w' => e = .returned (.bool ok) ∧ (ok = true → OwnFs w' (w.heap.size + 3) w'.heap.size (.agg #[vn, vd]) F') ∧ Only (fun q => w.heap.size + 3 ≤ q ∨ X q) W w' ∧ Z w') :
    Calls Try.prog 34 #[.pointer (some ⟨P0, 0, none⟩), .func (.func 35) #[] #[.pointer (some ⟨ki, 0, none⟩), .pointer (some ⟨kd, 0, none⟩)]] w fun e w' => ∃ u, e = .returned (.tuple #[u, .bool ok]) ∧ OwnFs w' w.heap.size w'.heap.size u (if ok = true then F' else F) ∧ Only (fun q => w.heap.size ≤ q ∨ X q) w w' ∧ Z w' := by
  have hmf : ∀ (fn : Fn) (first cap : Array Value) (w : World), (Instr.makeFunc fn first cap).run Try.prog w = .ok (.func fn first cap) w := fun _ _ _ _ => rfl
  have hF0 := hF _ ((Only.of_below (below3 w (.cells #[.pointer (some ⟨P0, 0, none⟩)] 61) (.cells #[.slice none 0 0, .slice none 0 0] 27) (.cells #[.bool false] 4))).mono fun q _ h => .inl h)
  have hz0 : (((w.alloc (.cells #[.pointer (some ⟨P0, 0, none⟩)] 61)).alloc (.cells #[.slice none 0 0, .slice none 0 0] 27)).alloc (.cells #[.bool false] 4)).heap.size = w.heap.size + 3 := by simp
  have hFr := implFresh P0 aa ab ca cb F _ hsm (by rw [hz0]; omega) hF0.1 hF0.2.1 hF0.2.2.1 hF0.2.2.2
  have HB0 : Hid (Below w.heap.size w (((w.alloc (.cells #[.pointer (some ⟨P0, 0, none⟩)] 61)).alloc (.cells #[.slice none 0 0, .slice none 0 0] 27)).alloc (.cells #[.bool false] 4))) := below3 _ _ _ _
  have HVF : Hid (Var (((w.alloc (.cells #[.pointer (some ⟨P0, 0, none⟩)] 61)).alloc (.cells #[.slice none 0 0, .slice none 0 0] 27)).alloc (.cells #[.bool false] 4)) w.heap.size #[.pointer (some ⟨P0, 0, none⟩)] 61) := ((Var.made w _ _).alloc _).alloc _
  have HVC : Hid (Var (((w.alloc (.cells #[.pointer (some ⟨P0, 0, none⟩)] 61)).alloc (.cells #[.slice none 0 0, .slice none 0 0] 27)).alloc (.cells #[.bool false] 4)) (w.heap.size + 1) #[.slice none 0 0, .slice none 0 0] 27) := (Var.made2 w _ _ _).alloc _
  have HVD : Hid (Var (((w.alloc (.cells #[.pointer (some ⟨P0, 0, none⟩)] 61)).alloc (.cells #[.slice none 0 0, .slice none 0 0] 27)).alloc (.cells #[.bool false] 4)) (w.heap.size + 1 + 1) #[.bool false] 4) := Var.made3 w _ _ _ _
  rw [hz0] at hFr
  have HFR : Hid (Calls Try.prog 75 #[.pointer (some ⟨P0, 0, none⟩)] (((w.alloc (.cells #[.pointer (some ⟨P0, 0, none⟩)] 61)).alloc (.cells #[.slice none 0 0, .slice none 0 0] 27)).alloc (.cells #[.bool false] 4)) fun e w' => ∃ u, e = .returned u ∧ OwnFs w' (w.heap.size + 3) w'.heap.size u F ∧ Below (w.heap.size + 3) (((w.alloc (.cells #[.pointer (some ⟨P0, 0, none⟩)] 61)).alloc (.cells #[.slice none 0 0, .slice none 0 0] 27)).alloc (.cells #[.bool false] 4)) w') := hFr
  have HF : Hid (∀ W, Only (fun q => w.heap.size ≤ q ∨ X q) w W → W.cell? ⟨P0, 0, none⟩ = some (.slice aa F.ns.length ca) ∧ W.cell? ⟨P0, 1, none⟩ = some (.slice ab F.ds.length cb) ∧ RdNs W aa F.ns ∧ RdS W ab F.ds) := hF
  have HCH : Hid (∀ W vn vd, Var W (w.heap.size + 1) #[vn, vd] 27 → OwnFs W (w.heap.size + 3) W.heap.size (.agg #[vn, vd]) F → Below w.heap.size w W → w.heap.size + 3 ≤ W.heap.size →
      Calls Try.prog 35 #[.pointer (some ⟨w.heap.size + 1, 0, none⟩), .pointer (some ⟨ki, 0, none⟩), .pointer (some ⟨kd, 0, none⟩)] W fun e w' => e = .returned (.bool ok) ∧ (ok = true → OwnFs w' (w.heap.size + 3) w'.heap.size (.agg #[vn, vd]) F') ∧ Only (fun q => w.heap.size + 3 ≤ q ∨ X q) W w' ∧ Z w') := hch
  have HSM : Hid (SmF F) := hsm
  have HX : Hid (∀ q, X q → q < w.heap.size) := hX
  have HZ : Hid (∀ W W', w.heap.size ≤ W.heap.size → Only (fun q => w.heap.size ≤ q) W W' → Z W → Z W') := hZ
  clear hF0 hFr hF hch hsm hX hZ
  go_enter_defers Try.func34, Try.ntmps34
  go_wp2_with fail
  refine HFR.out.mono ?_
  rintro e w1 ⟨u, rfl, ho, hb⟩
  obtain ⟨a1, c1, b1, e1, rfl⟩ := ho.lay
  have hF1 := HVF.out.below hb (by omega)
  have hC1 := HVC.out.below hb (by omega)
  have hD1 := HVD.out.below hb (by omega)
  have hB1 := HB0.out.trans (hb.mono (by omega))
  have hz1 : w.heap.size + 3 ≤ w1.heap.size := by have := hb.size; omega
  have x0 := hC1.cell 0
  have x1 := hC1.cell 1
  have z0 := hC1.frozen 0
  have z1 := hC1.frozen 1
  simp at x0 x1
  have hO : Only (fun q => q = w.heap.size + 1) w1 ((w1.setCell ⟨w.heap.size + 1, 0, none⟩ (.slice a1 F.ns.length c1)).setCell ⟨w.heap.size + 1, 1, none⟩ (.slice b1 F.ds.length e1)) := (Only.setCell (S := fun q => q = w.heap.size + 1) (Only.refl _ _) (p := ⟨w.heap.size + 1, 0, none⟩) rfl _).setCell (p := ⟨w.heap.size + 1, 1, none⟩) rfl _
  have hV := (hC1.set 0 (.slice a1 F.ns.length c1)).set 1 (.slice b1 F.ds.length e1)
  have hC2 : Var ((w1.setCell ⟨w.heap.size + 1, 0, none⟩ (.slice a1 F.ns.length c1)).setCell ⟨w.heap.size + 1, 1, none⟩ (.slice b1 F.ds.length e1)) (w.heap.size + 1) #[.slice a1 F.ns.length c1, .slice b1 F.ds.length e1] 27 := by simpa using hV
  have hF2 := hF1.only hO (by omega)
  have hD2 := hD1.only hO (by omega)
  have hB2 := hB1.trans (hO.below hB1.size (fun q e => by omega))
  have ho2 := (ho.only hO (fun k h1 _ e => by omega)).hi hO.size
  have hz2 := Nat.le_trans hz1 hO.size
  have HS2 : Hid (Var ((w1.setCell ⟨w.heap.size + 1, 0, none⟩ (.slice a1 F.ns.length c1)).setCell ⟨w.heap.size + 1, 1, none⟩ (.slice b1 F.ds.length e1)) (w.heap.size + 1) #[.slice a1 F.ns.length c1, .slice b1 F.ds.length e1] 27 ∧ OwnFs ((w1.setCell ⟨w.heap.size + 1, 0, none⟩ (.slice a1 F.ns.length c1)).setCell ⟨w.heap.size + 1, 1, none⟩ (.slice b1 F.ds.length e1)) (w.heap.size + 3) ((w1.setCell ⟨w.heap.size + 1, 0, none⟩ (.slice a1 F.ns.length c1)).setCell ⟨w.heap.size + 1, 1, none⟩ (.slice b1 F.ds.length e1)).heap.size (.agg #[.slice a1 F.ns.length c1, .slice b1 F.ds.length e1]) F ∧ Below w.heap.size w ((w1.setCell ⟨w.heap.size + 1, 0, none⟩ (.slice a1 F.ns.length c1)).setCell ⟨w.heap.size + 1, 1, none⟩ (.slice b1 F.ds.length e1)) ∧ w.heap.size + 3 ≤ ((w1.setCell ⟨w.heap.size + 1, 0, none⟩ (.slice a1 F.ns.length c1)).setCell ⟨w.heap.size + 1, 1, none⟩ (.slice b1 F.ds.length e1)).heap.size ∧ Var ((w1.setCell ⟨w.heap.size + 1, 0, none⟩ (.slice a1 F.ns.length c1)).setCell ⟨w.heap.size + 1, 1, none⟩ (.slice b1 F.ds.length e1)) w.heap.size #[.pointer (some ⟨P0, 0, none⟩)] 61 ∧ Var ((w1.setCell ⟨w.heap.size + 1, 0, none⟩ (.slice a1 F.ns.length c1)).setCell ⟨w.heap.size + 1, 1, none⟩ (.slice b1 F.ds.length e1)) (w.heap.size + 1 + 1) #[.bool false] 4) := ⟨hC2, ho2, hB2, hz2, hF2, hD2⟩
  clear hF1 hC1 hD1 hB1 hO hV hC2 hF2 hD2 hB2 ho2 hz2 ho hb HFR HVF HVC HVD HB0
  go_upto_region 3 with fail
  clear x0 x1 z0 z1
  generalize (w1.setCell ⟨w.heap.size + 1, 0, none⟩ (.slice a1 F.ns.length c1)).setCell ⟨w.heap.size + 1, 1, none⟩ (.slice b1 F.ds.length e1) = W2 at *
  go_wp2_with fail
  refine (HCH.out W2 _ _ HS2.out.1 HS2.out.2.1 HS2.out.2.2.1 HS2.out.2.2.2.1).mono ?_
  rintro e W3 ⟨rfl, hown, hon, hz⟩
  have HX1 := HX.out
  have hC3 := HS2.out.1.only hon (fun h => h.elim (fun h => by omega) (fun h => by have := HX1 _ h; omega))
  have hF3 := HS2.out.2.2.2.2.1.only hon (fun h => h.elim (fun h => by omega) (fun h => by have := HX1 _ h; omega))
  have hD3 := HS2.out.2.2.2.2.2.only hon (fun h => h.elim (fun h => by omega) (fun h => by have := HX1 _ h; omega))
  have hO3 : Only (fun q => w.heap.size ≤ q ∨ X q) w W3 := ((Only.of_below HS2.out.2.2.1).mono fun q _ h => .inl h).trans (hon.mono fun q _ h => h.elim (fun h => .inl (by omega)) .inr)
  have hz3 : w.heap.size + 3 ≤ W3.heap.size := by have h1 := HS2.out.2.2.2.1; have h2 := hon.size; omega
  have t0 := hD3.cell 0
  have s0 := hD3.frozen 0
  simp at t0
  have HD4 : Hid (Var (W3.setCell ⟨w.heap.size + 1 + 1, 0, none⟩ (.bool ok)) (w.heap.size + 1 + 1) #[.bool ok] 4) := by show Var _ _ _ _; have := hD3.set 0 (.bool ok); simpa using this
  have hP4 : Only (fun q => q = w.heap.size + 1 + 1) W3 (W3.setCell ⟨w.heap.size + 1 + 1, 0, none⟩ (.bool ok)) := Only.setCell (S := fun q => q = w.heap.size + 1 + 1) (Only.refl _ _) (p := ⟨w.heap.size + 1 + 1, 0, none⟩) rfl _
  have HC4 : Hid (Var (W3.setCell ⟨w.heap.size + 1 + 1, 0, none⟩ (.bool ok)) (w.heap.size + 1) #[.slice a1 F.ns.length c1, .slice b1 F.ds.length e1] 27) := hC3.only hP4 (by omega)
  have HF4 : Hid (Var (W3.setCell ⟨w.heap.size + 1 + 1, 0, none⟩ (.bool ok)) w.heap.size #[.pointer (some ⟨P0, 0, none⟩)] 61) := hF3.only hP4 (by omega)
  have HO4 : Hid (Only (fun q => w.heap.size ≤ q ∨ X q) w (W3.setCell ⟨w.heap.size + 1 + 1, 0, none⟩ (.bool ok))) := hO3.trans (hP4.mono fun q _ e => by left; omega)
  have HW4 : Hid (ok = true → OwnFs (W3.setCell ⟨w.heap.size + 1 + 1, 0, none⟩ (.bool ok)) (w.heap.size + 3) (W3.setCell ⟨w.heap.size + 1 + 1, 0, none⟩ (.bool ok)).heap.size (.agg #[.slice a1 F.ns.length c1, .slice b1 F.ds.length e1]) F') := fun h => ((hown h).only hP4 (fun k h1 _ e => by omega)).hi hP4.size
  have hz4 := Nat.le_trans hz3 hP4.size
  have HZ4 : Hid (Z (W3.setCell ⟨w.heap.size + 1 + 1, 0, none⟩ (.bool ok))) := HZ.out _ _ (by omega) (hP4.mono fun q _ e => by omega) hz
  clear hz hC3 hF3 hD3 hO3 hz3 hP4 hown hon HS2 HCH HX1 HX
  go_upto_region 4 with fail
  clear t0 s0
  generalize W3.setCell ⟨w.heap.size + 1 + 1, 0, none⟩ (.bool ok) = W4 at *
  have x0 := HC4.out.cell 0
  have x1 := HC4.out.cell 1
  have z0 := HC4.out.frozen 0
  have z1 := HC4.out.frozen 1
  have t0 := HD4.out.cell 0
  have s0 := HD4.out.frozen 0
  simp at x0 x1 t0
  have hv5 := ((HC4.out.set 0 (.slice a1 F.ns.length c1)).set 1 (.slice b1 F.ds.length e1))
  simp at hv5
  have hO5 : Only (fun q => q = w.heap.size + 1) W4 ((W4.setCell ⟨w.heap.size + 1, 0, none⟩ (.slice a1 F.ns.length c1)).setCell ⟨w.heap.size + 1, 1, none⟩ (.slice b1 F.ds.length e1)) := (Only.setCell (S := fun q => q = w.heap.size + 1) (Only.refl _ _) (p := ⟨w.heap.size + 1, 0, none⟩) rfl _).setCell (p := ⟨w.heap.size + 1, 1, none⟩) rfl _
  have hd5 := (HD4.out.only hO5 (by omega)).set 0 (.bool ok)
  simp at hd5
  have hO6 : Only (fun q => q = w.heap.size + 1 + 1) ((W4.setCell ⟨w.heap.size + 1, 0, none⟩ (.slice a1 F.ns.length c1)).setCell ⟨w.heap.size + 1, 1, none⟩ (.slice b1 F.ds.length e1)) (((W4.setCell ⟨w.heap.size + 1, 0, none⟩ (.slice a1 F.ns.length c1)).setCell ⟨w.heap.size + 1, 1, none⟩ (.slice b1 F.ds.length e1)).setCell ⟨w.heap.size + 1 + 1, 0, none⟩ (.bool ok)) := Only.setCell (S := fun q => q = w.heap.size + 1 + 1) (Only.refl _ _) (p := ⟨w.heap.size + 1 + 1, 0, none⟩) rfl _
  have hO7 : Only (fun q => q = w.heap.size + 1 ∨ q = w.heap.size + 1 + 1) W4 (((W4.setCell ⟨w.heap.size + 1, 0, none⟩ (.slice a1 F.ns.length c1)).setCell ⟨w.heap.size + 1, 1, none⟩ (.slice b1 F.ds.length e1)).setCell ⟨w.heap.size + 1 + 1, 0, none⟩ (.bool ok)).drew := ((hO5.mono fun q _ e => .inl e).trans (hO6.mono fun q _ e => .inr e)).trans (Only.of_new ((Below.refl _ _).drew))
  have HC5 : Hid (Var (((W4.setCell ⟨w.heap.size + 1, 0, none⟩ (.slice a1 F.ns.length c1)).setCell ⟨w.heap.size + 1, 1, none⟩ (.slice b1 F.ds.length e1)).setCell ⟨w.heap.size + 1 + 1, 0, none⟩ (.bool ok)).drew (w.heap.size + 1) #[.slice a1 F.ns.length c1, .slice b1 F.ds.length e1] 27) := (hv5.only hO6 (by omega)).new ((Below.refl _ _).drew)
  have HD5 : Hid (Var (((W4.setCell ⟨w.heap.size + 1, 0, none⟩ (.slice a1 F.ns.length c1)).setCell ⟨w.heap.size + 1, 1, none⟩ (.slice b1 F.ds.length e1)).setCell ⟨w.heap.size + 1 + 1, 0, none⟩ (.bool ok)).drew (w.heap.size + 1 + 1) #[.bool ok] 4) := hd5.new ((Below.refl _ _).drew)
  have HF5 : Hid (Var (((W4.setCell ⟨w.heap.size + 1, 0, none⟩ (.slice a1 F.ns.length c1)).setCell ⟨w.heap.size + 1, 1, none⟩ (.slice b1 F.ds.length e1)).setCell ⟨w.heap.size + 1 + 1, 0, none⟩ (.bool ok)).drew w.heap.size #[.pointer (some ⟨P0, 0, none⟩)] 61) := HF4.out.only hO7 (by omega)
  have HO5 : Hid (Only (fun q => w.heap.size ≤ q ∨ X q) w (((W4.setCell ⟨w.heap.size + 1, 0, none⟩ (.slice a1 F.ns.length c1)).setCell ⟨w.heap.size + 1, 1, none⟩ (.slice b1 F.ds.length e1)).setCell ⟨w.heap.size + 1 + 1, 0, none⟩ (.bool ok)).drew) := HO4.out.trans (hO7.mono fun q _ e => by left; omega)
  have HW5 : Hid (ok = true → OwnFs (((W4.setCell ⟨w.heap.size + 1, 0, none⟩ (.slice a1 F.ns.length c1)).setCell ⟨w.heap.size + 1, 1, none⟩ (.slice b1 F.ds.length e1)).setCell ⟨w.heap.size + 1 + 1, 0, none⟩ (.bool ok)).drew (w.heap.size + 3) ((((W4.setCell ⟨w.heap.size + 1, 0, none⟩ (.slice a1 F.ns.length c1)).setCell ⟨w.heap.size + 1, 1, none⟩ (.slice b1 F.ds.length e1)).setCell ⟨w.heap.size + 1 + 1, 0, none⟩ (.bool ok)).drew).heap.size (.agg #[.slice a1 F.ns.length c1, .slice b1 F.ds.length e1]) F') := fun h => ((HW4.out h).only hO7 (fun k h1 _ e => by omega)).hi hO7.size
  have hz5 := Nat.le_trans hz4 hO7.size
  have HZ5 : Hid (Z (((W4.setCell ⟨w.heap.size + 1, 0, none⟩ (.slice a1 F.ns.length c1)).setCell ⟨w.heap.size + 1, 1, none⟩ (.slice b1 F.ds.length e1)).setCell ⟨w.heap.size + 1 + 1, 0, none⟩ (.bool ok)).drew) := HZ.out _ _ (by omega) (hO7.mono fun q _ e => by omega) HZ4.out
  clear hv5 hO5 hd5 hO6 hO7 HC4 HD4 HF4 HO4 HW4 hz4 HZ4
  go_region
  clear x0 x1 z0 z1 t0 s0
  generalize (((W4.setCell ⟨w.heap.size + 1, 0, none⟩ (.slice a1 F.ns.length c1)).setCell ⟨w.heap.size + 1, 1, none⟩ (.slice b1 F.ds.length e1)).setCell ⟨w.heap.size + 1 + 1, 0, none⟩ (.bool ok)).drew = W6 at *
  have x0 := HC5.out.cell 0
  have x1 := HC5.out.cell 1
  have z0 := HC5.out.frozen 0
  have z1 := HC5.out.frozen 1
  have t0 := HD5.out.cell 0
  have y0 := HF5.out.cell 0
  simp at x0 x1 t0 y0
  cases ok with
  | true =>
    clear x0 x1 z0 z1 y0
    go_wp2
    refine leaves_cons (f := 74) (args := #[.pointer (some ⟨w.heap.size + 1 + 1, 0, none⟩), .pointer (some ⟨w.heap.size, 0, none⟩), .pointer (some ⟨w.heap.size + 1, 0, none⟩)]) (by simp) (by simp [go_sem]) ?_
    refine (begDone (w.heap.size + 1 + 1) (.pointer (some ⟨w.heap.size, 0, none⟩)) (.pointer (some ⟨w.heap.size + 1, 0, none⟩)) .returning W6 t0).mono ?_
    rintro e u' w'' ⟨rfl, rfl, hw⟩
    subst w''
    simp [Leaves, settle, go_sem]
    exact ⟨_, res_fs3 rfl _ _ (w.heap.size + 1) (w.heap.size + 1 + 1) #[.slice a1 F.ns.length c1, .slice b1 F.ds.length e1] true rfl rfl HC5.out rfl HD5.out, _, rfl, (HW5.out (by first | trivial | rfl)).base (by omega), HO5.out, HZ5.out⟩
  | false =>
    obtain ⟨f0, f1, f2, f3⟩ := HF.out W6 HO5.out
    clear x0 x1 z0 z1
    go_wp2
    refine leaves_cons (f := 74) (args := #[.pointer (some ⟨w.heap.size + 1 + 1, 0, none⟩), .pointer (some ⟨w.heap.size, 0, none⟩), .pointer (some ⟨w.heap.size + 1, 0, none⟩)]) (by simp) (by simp [go_sem]) ?_
    refine (begUndo (w.heap.size + 1 + 1) w.heap.size (w.heap.size + 1) P0 _ _ aa ab ca cb F .returning W6 t0 y0 HC5.out HSM.out (by have := HO5.out.size; omega) f0 f1 f2 f3).mono ?_
    rintro e u' w'' ⟨rfl, rfl, vn, vd, hvc, hov, hon⟩
    have HD6 : Hid (Var w'' (w.heap.size + 1 + 1) #[.bool false] 4) := HD5.out.only hon (by omega)
    have HV6 : Hid (Var w'' (w.heap.size + 1) #[vn, vd] 27) := hvc
    have HO6 : Hid (OwnFs w'' w.heap.size w''.heap.size (.agg #[vn, vd]) F) := hov.base (by omega)
    have HO7 : Hid (Only (fun q => w.heap.size ≤ q ∨ X q) w w'') := HO5.out.trans (hon.mono fun q _ h => by left; omega)
    have HZ7 : Hid (Z w'') := HZ.out _ _ (by omega) (hon.mono fun q _ h => by omega) HZ5.out
    clear hvc hov hon
    simp [Leaves, settle, go_sem]
    exact ⟨_, res_fs3 rfl _ _ (w.heap.size + 1) (w.heap.size + 1 + 1) #[vn, vd] false rfl rfl HV6.out rfl HD6.out, _, rfl, HO6.out, HO7.out, HZ7.out⟩

set_option maxRecDepth 20000 in
set_option maxHeartbeats 4000000 in
theorem beginMk (P0 kk km : Nat) (aa ab : Option Addr) (ca cb : Nat) (F F' : FsD) (ok : Bool) (X : Nat → Prop) (Z : World → Prop) (w : World) (hsm : SmF F) (hP : P0 < w.heap.size) (hX : ∀ q, X q → q < w.heap.size) (hZ : ∀ W W', w.heap.size ≤ W.heap.size → Only (fun q => w.heap.size ≤ q) W W' → Z W → Z W')
    (hF : ∀ W, Only (fun q => w.heap.size ≤ q ∨ X q) w W → W.cell? ⟨P0, 0, none⟩ = some (.slice aa F.ns.length ca) ∧ W.cell? ⟨P0, 1, none⟩ = some (.slice ab F.ds.length cb) ∧ RdNs W aa F.ns ∧ RdS W ab F.ds)
    (hch : ∀ W vn vd, Var W (w.heap.size + 1) #[vn, vd] 27 → OwnFs W (w.heap.size + 3) W.heap.size (.agg #[vn, vd]) F → Below w.heap.size w W → w.heap.size + 3 ≤ W.heap.size →
      Calls Try.prog 52 #[.pointer (some ⟨w.heap.size + 1, 0, none⟩), .pointer (some ⟨kk, 0, none⟩), .pointer (some ⟨km, 0, none⟩)] W fun e w' => e = .returned (.bool ok) ∧ (ok = true → OwnFs w' (w.heap.size + 3) w'.heap.size (.agg #[vn, vd]) F') ∧ Only (fun q => w.heap.size + 3 ≤ q ∨ X q) W w' ∧ Z w') :
    Calls Try.prog 34 #[.pointer (some ⟨P0, 0, none⟩), .func (.func 52) #[] #[.pointer (some ⟨kk, 0, none⟩), .pointer (some ⟨km, 0, none⟩)]] w fun e w' => ∃ u, e = .returned (.tuple #[u, .bool ok]) ∧ OwnFs w' w.heap.size w'.heap.size u (if ok = true then F' else F) ∧ Only (fun q => w.heap.size ≤ q ∨ X q) w w' ∧ Z w' := by
  have hmf : ∀ (fn : Fn) (first cap : Array Value) (w : World), (Instr.makeFunc fn first cap).run Try.prog w = .ok (.func fn first cap) w := fun _ _ _ _ => rfl
  have hF0 := hF _ ((Only.of_below (below3 w (.cells #[.pointer (some ⟨P0, 0, none⟩)] 61) (.cells #[.slice none 0 0, .slice none 0 0] 27) (.cells #[.bool false] 4))).mono fun q _ h => .inl h)
  have hz0 : (((w.alloc (.cells #[.pointer (some ⟨P0, 0, none⟩)] 61)).alloc (.cells #[.slice none 0 0, .slice none 0 0] 27)).alloc (.cells #[.bool false] 4)).heap.size = w.heap.size + 3 := by simp
  have hFr := implFresh P0 aa ab ca cb F _ hsm (by rw [hz0]; omega) hF0.1 hF0.2.1 hF0.2.2.1 hF0.2.2.2
  have HB0 : Hid (Below w.heap.size w (((w.alloc (.cells #[.pointer (some ⟨P0, 0, none⟩)] 61)).alloc (.cells #[.slice none 0 0, .slice none 0 0] 27)).alloc (.cells #[.bool false] 4))) := below3 _ _ _ _
  have HVF : Hid (Var (((w.alloc (.cells #[.pointer (some ⟨P0, 0, none⟩)] 61)).alloc (.cells #[.slice none 0 0, .slice none 0 0] 27)).alloc (.cells #[.bool false] 4)) w.heap.size #[.pointer (some ⟨P0, 0, none⟩)] 61) := ((Var.made w _ _).alloc _).alloc _
  have HVC : Hid (Var (((w.alloc (.cells #[.pointer (some ⟨P0, 0, none⟩)] 61)).alloc (.cells #[.slice none 0 0, .slice none 0 0] 27)).alloc (.cells #[.bool false] 4)) (w.heap.size + 1) #[.slice none 0 0, .slice none 0 0] 27) := (Var.made2 w _ _ _).alloc _
  have HVD : Hid (Var (((w.alloc (.cells #[.pointer (some ⟨P0, 0, none⟩)] 61)).alloc (.cells #[.slice none 0 0, .slice none 0 0] 27)).alloc (.cells #[.bool false] 4)) (w.heap.size + 1 + 1) #[.bool false] 4) := Var.made3 w _ _ _ _
  rw [hz0] at hFr
  have HFR : Hid (Calls Try.prog 75 #[.pointer (some ⟨P0, 0, none⟩)] (((w.alloc (.cells #[.pointer (some ⟨P0, 0, none⟩)] 61)).alloc (.cells #[.slice none 0 0, .slice none 0 0] 27)).alloc (.cells #[.bool false] 4)) fun e w' => ∃ u, e = .returned u ∧ OwnFs w' (w.heap.size + 3) w'.heap.size u F ∧ Below (w.heap.size + 3) (((w.alloc (.cells #[.pointer (some ⟨P0, 0, none⟩)] 61)).alloc (.cells #[.slice none 0 0, .slice none 0 0] 27)).alloc (.cells #[.bool false] 4)) w') := hFr
  have HF : Hid (∀ W, Only (fun q => w.heap.size ≤ q ∨ X q) w W → W.cell? ⟨P0, 0, none⟩ = some (.slice aa F.ns.length ca) ∧ W.cell? ⟨P0, 1, none⟩ = some (.slice ab F.ds.length cb) ∧ RdNs W aa F.ns ∧ RdS W ab F.ds) := hF
  have HCH : Hid (∀ W vn vd, Var W (w.heap.size + 1) #[vn, vd] 27 → OwnFs W (w.heap.size + 3) W.heap.size (.agg #[vn, vd]) F → Below w.heap.size w W → w.heap.size + 3 ≤ W.heap.size →
      Calls Try.prog 52 #[.pointer (some ⟨w.heap.size + 1, 0, none⟩), .pointer (some ⟨kk, 0, none⟩), .pointer (some ⟨km, 0, none⟩)] W fun e w' => e = .returned (.bool ok) ∧ (ok = true → OwnFs w' (w.heap.size + 3) w'.heap.size (.agg #[vn, vd]) F') ∧ Only (fun q => w.heap.size + 3 ≤ q ∨ X q) W w' ∧ Z w') := hch
  have HSM : Hid (SmF F) := hsm
  have HX : Hid (∀ q, X q → q < w.heap.size) := hX
  have HZ : Hid (∀ W W', w.heap.size ≤ W.heap.size → Only (fun q => w.heap.size ≤ q) W W' → Z W → Z W') := hZ
  clear hF0 hFr hF hch hsm hX hZ
  go_enter_defers Try.func34, Try.ntmps34
  go_wp2_with fail
  refine HFR.out.mono ?_
  rintro e w1 ⟨u, rfl, ho, hb⟩
  obtain ⟨a1, c1, b1, e1, rfl⟩ := ho.lay
  have hF1 := HVF.out.below hb (by omega)
  have hC1 := HVC.out.below hb (by omega)
  have hD1 := HVD.out.below hb (by omega)
  have hB1 := HB0.out.trans (hb.mono (by omega))
  have hz1 : w.heap.size + 3 ≤ w1.heap.size := by have := hb.size; omega
  have x0 := hC1.cell 0
  have x1 := hC1.cell 1
  have z0 := hC1.frozen 0
  have z1 := hC1.frozen 1
  simp at x0 x1
  have hO : Only (fun q => q = w.heap.size + 1) w1 ((w1.setCell ⟨w.heap.size + 1, 0, none⟩ (.slice a1 F.ns.length c1)).setCell ⟨w.heap.size + 1, 1, none⟩ (.slice b1 F.ds.length e1)) := (Only.setCell (S := fun q => q = w.heap.size + 1) (Only.refl _ _) (p := ⟨w.heap.size + 1, 0, none⟩) rfl _).setCell (p := ⟨w.heap.size + 1, 1, none⟩) rfl _
  have hV := (hC1.set 0 (.slice a1 F.ns.length c1)).set 1 (.slice b1 F.ds.length e1)
  have hC2 : Var ((w1.setCell ⟨w.heap.size + 1, 0, none⟩ (.slice a1 F.ns.length c1)).setCell ⟨w.heap.size + 1, 1, none⟩ (.slice b1 F.ds.length e1)) (w.heap.size + 1) #[.slice a1 F.ns.length c1, .slice b1 F.ds.length e1] 27 := by simpa using hV
  have hF2 := hF1.only hO (by omega)
  have hD2 := hD1.only hO (by omega)
  have hB2 := hB1.trans (hO.below hB1.size (fun q e => by omega))
  have ho2 := (ho.only hO (fun k h1 _ e => by omega)).hi hO.size
  have hz2 := Nat.le_trans hz1 hO.size
  have HS2 : Hid (Var ((w1.setCell ⟨w.heap.size + 1, 0, none⟩ (.slice a1 F.ns.length c1)).setCell ⟨w.heap.size + 1, 1, none⟩ (.slice b1 F.ds.length e1)) (w.heap.size + 1) #[.slice a1 F.ns.length c1, .slice b1 F.ds.length e1] 27 ∧ OwnFs ((w1.setCell ⟨w.heap.size + 1, 0, none⟩ (.slice a1 F.ns.length c1)).setCell ⟨w.heap.size + 1, 1, none⟩ (.slice b1 F.ds.length e1)) (w.heap.size + 3) ((w1.setCell ⟨w.heap.size + 1, 0, none⟩ (.slice a1 F.ns.length c1)).setCell ⟨w.heap.size + 1, 1, none⟩ (.slice b1 F.ds.length e1)).heap.size (.agg #[.slice a1 F.ns.length c1, .slice b1 F.ds.length e1]) F ∧ Below w.heap.size w ((w1.setCell ⟨w.heap.size + 1, 0, none⟩ (.slice a1 F.ns.length c1)).setCell ⟨w.heap.size + 1, 1, none⟩ (.slice b1 F.ds.length e1)) ∧ w.heap.size + 3 ≤ ((w1.setCell ⟨w.heap.size + 1, 0, none⟩ (.slice a1 F.ns.length c1)).setCell ⟨w.heap.size + 1, 1, none⟩ (.slice b1 F.ds.length e1)).heap.size ∧ Var ((w1.setCell ⟨w.heap.size + 1, 0, none⟩ (.slice a1 F.ns.length c1)).setCell ⟨w.heap.size + 1, 1, none⟩ (.slice b1 F.ds.length e1)) w.heap.size #[.pointer (some ⟨P0, 0, none⟩)] 61 ∧ Var ((w1.setCell ⟨w.heap.size + 1, 0, none⟩ (.slice a1 F.ns.length c1)).setCell ⟨w.heap.size + 1, 1, none⟩ (.slice b1 F.ds.length e1)) (w.heap.size + 1 + 1) #[.bool false] 4) := ⟨hC2, ho2, hB2, hz2, hF2, hD2⟩
  clear hF1 hC1 hD1 hB1 hO hV hC2 hF2 hD2 hB2 ho2 hz2 ho hb HFR HVF HVC HVD HB0
  go_upto_region 3 with fail
  clear x0 x1 z0 z1
  generalize (w1.setCell ⟨w.heap.size + 1, 0, none⟩ (.slice a1 F.ns.length c1)).setCell ⟨w.heap.size + 1, 1, none⟩ (.slice b1 F.ds.length e1) = W2 at *
  go_wp2_with fail
  refine (HCH.out W2 _ _ HS2.out.1 HS2.out.2.1 HS2.out.2.2.1 HS2.out.2.2.2.1).mono ?_
  rintro e W3 ⟨rfl, hown, hon, hz⟩
  have HX1 := HX.out
  have hC3 := HS2.out.1.only hon (fun h => h.elim (fun h => by omega) (fun h => by have := HX1 _ h; omega))
  have hF3 := HS2.out.2.2.2.2.1.only hon (fun h => h.elim (fun h => by omega) (fun h => by have := HX1 _ h; omega))
  have hD3 := HS2.out.2.2.2.2.2.only hon (fun h => h.elim (fun h => by omega) (fun h => by have := HX1 _ h; omega))
  have hO3 : Only (fun q => w.heap.size ≤ q ∨ X q) w W3 := ((Only.of_below HS2.out.2.2.1).mono fun q _ h => .inl h).trans (hon.mono fun q _ h => h.elim (fun h => .inl (by omega)) .inr)
  have hz3 : w.heap.size + 3 ≤ W3.heap.size := by have h1 := HS2.out.2.2.2.1; have h2 := hon.size; omega
  have t0 := hD3.cell 0
  have s0 := hD3.frozen 0
  simp at t0
  have HD4 : Hid (Var (W3.setCell ⟨w.heap.size + 1 + 1, 0, none⟩ (.bool ok)) (w.heap.size + 1 + 1) #[.bool ok] 4) := by show Var _ _ _ _; have := hD3.set 0 (.bool ok); simpa using this
  have hP4 : Only (fun q => q = w.heap.size + 1 + 1) W3 (W3.setCell ⟨w.heap.size + 1 + 1, 0, none⟩ (.bool ok)) := Only.setCell (S := fun q => q = w.heap.size + 1 + 1) (Only.refl _ _) (p := ⟨w.heap.size + 1 + 1, 0, none⟩) rfl _
  have HC4 : Hid (Var (W3.setCell ⟨w.heap.size + 1 + 1, 0, none⟩ (.bool ok)) (w.heap.size + 1) #[.slice a1 F.ns.length c1, .slice b1 F.ds.length e1] 27) := hC3.only hP4 (by omega)
  have HF4 : Hid (Var (W3.setCell ⟨w.heap.size + 1 + 1, 0, none⟩ (.bool ok)) w.heap.size #[.pointer (some ⟨P0, 0, none⟩)] 61) := hF3.only hP4 (by omega)
  have HO4 : Hid (Only (fun q => w.heap.size ≤ q ∨ X q) w (W3.setCell ⟨w.heap.size + 1 + 1, 0, none⟩ (.bool ok))) := hO3.trans (hP4.mono fun q _ e => by left; omega)
  have HW4 : Hid (ok = true → OwnFs (W3.setCell ⟨w.heap.size + 1 + 1, 0, none⟩ (.bool ok)) (w.heap.size + 3) (W3.setCell ⟨w.heap.size + 1 + 1, 0, none⟩ (.bool ok)).heap.size (.agg #[.slice a1 F.ns.length c1, .slice b1 F.ds.length e1]) F') := fun h => ((hown h).only hP4 (fun k h1 _ e => by omega)).hi hP4.size
  have hz4 := Nat.le_trans hz3 hP4.size
  have HZ4 : Hid (Z (W3.setCell ⟨w.heap.size + 1 + 1, 0, none⟩ (.bool ok))) := HZ.out _ _ (by omega) (hP4.mono fun q _ e => by omega) hz
  clear hz hC3 hF3 hD3 hO3 hz3 hP4 hown hon HS2 HCH HX1 HX
  go_upto_region 4 with fail
  clear t0 s0
  generalize W3.setCell ⟨w.heap.size + 1 + 1, 0, none⟩ (.bool ok) = W4 at *
  have x0 := HC4.out.cell 0
  have x1 := HC4.out.cell 1
  have z0 := HC4.out.frozen 0
  have z1 := HC4.out.frozen 1
  have t0 := HD4.out.cell 0
  have s0 := HD4.out.frozen 0
  simp at x0 x1 t0
  have hv5 := ((HC4.out.set 0 (.slice a1 F.ns.length c1)).set 1 (.slice b1 F.ds.length e1))
  simp at hv5
  have hO5 : Only (fun q => q = w.heap.size + 1) W4 ((W4.setCell ⟨w.heap.size + 1, 0, none⟩ (.slice a1 F.ns.length c1)).setCell ⟨w.heap.size + 1, 1, none⟩ (.slice b1 F.ds.length e1)) := (Only.setCell (S := fun q => q = w.heap.size + 1) (Only.refl _ _) (p := ⟨w.heap.size + 1, 0, none⟩) rfl _).setCell (p := ⟨w.heap.size + 1, 1, none⟩) rfl _
  have hd5 := (HD4.out.only hO5 (by omega)).set 0 (.bool ok)
  simp at hd5
  have hO6 : Only (fun q => q = w.heap.size + 1 + 1) ((W4.setCell ⟨w.heap.size + 1, 0, none⟩ (.slice a1 F.ns.length c1)).setCell ⟨w.heap.size + 1, 1, none⟩ (.slice b1 F.ds.length e1)) (((W4.setCell ⟨w.heap.size + 1, 0, none⟩ (.slice a1 F.ns.length c1)).setCell ⟨w.heap.size + 1, 1, none⟩ (.slice b1 F.ds.length e1)).setCell ⟨w.heap.size + 1 + 1, 0, none⟩ (.bool ok)) := Only.setCell (S := fun q => q = w.heap.size + 1 + 1) (Only.refl _ _) (p := ⟨w.heap.size + 1 + 1, 0, none⟩) rfl _
  have hO7 : Only (fun q => q = w.heap.size + 1 ∨ q = w.heap.size + 1 + 1) W4 (((W4.setCell ⟨w.heap.size + 1, 0, none⟩ (.slice a1 F.ns.length c1)).setCell ⟨w.heap.size + 1, 1, none⟩ (.slice b1 F.ds.length e1)).setCell ⟨w.heap.size + 1 + 1, 0, none⟩ (.bool ok)).drew := ((hO5.mono fun q _ e => .inl e).trans (hO6.mono fun q _ e => .inr e)).trans (Only.of_new ((Below.refl _ _).drew))
  have HC5 : Hid (Var (((W4.setCell ⟨w.heap.size + 1, 0, none⟩ (.slice a1 F.ns.length c1)).setCell ⟨w.heap.size + 1, 1, none⟩ (.slice b1 F.ds.length e1)).setCell ⟨w.heap.size + 1 + 1, 0, none⟩ (.bool ok)).drew (w.heap.size + 1) #[.slice a1 F.ns.length c1, .slice b1 F.ds.length e1] 27) := (hv5.only hO6 (by omega)).new ((Below.refl _ _).drew)
  have HD5 : Hid (Var (((W4.setCell ⟨w.heap.size + 1, 0, none⟩ (.slice a1 F.ns.length c1)).setCell ⟨w.heap.size + 1, 1, none⟩ (.slice b1 F.ds.length e1)).setCell ⟨w.heap.size + 1 + 1, 0, none⟩ (.bool ok)).drew (w.heap.size + 1 + 1) #[.bool ok] 4) := hd5.new ((Below.refl _ _).drew)
  have HF5 : Hid (Var (((W4.setCell ⟨w.heap.size + 1, 0, none⟩ (.slice a1 F.ns.length c1)).setCell ⟨w.heap.size + 1, 1, none⟩ (.slice b1 F.ds.length e1)).setCell ⟨w.heap.size + 1 + 1, 0, none⟩ (.bool ok)).drew w.heap.size #[.pointer (some ⟨P0, 0, none⟩)] 61) := HF4.out.only hO7 (by omega)
  have HO5 : Hid (Only (fun q => w.heap.size ≤ q ∨ X q) w (((W4.setCell ⟨w.heap.size + 1, 0, none⟩ (.slice a1 F.ns.length c1)).setCell ⟨w.heap.size + 1, 1, none⟩ (.slice b1 F.ds.length e1)).setCell ⟨w.heap.size + 1 + 1, 0, none⟩ (.bool ok)).drew) := HO4.out.trans (hO7.mono fun q _ e => by left; omega)
  have HW5 : Hid (ok = true → OwnFs (((W4.setCell ⟨w.heap.size + 1, 0, none⟩ (.slice a1 F.ns.length c1)).setCell ⟨w.heap.size + 1, 1, none⟩ (.slice b1 F.ds.length e1)).setCell ⟨w.heap.size + 1 + 1, 0, none⟩ (.bool ok)).drew (w.heap.size + 3) ((((W4.setCell ⟨w.heap.size + 1, 0, none⟩ (.slice a1 F.ns.length c1)).setCell ⟨w.heap.size + 1, 1, none⟩ (.slice b1 F.ds.length e1)).setCell ⟨w.heap.size + 1 + 1, 0, none⟩ (.bool ok)).drew).heap.size (.agg #[.slice a1 F.ns.length c1, .slice b1 F.ds.length e1]) F') := fun h => ((HW4.out h).only hO7 (fun k h1 _ e => by omega)).hi hO7.size
  have hz5 := Nat.le_trans hz4 hO7.size
  have HZ5 : Hid (Z (((W4.setCell ⟨w.heap.size + 1, 0, none⟩ (.slice a1 F.ns.length c1)).setCell ⟨w.heap.size + 1, 1, none⟩ (.slice b1 F.ds.length e1)).setCell ⟨w.heap.size + 1 + 1, 0, none⟩ (.bool ok)).drew) := HZ.out _ _ (by omega) (hO7.mono fun q _ e => by omega) HZ4.out
  clear hv5 hO5 hd5 hO6 hO7 HC4 HD4 HF4 HO4 HW4 hz4 HZ4
  go_region
  clear x0 x1 z0 z1 t0 s0
  generalize (((W4.setCell ⟨w.heap.size + 1, 0, none⟩ (.slice a1 F.ns.length c1)).setCell ⟨w.heap.size + 1, 1, none⟩ (.slice b1 F.ds.length e1)).setCell ⟨w.heap.size + 1 + 1, 0, none⟩ (.bool ok)).drew = W6 at *
  have x0 := HC5.out.cell 0
  have x1 := HC5.out.cell 1
  have z0 := HC5.out.frozen 0
  have z1 := HC5.out.frozen 1
  have t0 := HD5.out.cell 0
  have y0 := HF5.out.cell 0
  simp at x0 x1 t0 y0
  cases ok with
  | true =>
    clear x0 x1 z0 z1 y0
    go_wp2
    refine leaves_cons (f := 74) (args := #[.pointer (some ⟨w.heap.size + 1 + 1, 0, none⟩), .pointer (some ⟨w.heap.size, 0, none⟩), .pointer (some ⟨w.heap.size + 1, 0, none⟩)]) (by simp) (by simp [go_sem]) ?_
    refine (begDone (w.heap.size + 1 + 1) (.pointer (some ⟨w.heap.size, 0, none⟩)) (.pointer (some ⟨w.heap.size + 1, 0, none⟩)) .returning W6 t0).mono ?_
    rintro e u' w'' ⟨rfl, rfl, hw⟩
    subst w''
    simp [Leaves, settle, go_sem]
    exact ⟨_, res_fs3 rfl _ _ (w.heap.size + 1) (w.heap.size + 1 + 1) #[.slice a1 F.ns.length c1, .slice b1 F.ds.length e1] true rfl rfl HC5.out rfl HD5.out, _, rfl, (HW5.out (by first | trivial | rfl)).base (by omega), HO5.out, HZ5.out⟩
  | false =>
    obtain ⟨f0, f1, f2, f3⟩ := HF.out W6 HO5.out
    clear x0 x1 z0 z1
    go_wp2
    refine leaves_cons (f := 74) (args := #[.pointer (some ⟨w.heap.size + 1 + 1, 0, none⟩), .pointer (some ⟨w.heap.size, 0, none⟩), .pointer (some ⟨w.heap.size + 1, 0, none⟩)]) (by simp) (by simp [go_sem]) ?_
    refine (begUndo (w.heap.size + 1 + 1) w.heap.size (w.heap.size + 1) P0 _ _ aa ab ca cb F .returning W6 t0 y0 HC5.out HSM.out (by have := HO5.out.size; omega) f0 f1 f2 f3).mono ?_
    rintro e u' w'' ⟨rfl, rfl, vn, vd, hvc, hov, hon⟩
    have HD6 : Hid (Var w'' (w.heap.size + 1 + 1) #[.bool false] 4) := HD5.out.only hon (by omega)
    have HV6 : Hid (Var w'' (w.heap.size + 1) #[vn, vd] 27) := hvc
    have HO6 : Hid (OwnFs w'' w.heap.size w''.heap.size (.agg #[vn, vd]) F) := hov.base (by omega)
    have HO7 : Hid (Only (fun q => w.heap.size ≤ q ∨ X q) w w'') := HO5.out.trans (hon.mono fun q _ h => by left; omega)
    have HZ7 : Hid (Z w'') := HZ.out _ _ (by omega) (hon.mono fun q _ h => by omega) HZ5.out
    clear hvc hov hon
    simp [Leaves, settle, go_sem]
    exact ⟨_, res_fs3 rfl _ _ (w.heap.size + 1) (w.heap.size + 1 + 1) #[vn, vd] false rfl rfl HV6.out rfl HD6.out, _, rfl, HO6.out, HO7.out, HZ7.out⟩

set_option maxRecDepth 20000 in
set_option maxHeartbeats 4000000 in
theorem beginDp (P0 ki : Nat) (aa ab : Option Addr) (ca cb : Nat) (F F' : FsD) (ok : Bool) (X : Nat → Prop) (Z : World → Prop) (w : World) (hsm : SmF F) (hP : P0 < w.heap.size) (hX : ∀ q, X q → q < w.heap.size) (hZ : ∀ W W', w.heap.size ≤ W.heap.size → Only (fun q => w.heap.size ≤ q) W W' → Z W → Z W')
    (hF : ∀ W, Only (fun q => w.heap.size ≤ q ∨ X q) w W → W.cell? ⟨P0, 0, none⟩ = some (.slice aa F.ns.length ca) ∧ W.cell? ⟨P0, 1, none⟩ = some (.slice ab F.ds.length cb) ∧ RdNs W aa F.ns ∧ RdS W ab F.ds)
    (hch : ∀ W vn vd, Var W (w.heap.size + 1) #[vn, vd] 27 → OwnFs W (w.heap.size + 3) W.heap.size (.agg #[vn, vd]) F → Below w.heap.size w W → w.heap.size + 3 ≤ W.heap.size →
      Calls Try.prog 58 #[.pointer (some ⟨w.heap.size + 1, 0, none⟩), .pointer (some ⟨ki, 0, none⟩)] W fun e w' => e = .returned (.bool ok) ∧ (ok = true → OwnFs w' (w.heap.size + 3) w'.heap.size (.agg #[vn, vd]) F') ∧ Only (fun q => w.heap.size + 3 ≤ q ∨ X q) W w' ∧ Z w') :
    Calls Try.prog 34 #[.pointer (some ⟨P0, 0, none⟩), .func (.func 58) #[] #[.pointer (some ⟨ki, 0, none⟩)]] w fun e w' => ∃ u, e = .returned (.tuple #[u, .bool ok]) ∧ OwnFs w' w.heap.size w'.heap.size u (if ok = true then F' else F) ∧ Only (fun q => w.heap.size ≤ q ∨ X q) w w' ∧ Z w' := by
  have hmf : ∀ (fn : Fn) (first cap : Array Value) (w : World), (Instr.makeFunc fn first cap).run Try.prog w = .ok (.func fn first cap) w := fun _ _ _ _ => rfl
  have hF0 := hF _ ((Only.of_below (below3 w (.cells #[.pointer (some ⟨P0, 0, none⟩)] 61) (.cells #[.slice none 0 0, .slice none 0 0] 27) (.cells #[.bool false] 4))).mono fun q _ h => .inl h)
  have hz0 : (((w.alloc (.cells #[.pointer (some ⟨P0, 0, none⟩)] 61)).alloc (.cells #[.slice none 0 0, .slice none 0 0] 27)).alloc (.cells #[.bool false] 4)).heap.size = w.heap.size + 3 := by simp
  have hFr := implFresh P0 aa ab ca cb F _ hsm (by rw [hz0]; omega) hF0.1 hF0.2.1 hF0.2.2.1 hF0.2.2.2
  have HB0 : Hid (Below w.heap.size w (((w.alloc (.cells #[.pointer (some ⟨P0, 0, none⟩)] 61)).alloc (.cells #[.slice none 0 0, .slice none 0 0] 27)).alloc (.cells #[.bool false] 4))) := below3 _ _ _ _
  have HVF : Hid (Var (((w.alloc (.cells #[.pointer (some ⟨P0, 0, none⟩)] 61)).alloc (.cells #[.slice none 0 0, .slice none 0 0] 27)).alloc (.cells #[.bool false] 4)) w.heap.size #[.pointer (some ⟨P0, 0, none⟩)] 61) := ((Var.made w _ _).alloc _).alloc _
  have HVC : Hid (Var (((w.alloc (.cells #[.pointer (some ⟨P0, 0, none⟩)] 61)).alloc (.cells #[.slice none 0 0, .slice none 0 0] 27)).alloc (.cells #[.bool false] 4)) (w.heap.size + 1) #[.slice none 0 0, .slice none 0 0] 27) := (Var.made2 w _ _ _).alloc _
  have HVD : Hid (Var (((w.alloc (.cells #[.pointer (some ⟨P0, 0, none⟩)] 61)).alloc (.cells #[.slice none 0 0, .slice none 0 0] 27)).alloc (.cells #[.bool false] 4)) (w.heap.size + 1 + 1) #[.bool false] 4) := Var.made3 w _ _ _ _
  rw [hz0] at hFr
  have HFR : Hid (Calls Try.prog 75 #[.pointer (some ⟨P0, 0, none⟩)] (((w.alloc (.cells #[.pointer (some ⟨P0, 0, none⟩)] 61)).alloc (.cells #[.slice none 0 0, .slice none 0 0] 27)).alloc (.cells #[.bool false] 4)) fun e w' => ∃ u, e = .returned u ∧ OwnFs w' (w.heap.size + 3) w'.heap.size u F ∧ Below (w.heap.size + 3) (((w.alloc (.cells #[.pointer (some ⟨P0, 0, none⟩)] 61)).alloc (.cells #[.slice none 0 0, .slice none 0 0] 27)).alloc (.cells #[.bool false] 4)) w') := hFr
  have HF : Hid (∀ W, Only (fun q => w.heap.size ≤ q ∨ X q) w W → W.cell? ⟨P0, 0, none⟩ = some (.slice aa F.ns.length ca) ∧ W.cell? ⟨P0, 1, none⟩ = some (.slice ab F.ds.length cb) ∧ RdNs W aa F.ns ∧ RdS W ab F.ds) := hF
  have HCH : Hid (∀ W vn vd, Var W (w.heap.size + 1) #[vn, vd] 27 → OwnFs W (w.heap.size + 3) W.heap.size (.agg #[vn, vd]) F → Below w.heap.size w W → w.heap.size + 3 ≤ W.heap.size →
      Calls Try.prog 58 #[.pointer (some ⟨w.heap.size + 1, 0, none⟩), .pointer (some ⟨ki, 0, none⟩)] W fun e w' => e = .returned (.bool ok) ∧ (ok = true → OwnFs w' (w.heap.size + 3) w'.heap.size (.agg #[vn, vd]) F') ∧ Only (fun q => w.heap.size + 3 ≤ q ∨ X q) W w' ∧ Z w') := hch
  have HSM : Hid (SmF F) := hsm
  have HX : Hid (∀ q, X q → q < w.heap.size) := hX
  have HZ : Hid (∀ W W', w.heap.size ≤ W.heap.size → Only (fun q => w.heap.size ≤ q) W W' → Z W → Z W') := hZ
  clear hF0 hFr hF hch hsm hX hZ
  go_enter_defers Try.func34, Try.ntmps34
  go_wp2_with fail
  refine HFR.out.mono ?_
  rintro e w1 ⟨u, rfl, ho, hb⟩
  obtain ⟨a1, c1, b1, e1, rfl⟩ := ho.lay
  have hF1 := HVF.out.below hb (by omega)
  have hC1 := HVC.out.below hb (by omega)
  have hD1 := HVD.out.below hb (by omega)
  have hB1 := HB0.out.trans (hb.mono (by omega))
  have hz1 : w.heap.size + 3 ≤ w1.heap.size := by have := hb.size; omega
  have x0 := hC1.cell 0
  have x1 := hC1.cell 1
  have z0 := hC1.frozen 0
  have z1 := hC1.frozen 1
  simp at x0 x1
  have hO : Only (fun q => q = w.heap.size + 1) w1 ((w1.setCell ⟨w.heap.size + 1, 0, none⟩ (.slice a1 F.ns.length c1)).setCell ⟨w.heap.size + 1, 1, none⟩ (.slice b1 F.ds.length e1)) := (Only.setCell (S := fun q => q = w.heap.size + 1) (Only.refl _ _) (p := ⟨w.heap.size + 1, 0, none⟩) rfl _).setCell (p := ⟨w.heap.size + 1, 1, none⟩) rfl _
  have hV := (hC1.set 0 (.slice a1 F.ns.length c1)).set 1 (.slice b1 F.ds.length e1)
  have hC2 : Var ((w1.setCell ⟨w.heap.size + 1, 0, none⟩ (.slice a1 F.ns.length c1)).setCell ⟨w.heap.size + 1, 1, none⟩ (.slice b1 F.ds.length e1)) (w.heap.size + 1) #[.slice a1 F.ns.length c1, .slice b1 F.ds.length e1] 27 := by simpa using hV
  have hF2 := hF1.only hO (by omega)
  have hD2 := hD1.only hO (by omega)
  have hB2 := hB1.trans (hO.below hB1.size (fun q e => by omega))
  have ho2 := (ho.only hO (fun k h1 _ e => by omega)).hi hO.size
  have hz2 := Nat.le_trans hz1 hO.size
  have HS2 : Hid (Var ((w1.setCell ⟨w.heap.size + 1, 0, none⟩ (.slice a1 F.ns.length c1)).setCell ⟨w.heap.size + 1, 1, none⟩ (.slice b1 F.ds.length e1)) (w.heap.size + 1) #[.slice a1 F.ns.length c1, .slice b1 F.ds.length e1] 27 ∧ OwnFs ((w1.setCell ⟨w.heap.size + 1, 0, none⟩ (.slice a1 F.ns.length c1)).setCell ⟨w.heap.size + 1, 1, none⟩ (.slice b1 F.ds.length e1)) (w.heap.size + 3) ((w1.setCell ⟨w.heap.size + 1, 0, none⟩ (.slice a1 F.ns.length c1)).setCell ⟨w.heap.size + 1, 1, none⟩ (.slice b1 F.ds.length e1)).heap.size (.agg #[.slice a1 F.ns.length c1, .slice b1 F.ds.length e1]) F ∧ Below w.heap.size w ((w1.setCell ⟨w.heap.size + 1, 0, none⟩ (.slice a1 F.ns.length c1)).setCell ⟨w.heap.size + 1, 1, none⟩ (.slice b1 F.ds.length e1)) ∧ w.heap.size + 3 ≤ ((w1.setCell ⟨w.heap.size + 1, 0, none⟩ (.slice a1 F.ns.length c1)).setCell ⟨w.heap.size + 1, 1, none⟩ (.slice b1 F.ds.length e1)).heap.size ∧ Var ((w1.setCell ⟨w.heap.size + 1, 0, none⟩ (.slice a1 F.ns.length c1)).setCell ⟨w.heap.size + 1, 1, none⟩ (.slice b1 F.ds.length e1)) w.heap.size #[.pointer (some ⟨P0, 0, none⟩)] 61 ∧ Var ((w1.setCell ⟨w.heap.size + 1, 0, none⟩ (.slice a1 F.ns.length c1)).setCell ⟨w.heap.size + 1, 1, none⟩ (.slice b1 F.ds.length e1)) (w.heap.size + 1 + 1) #[.bool false] 4) := ⟨hC2, ho2, hB2, hz2, hF2, hD2⟩
  clear hF1 hC1 hD1 hB1 hO hV hC2 hF2 hD2 hB2 ho2 hz2 ho hb HFR HVF HVC HVD HB0
  go_upto_region 3 with fail
  clear x0 x1 z0 z1
  generalize (w1.setCell ⟨w.heap.size + 1, 0, none⟩ (.slice a1 F.ns.length c1)).setCell ⟨w.heap.size + 1, 1, none⟩ (.slice b1 F.ds.length e1) = W2 at *
  go_wp2_with fail
  refine (HCH.out W2 _ _ HS2.out.1 HS2.out.2.1 HS2.out.2.2.1 HS2.out.2.2.2.1).mono ?_
  rintro e W3 ⟨rfl, hown, hon, hz⟩
  have HX1 := HX.out
  have hC3 := HS2.out.1.only hon (fun h => h.elim (fun h => by omega) (fun h => by have := HX1 _ h; omega))
  have hF3 := HS2.out.2.2.2.2.1.only hon (fun h => h.elim (fun h => by omega) (fun h => by have := HX1 _ h; omega))
  have hD3 := HS2.out.2.2.2.2.2.only hon (fun h => h.elim (fun h => by omega) (fun h => by have := HX1 _ h; omega))
  have hO3 : Only (fun q => w.heap.size ≤ q ∨ X q) w W3 := ((Only.of_below HS2.out.2.2.1).mono fun q _ h => .inl h).trans (hon.mono fun q _ h => h.elim (fun h => .inl (by omega)) .inr)
  have hz3 : w.heap.size + 3 ≤ W3.heap.size := by have h1 := HS2.out.2.2.2.1; have h2 := hon.size; omega
  have t0 := hD3.cell 0
  have s0 := hD3.frozen 0
  simp at t0
  have HD4 : Hid (Var (W3.setCell ⟨w.heap.size + 1 + 1, 0, none⟩ (.bool ok)) (w.heap.size + 1 + 1) #[.bool ok] 4) := by show Var _ _ _ _; have := hD3.set 0 (.bool ok); simpa using this
  have hP4 : Only (fun q => q = w.heap.size + 1 + 1) W3 (W3.setCell ⟨w.heap.size + 1 + 1, 0, none⟩ (.bool ok)) := Only.setCell (S := fun q => q = w.heap.size + 1 + 1) (Only.refl _ _) (p := ⟨w.heap.size + 1 + 1, 0, none⟩) rfl _
  have HC4 : Hid (Var (W3.setCell ⟨w.heap.size + 1 + 1, 0, none⟩ (.bool ok)) (w.heap.size + 1) #[.slice a1 F.ns.length c1, .slice b1 F.ds.length e1] 27) := hC3.only hP4 (by omega)
  have HF4 : Hid (Var (W3.setCell ⟨w.heap.size + 1 + 1, 0, none⟩ (.bool ok)) w.heap.size #[.pointer (some ⟨P0, 0, none⟩)] 61) := hF3.only hP4 (by omega)
  have HO4 : Hid (Only (fun q => w.heap.size ≤ q ∨ X q) w (W3.setCell ⟨w.heap.size + 1 + 1, 0, none⟩ (.bool ok))) := hO3.trans (hP4.mono fun q _ e => by left; omega)
  have HW4 : Hid (ok = true → OwnFs (W3.setCell ⟨w.heap.size + 1 + 1, 0, none⟩ (.bool ok)) (w.heap.size + 3) (W3.setCell ⟨w.heap.size + 1 + 1, 0, none⟩ (.bool ok)).heap.size (.agg #[.slice a1 F.ns.length c1, .slice b1 F.ds.length e1]) F') := fun h => ((hown h).only hP4 (fun k h1 _ e => by omega)).hi hP4.size
  have hz4 := Nat.le_trans hz3 hP4.size
  have HZ4 : Hid (Z (W3.setCell ⟨w.heap.size + 1 + 1, 0, none⟩ (.bool ok))) := HZ.out _ _ (by omega) (hP4.mono fun q _ e => by omega) hz
  clear hz hC3 hF3 hD3 hO3 hz3 hP4 hown hon HS2 HCH HX1 HX
  go_upto_region 4 with fail
  clear t0 s0
  generalize W3.setCell ⟨w.heap.size + 1 + 1, 0, none⟩ (.bool ok) = W4 at *
  have x0 := HC4.out.cell 0
  have x1 := HC4.out.cell 1
  have z0 := HC4.out.frozen 0
  have z1 := HC4.out.frozen 1
  have t0 := HD4.out.cell 0
  have s0 := HD4.out.frozen 0
  simp at x0 x1 t0
  have hv5 := ((HC4.out.set 0 (.slice a1 F.ns.length c1)).set 1 (.slice b1 F.ds.length e1))
  simp at hv5
  have hO5 : Only (fun q => q = w.heap.size + 1) W4 ((W4.setCell ⟨w.heap.size + 1, 0, none⟩ (.slice a1 F.ns.length c1)).setCell ⟨w.heap.size + 1, 1, none⟩ (.slice b1 F.ds.length e1)) := (Only.setCell (S := fun q => q = w.heap.size + 1) (Only.refl _ _) (p := ⟨w.heap.size + 1, 0, none⟩) rfl _).setCell (p := ⟨w.heap.size + 1, 1, none⟩) rfl _
  have hd5 := (HD4.out.only hO5 (by omega)).set 0 (.bool ok)
  simp at hd5
  have hO6 : Only (fun q => q = w.heap.size + 1 + 1) ((W4.setCell ⟨w.heap.size + 1, 0, none⟩ (.slice a1 F.ns.length c1)).setCell ⟨w.heap.size + 1, 1, none⟩ (.slice b1 F.ds.length e1)) (((W4.setCell ⟨w.heap.size + 1, 0, none⟩ (.slice a1 F.ns.length c1)).setCell ⟨w.heap.size + 1, 1, none⟩ (.slice b1 F.ds.length e1)).setCell ⟨w.heap.size + 1 + 1, 0, none⟩ (.bool ok)) := Only.setCell (S := fun q => q = w.heap.size + 1 + 1) (Only.refl _ _) (p := ⟨w.heap.size + 1 + 1, 0, none⟩) rfl _
  have hO7 : Only (fun q => q = w.heap.size + 1 ∨ q = w.heap.size + 1 + 1) W4 (((W4.setCell ⟨w.heap.size + 1, 0, none⟩ (.slice a1 F.ns.length c1)).setCell ⟨w.heap.size + 1, 1, none⟩ (.slice b1 F.ds.length e1)).setCell ⟨w.heap.size + 1 + 1, 0, none⟩ (.bool ok)).drew := ((hO5.mono fun q _ e => .inl e).trans (hO6.mono fun q _ e => .inr e)).trans (Only.of_new ((Below.refl _ _).drew))
  have HC5 : Hid (Var (((W4.setCell ⟨w.heap.size + 1, 0, none⟩ (.slice a1 F.ns.length c1)).setCell ⟨w.heap.size + 1, 1, none⟩ (.slice b1 F.ds.length e1)).setCell ⟨w.heap.size + 1 + 1, 0, none⟩ (.bool ok)).drew (w.heap.size + 1) #[.slice a1 F.ns.length c1, .slice b1 F.ds.length e1] 27) := (hv5.only hO6 (by omega)).new ((Below.refl _ _).drew)
  have HD5 : Hid (Var (((W4.setCell ⟨w.heap.size + 1, 0, none⟩ (.slice a1 F.ns.length c1)).setCell ⟨w.heap.size + 1, 1, none⟩ (.slice b1 F.ds.length e1)).setCell ⟨w.heap.size + 1 + 1, 0, none⟩ (.bool ok)).drew (w.heap.size + 1 + 1) #[.bool ok] 4) := hd5.new ((Below.refl _ _).drew)
  have HF5 : Hid (Var (((W4.setCell ⟨w.heap.size + 1, 0, none⟩ (.slice a1 F.ns.length c1)).setCell ⟨w.heap.size + 1, 1, none⟩ (.slice b1 F.ds.length e1)).setCell ⟨w.heap.size + 1 + 1, 0, none⟩ (.bool ok)).drew w.heap.size #[.pointer (some ⟨P0, 0, none⟩)] 61) := HF4.out.only hO7 (by omega)
  have HO5 : Hid (Only (fun q => w.heap.size ≤ q ∨ X q) w (((W4.setCell ⟨w.heap.size + 1, 0, none⟩ (.slice a1 F.ns.length c1)).setCell ⟨w.heap.size + 1, 1, none⟩ (.slice b1 F.ds.length e1)).setCell ⟨w.heap.size + 1 + 1, 0, none⟩ (.bool ok)).drew) := HO4.out.trans (hO7.mono fun q _ e => by left; omega)
  have HW5 : Hid (ok = true → OwnFs (((W4.setCell ⟨w.heap.size + 1, 0, none⟩ (.slice a1 F.ns.length c1)).setCell ⟨w.heap.size + 1, 1, none⟩ (.slice b1 F.ds.length e1)).setCell ⟨w.heap.size + 1 + 1, 0, none⟩ (.bool ok)).drew (w.heap.size + 3) ((((W4.setCell ⟨w.heap.size + 1, 0, none⟩ (.slice a1 F.ns.length c1)).setCell ⟨w.heap.size + 1, 1, none⟩ (.slice b1 F.ds.length e1)).setCell ⟨w.heap.size + 1 + 1, 0, none⟩ (.bool ok)).drew).heap.size (.agg #[.slice a1 F.ns.length c1, .slice b1 F.ds.length e1]) F') := fun h => ((HW4.out h).only hO7 (fun k h1 _ e => by omega)).hi hO7.size
  have hz5 := Nat.le_trans hz4 hO7.size
  have HZ5 : Hid (Z (((W4.setCell ⟨w.heap.size + 1, 0, none⟩ (.slice a1 F.ns.length c1)).setCell ⟨w.heap.size + 1, 1, none⟩ (.slice b1 F.ds.length e1)).setCell ⟨w.heap.size + 1 + 1, 0, none⟩ (.bool ok)).drew) := HZ.out _ _ (by omega) (hO7.mono fun q _ e => by omega) HZ4.out
  clear hv5 hO5 hd5 hO6 hO7 HC4 HD4 HF4 HO4 HW4 hz4 HZ4
  go_region
  clear x0 x1 z0 z1 t0 s0
  generalize (((W4.setCell ⟨w.heap.size + 1, 0, none⟩ (.slice a1 F.ns.length c1)).setCell ⟨w.heap.size + 1, 1, none⟩ (.slice b1 F.ds.length e1)).setCell ⟨w.heap.size + 1 + 1, 0, none⟩ (.bool ok)).drew = W6 at *
  have x0 := HC5.out.cell 0
  have x1 := HC5.out.cell 1
  have z0 := HC5.out.frozen 0
  have z1 := HC5.out.frozen 1
  have t0 := HD5.out.cell 0
  have y0 := HF5.out.cell 0
  simp at x0 x1 t0 y0
  cases ok with
  | true =>
    clear x0 x1 z0 z1 y0
    go_wp2
    refine leaves_cons (f := 74) (args := #[.pointer (some ⟨w.heap.size + 1 + 1, 0, none⟩), .pointer (some ⟨w.heap.size, 0, none⟩), .pointer (some ⟨w.heap.size + 1, 0, none⟩)]) (by simp) (by simp [go_sem]) ?_
    refine (begDone (w.heap.size + 1 + 1) (.pointer (some ⟨w.heap.size, 0, none⟩)) (.pointer (some ⟨w.heap.size + 1, 0, none⟩)) .returning W6 t0).mono ?_
    rintro e u' w'' ⟨rfl, rfl, hw⟩
    subst w''
    simp [Leaves, settle, go_sem]
    exact ⟨_, res_fs3 rfl _ _ (w.heap.size + 1) (w.heap.size + 1 + 1) #[.slice a1 F.ns.length c1, .slice b1 F.ds.length e1] true rfl rfl HC5.out rfl HD5.out, _, rfl, (HW5.out (by first | trivial | rfl)).base (by omega), HO5.out, HZ5.out⟩
  | false =>
    obtain ⟨f0, f1, f2, f3⟩ := HF.out W6 HO5.out
    clear x0 x1 z0 z1
    go_wp2
    refine leaves_cons (f := 74) (args := #[.pointer (some ⟨w.heap.size + 1 + 1, 0, none⟩), .pointer (some ⟨w.heap.size, 0, none⟩), .pointer (some ⟨w.heap.size + 1, 0, none⟩)]) (by simp) (by simp [go_sem]) ?_
    refine (begUndo (w.heap.size + 1 + 1) w.heap.size (w.heap.size + 1) P0 _ _ aa ab ca cb F .returning W6 t0 y0 HC5.out HSM.out (by have := HO5.out.size; omega) f0 f1 f2 f3).mono ?_
    rintro e u' w'' ⟨rfl, rfl, vn, vd, hvc, hov, hon⟩
    have HD6 : Hid (Var w'' (w.heap.size + 1 + 1) #[.bool false] 4) := HD5.out.only hon (by omega)
    have HV6 : Hid (Var w'' (w.heap.size + 1) #[vn, vd] 27) := hvc
    have HO6 : Hid (OwnFs w'' w.heap.size w''.heap.size (.agg #[vn, vd]) F) := hov.base (by omega)
    have HO7 : Hid (Only (fun q => w.heap.size ≤ q ∨ X q) w w'') := HO5.out.trans (hon.mono fun q _ h => by left; omega)
    have HZ7 : Hid (Z w'') := HZ.out _ _ (by omega) (hon.mono fun q _ h => by omega) HZ5.out
    clear hvc hov hon
    simp [Leaves, settle, go_sem]
    exact ⟨_, res_fs3 rfl _ _ (w.heap.size + 1) (w.heap.size + 1 + 1) #[vn, vd] false rfl rfl HV6.out rfl HD6.out, _, rfl, HO6.out, HO7.out, HZ7.out⟩
end Go.Proofs.Ytbameedfnicnhaa
