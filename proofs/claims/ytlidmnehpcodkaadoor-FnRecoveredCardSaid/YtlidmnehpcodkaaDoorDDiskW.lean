/-
  Own text: a disk that is drawn, right or not.
-/
import Derived.Test.YtlidmnehpcodkaaDoorDRightW
namespace Go.Proofs.YtlidmnehpcodkaaDoor
open Go.RowKit

theorem made_zero (n : Nat) : (madeCells #[Value.int .u8 0] n).toList = (List.replicate n (0 : UInt8)).map fun b => Value.int .u8 b.toNat := by
  apply List.ext_getElem
  · simp [size_madeCells]
  · intro i h1 h2
    simp [madeCells, Nat.mod_one]

/-- What is left when a disk that lies in a variable is handed back by the result's block. -/
theorem fin_facts {P : Nat} {x : Option Addr} {cap : Nat} {l : List Int} {w W : World} {a b : Option Addr} {n c m e : Nat} {d : DiskD} (hlt : P < w.heap.size) (hD : Drw W P x cap l) (hR : Var W w.heap.size #[.slice none 0 0, .slice none 0 0] 27) (hO : OwnD W (w.heap.size + 1) (.agg #[.slice a n c, .slice b m e]) d) (hP : OnlyP P w W) :
    Var ((W.setCell ⟨w.heap.size, 0, none⟩ (.slice a n c)).setCell ⟨w.heap.size, 1, none⟩ (.slice b m e)) w.heap.size #[.slice a n c, .slice b m e] 27 ∧ OwnD ((W.setCell ⟨w.heap.size, 0, none⟩ (.slice a n c)).setCell ⟨w.heap.size, 1, none⟩ (.slice b m e)) w.heap.size (.agg #[.slice a n c, .slice b m e]) d ∧ Drw ((W.setCell ⟨w.heap.size, 0, none⟩ (.slice a n c)).setCell ⟨w.heap.size, 1, none⟩ (.slice b m e)) P x cap l ∧ OnlyP P w ((W.setCell ⟨w.heap.size, 0, none⟩ (.slice a n c)).setCell ⟨w.heap.size, 1, none⟩ (.slice b m e)) := by
  have hst : Only (fun j => w.heap.size ≤ j) W ((W.setCell ⟨w.heap.size, 0, none⟩ (.slice a n c)).setCell ⟨w.heap.size, 1, none⟩ (.slice b m e)) := Only.setCell (S := fun j => w.heap.size ≤ j) (Only.setCell (S := fun j => w.heap.size ≤ j) (Only.refl _ _) (p := ⟨w.heap.size, 0, none⟩) (Nat.le_refl _) _) (p := ⟨w.heap.size, 1, none⟩) (Nat.le_refl _) _
  exact ⟨hR.two _ _, ((hO.setVar hR 0 _).setVar (hR.set 0 _) 1 _).base (by omega), hD.only hst (fun j hj h => by omega), hP.trans' hst⟩
theorem fin_cells {W : World} {P : Nat} (hR : Var W P #[.slice none 0 0, .slice none 0 0] 27) (u : Value) : W.cell? ⟨P, 0, none⟩ = some (.slice none 0 0) ∧ (W.setCell ⟨P, 0, none⟩ u).cell? ⟨P, 1, none⟩ = some (.slice none 0 0) ∧ W.frozen? ⟨P, 0, none⟩ = false ∧ W.frozen? ⟨P, 1, none⟩ = false :=
  ⟨hR.cell 0, (hR.set 0 u).cell 1, hR.frozen 0, hR.frozen 1⟩

/-- What one write more behind a drawn disk's pending ones leaves: the disk lies in the variable Q. -/
theorem more_facts {P : Nat} {x : Option Addr} {cap : Nat} {l : List Int} {w W w7 : World} {Q : Nat} {a b b7 : Option Addr} {n c m e e7 : Nat} {d : DiskD} {o : Obj} {y : PutD} (hlt : P < w.heap.size) (hQ : w.heap.size + 1 ≤ Q) (hD : Drw W P x cap l) (hR : Var W w.heap.size #[.slice none 0 0, .slice none 0 0] 27) (hV : Var W Q #[.slice a n c, .slice b m e] 27) (hO : OwnD W (w.heap.size + 1) (.agg #[.slice a n c, .slice b m e]) d) (hP : OnlyP P w W)
    (hg : (W.alloc o).grownBy w7 (Value.slice b m e).ownBlock) (ho7 : w7.ownsRow (w.heap.size + 1) 39 2 (.slice b7 (d.2 ++ [y]).length e7) (d.2 ++ [y]).length ((d.2 ++ [y]).flatMap encP)) :
    Var w7 Q #[.slice a n c, .slice b m e] 27 ∧ Drw (w7.setCell ⟨Q, 1, none⟩ (.slice b7 (d.2 ++ [y]).length e7)) P x cap l ∧ Var (w7.setCell ⟨Q, 1, none⟩ (.slice b7 (d.2 ++ [y]).length e7)) w.heap.size #[.slice none 0 0, .slice none 0 0] 27 ∧ Var (w7.setCell ⟨Q, 1, none⟩ (.slice b7 (d.2 ++ [y]).length e7)) Q #[.slice a n c, .slice b7 (d.2 ++ [y]).length e7] 27 ∧ OwnD (w7.setCell ⟨Q, 1, none⟩ (.slice b7 (d.2 ++ [y]).length e7)) (w.heap.size + 1) (.agg #[.slice a n c, .slice b7 (d.2 ++ [y]).length e7]) (d.1, d.2 ++ [y]) ∧ OnlyP P w (w7.setCell ⟨Q, 1, none⟩ (.slice b7 (d.2 ++ [y]).length e7)) := by
  obtain ⟨z1, z2, hz, o1, o2⟩ := hO
  simp only [Value.agg.injEq, Array.mk.injEq, List.cons.injEq, and_true] at hz
  obtain ⟨rfl, rfl⟩ := hz
  have hlb : ∀ j, (Value.slice b m e).ownBlock = some j → w.heap.size + 1 ≤ j := fun j hj => (o2.lt j hj).1
  have hon7 : Only (fun j => w.heap.size ≤ j) W w7 := (Only.of_new (below1 W _)).trans ((Only.of_grown hg).mono fun j _ hj => by have := hlb j hj; omega)
  have hV7 := (hV.alloc o).only (Only.of_grown hg) (own_var (o2.alloc o) (hV.alloc o) (by decide))
  have hR7 := (hR.alloc o).only (Only.of_grown hg) (fun hj => by have := hlb _ hj; omega)
  have hS7 := own_only (o1.alloc o) (Only.of_grown hg) (fun j hj hb => own_apart (o1.alloc o) (o2.alloc o) (by decide) j hj hb)
  have hO7 : OwnD w7 (w.heap.size + 1) (.agg #[.slice a n c, .slice b7 (d.2 ++ [y]).length e7]) (d.1, d.2 ++ [y]) := ⟨_, _, rfl, hS7, ho7⟩
  have hst : Only (fun j => w.heap.size ≤ j) w7 (w7.setCell ⟨Q, 1, none⟩ (.slice b7 (d.2 ++ [y]).length e7)) := Only.setCell (S := fun j => w.heap.size ≤ j) (Only.refl _ _) (p := ⟨Q, 1, none⟩) (by show w.heap.size ≤ Q; omega) _
  exact ⟨hV7, hD.only (hon7.trans hst) (fun j hj h => by omega), hR7.other (by omega) 1 _, hV7.set 1 _, hO7.setVar hV7 1 _, hP.trans' (hon7.trans hst)⟩

set_option maxRecDepth 20000 in
set_option maxHeartbeats 2000000 in
theorem drawO (P : Nat) (x : Option Addr) (cap : Nat) (l : List Int) (w : World) (hd : Drw w P x cap l) :
    Calls Tryd.prog 41 #[.pointer (some ⟨P, 0, none⟩)] w fun e w' => ∃ (v : Value) (d : DiskD), e = .returned v ∧ OwnD w' w.heap.size v d ∧ 1 ≤ d.1.length ∧ d.1.length ≤ 121 ∧ d.2.length ≤ 401 ∧ SmD d ∧ Drw w' P x cap l ∧ OnlyP P w w' := by
  obtain ⟨i0, hi, hz0, hz1, hz2⟩ := info_parts Tryd.infoPut
  obtain ⟨i1, gi, gz0, gz1, gz2⟩ := info_parts Tryd.infoTxt
  obtain ⟨i2, ki, kz0, kz1, kz2⟩ := info_parts Tryd.infoU8
  have hlt := hd.lt
  have HD0 : Hid (Drw (w.alloc (.cells #[.slice none 0 0, .slice none 0 0] 27)) P x cap l) := hd.alloc _
  clear hd
  go_enter Tryd.func41, Tryd.ntmps41
  go_wp2_with fail
  refine (rightO P x cap l _ HD0.out).mono ?_
  rintro e w1 ⟨v1, d, rfl, hO1, hd1, hd9, hp6, hsm, hdr1, hon1⟩
  have HSM : Hid (SmD d) := hsm
  clear hsm
  have hR1 : Var w1 w.heap.size #[.slice none 0 0, .slice none 0 0] 27 := (Var.made w _ _).only hon1 (by show ¬ w.heap.size = P; omega)
  have hb1 : OnlyP P w w1 := (Only.of_new (below1 w _)).trans hon1
  have hO1' : OwnD w1 (w.heap.size + 1) v1 d := by
    have := hO1
    rwa [show (w.alloc (.cells #[.slice none 0 0, .slice none 0 0] 27)).heap.size = w.heap.size + 1 by simp] at this
  obtain ⟨a1, c1, b1, e1, rfl⟩ := hO1'.shape
  have hs1 : w.heap.size + 1 ≤ w1.heap.size := hR1.lt
  have HD2 : Hid (Drw ((w1.alloc (.cells #[.slice a1 d.1.length c1, .slice b1 d.2.length e1] 27)).alloc (.cells ([90, 91].map (Value.int .i64)).toArray 3)) P x cap l) := (hdr1.alloc _).alloc _
  have HR2 : Hid (Var (w1.alloc (.cells #[.slice a1 d.1.length c1, .slice b1 d.2.length e1] 27)) w.heap.size #[.slice none 0 0, .slice none 0 0] 27) := hR1.alloc _
  have HV2 : Hid (Var (w1.alloc (.cells #[.slice a1 d.1.length c1, .slice b1 d.2.length e1] 27)) w1.heap.size #[.slice a1 d.1.length c1, .slice b1 d.2.length e1] 27) := Var.made w1 _ _
  have HO2 : Hid (OwnD (w1.alloc (.cells #[.slice a1 d.1.length c1, .slice b1 d.2.length e1] 27)) (w.heap.size + 1) (.agg #[.slice a1 d.1.length c1, .slice b1 d.2.length e1]) d) := hO1'.below (below1 _ _)
  have HP2 : Hid (OnlyP P w (w1.alloc (.cells #[.slice a1 d.1.length c1, .slice b1 d.2.length e1] 27))) := hb1.trans (Only.of_new (below1 _ _))
  have hlt1 := hdr1.lt
  clear hO1 hO1' hon1 hR1 hb1 hdr1 HD0
  go_wp2_with fail
  refine (pickIntO P (w1.heap.size + 1) x cap l [90, 91] _ HD2.out 2 rfl (by omega) (by omega) (by omega) (fun j hj => by
    have := cells_list [90, 91] (Value.int .i64) 0 (w1.alloc (.cells #[.slice a1 d.1.length c1, .slice b1 d.2.length e1] 27)) _ 3 rfl j hj
    rwa [show (w1.alloc (.cells #[.slice a1 d.1.length c1, .slice b1 d.2.length e1] 27)).heap.size = w1.heap.size + 1 by simp] at this)).mono ?_
  rintro e w3 ⟨n, hn, rfl, hd3, hon3⟩
  obtain ⟨N, rfl, hN1, hN2⟩ : ∃ N : Nat, n = N ∧ 1 ≤ N ∧ N ≤ 91 := by
    have : n = 90 ∨ n = 91 := by simpa using hn
    rcases this with rfl | rfl
    · exact ⟨90, rfl, by omega, by omega⟩
    · exact ⟨91, rfl, by omega, by omega⟩
  have hon23 : OnlyP P (w1.alloc (.cells #[.slice a1 d.1.length c1, .slice b1 d.2.length e1] 27)) w3 := (Only.of_new (below1 _ _)).trans hon3
  have HD3 : Hid (Drw w3 P x cap l) := hd3
  have HR3 : Hid (Var w3 w.heap.size #[.slice none 0 0, .slice none 0 0] 27) := HR2.out.onlyP hon23 (by omega)
  have HV3 : Hid (Var w3 w1.heap.size #[.slice a1 d.1.length c1, .slice b1 d.2.length e1] 27) := HV2.out.onlyP hon23 (by omega)
  have HO3 : Hid (OwnD w3 (w.heap.size + 1) (.agg #[.slice a1 d.1.length c1, .slice b1 d.2.length e1]) d) := HO2.out.onlyP hon23 (by omega)
  have HP3 : Hid (OnlyP P w w3) := HP2.out.trans hon23
  clear HD2 HR2 HV2 HO2 HP2 hon23 hon3 hd3 hn
  go_wp2_with (at_make; refine wpList_make_full _ rfl _ _ 22 rfl w.heap.size 5 i2 (.int .u8 0) 1 Tryd.underlying22 ki kz0 kz1 _ _ _ _ N rfl rfl rfl rfl (by rw [kz2]; omega) (by unfold maxLen; omega) (by have := HR3.out.lt; omega) ?_)
  intro w4 hown hgrow
  have hown' : w4.ownsRow w.heap.size 5 1 (.slice (some ⟨w3.heap.size, 0, none⟩) N N) N ((List.replicate N (0 : UInt8)).map fun b => Value.int .u8 b.toNat) := by rw [← made_zero]; exact hown
  have hcv := conv_own (by simp) hown'
  clear hown'
  have hon4 : OnlyP P w3 w4 := (Only.of_grown hgrow).mono fun k _ hk => by simp at hk
  have HD4 : Hid (Drw w4 P x cap l) := HD3.out.only (Only.of_grown hgrow) (fun k _ hk => by simp at hk)
  have HR4 : Hid (Var w4 w.heap.size #[.slice none 0 0, .slice none 0 0] 27) := HR3.out.onlyP hon4 (by omega)
  have HV4 : Hid (Var w4 w1.heap.size #[.slice a1 d.1.length c1, .slice b1 d.2.length e1] 27) := HV3.out.onlyP hon4 (by omega)
  have HO4 : Hid (OwnD w4 (w.heap.size + 1) (.agg #[.slice a1 d.1.length c1, .slice b1 d.2.length e1]) d) := HO3.out.onlyP hon4 (by omega)
  have HP4 : Hid (OnlyP P w w4) := HP3.out.trans hon4
  clear HD3 HR3 HV3 HO3 HP3 hon4 hown hgrow
  have HLN : Hid ((⟨(List.replicate N (0 : UInt8)).toArray⟩ : ByteArray).size ≤ 91) := by show _ ≤ _; simp [ByteArray.size]; exact hN2
  generalize (⟨(List.replicate N (0 : UInt8)).toArray⟩ : ByteArray) = lng at *
  go_wp2_with fail
  refine (belowO P x cap l 12 _ HD4.out (by omega) (by omega)).mono ?_
  rintro e w5 ⟨r, rfl, hr12, hd5, hon5⟩
  have HD5 : Hid (Drw w5 P x cap l) := hd5
  have HR5 : Hid (Var w5 w.heap.size #[.slice none 0 0, .slice none 0 0] 27) := HR4.out.onlyP hon5 (by omega)
  have HV5 : Hid (Var w5 w1.heap.size #[.slice a1 d.1.length c1, .slice b1 d.2.length e1] 27) := HV4.out.onlyP hon5 (by omega)
  have HO5 : Hid (OwnD w5 (w.heap.size + 1) (.agg #[.slice a1 d.1.length c1, .slice b1 d.2.length e1]) d) := HO4.out.onlyP hon5 (by omega)
  have HP5 : Hid (OnlyP P w w5) := HP4.out.trans hon5
  clear HD4 HR4 HV4 HO4 HP4 hon5 hd5 hcv
  have hv0 : w5.cell? ⟨w1.heap.size, 0, none⟩ = some (.slice a1 d.1.length c1) := HV5.out.cell 0
  have hv1 : w5.cell? ⟨w1.heap.size, 1, none⟩ = some (.slice b1 d.2.length e1) := HV5.out.cell 1
  by_cases hc0 : r = 0
  · subst hc0
    obtain ⟨z1, z2, hz, o1, o2⟩ := HO5.out
    simp only [Value.agg.injEq, Array.mk.injEq, List.cons.injEq, and_true] at hz
    obtain ⟨rfl, rfl⟩ := hz
    rcases o1.2 with ⟨_, h0⟩ | ⟨g, cc, cur, hvv, hgb, _⟩
    · omega
    simp only [Value.slice.injEq, true_and] at hvv
    obtain ⟨rfl, rfl⟩ := hvv
    have hgV : ¬ g = w1.heap.size := fun e => own_var o1 HV5.out (by decide) (by rw [← e]; rfl)
    have hoo : Only (fun j => j = g) w5 (w5.setCell ⟨g, 0, none⟩ (.string lng)) := Only.setCell (S := fun j => j = g) (Only.refl _ _) (p := ⟨g, 0, none⟩) rfl _
    have hst := (o1.stored 0 (.string lng)).1
    rw [← List.map_set] at hst
    have hO6 : OwnD (w5.setCell ⟨g, 0, none⟩ (.string lng)) (w.heap.size + 1) (.agg #[.slice (some ⟨g, 0, none⟩) d.1.length c1, .slice b1 d.2.length e1]) (d.1.set 0 lng, d.2) := ⟨_, _, rfl, by simp only [List.length_set]; exact hst, own_only o2 hoo (fun j hj e => by subst e; exact own_apart o2 o1 (by decide) _ hj rfl)⟩
    have hR6 := HR5.out.only hoo (fun e => by omega)
    have hV6 := HV5.out.only hoo (fun e => hgV e.symm)
    have HFF : Hid (_) := fin_facts hlt (HD5.out.only hoo (fun j hj e => by omega)) hR6 hO6 (HP5.out.trans' (hoo.mono fun j _ e => by omega))
    have HRf : Hid (Var (w5.setCell ⟨g, 0, none⟩ (.string lng)) w.heap.size #[.slice none 0 0, .slice none 0 0] 27) := hR6
    have hu0 : (w5.setCell ⟨g, 0, none⟩ (.string lng)).cell? ⟨w1.heap.size, 0, none⟩ = some (.slice (some ⟨g, 0, none⟩) d.1.length c1) := hV6.cell 0
    have hu1 : (w5.setCell ⟨g, 0, none⟩ (.string lng)).cell? ⟨w1.heap.size, 1, none⟩ = some (.slice b1 d.2.length e1) := hV6.cell 1
    have hgf := o1.frozenAt 0
    obtain ⟨old, hgc⟩ : ∃ o, w5.cell? ⟨g, 0, none⟩ = some o := ⟨_, (o1.cellAt 0 (by omega)).trans (List.getElem?_eq_getElem (by rw [List.length_map]; omega))⟩
    clear o1 o2 hst hO6 hR6 hV6 hoo HO5
    obtain ⟨hr0, hr1, hf0, hf1⟩ := fin_cells HRf.out (.slice (some ⟨g, 0, none⟩) d.1.length c1)
    go_wp2
    refine bodyPost_ret (results_cell_row rfl _ _ w.heap.size 27 #[(.slice (some ⟨g, 0, none⟩) d.1.length c1), (.slice b1 d.2.length e1)] (0, 0) _ rfl HFF.out.1 Tryd.underlying27 rfl Tryd.sizeDisk) rfl ?_
    exact ⟨_, (d.1.set 0 lng, d.2), rfl, HFF.out.2.1, by show 1 ≤ (d.1.set 0 lng).length; simp; omega, by show (d.1.set 0 lng).length ≤ 121; simp; omega, by show d.2.length ≤ 401; omega, ⟨HSM.out.1.set 0 HLN.out, HSM.out.2⟩, HFF.out.2.2.1, HFF.out.2.2.2⟩
  have hc0' : ¬ (r : Int) = 0 := by omega
  by_cases hc5 : 5 ≤ r
  · have hc1 : ¬ (r : Int) = 1 := by omega
    have hc2 : ¬ (r : Int) = 2 := by omega
    have hc3 : ¬ (r : Int) = 3 := by omega
    have hc4 : ¬ (r : Int) = 4 := by omega
    have HFF : Hid (_) := fin_facts hlt HD5.out HR5.out HO5.out HP5.out
    have HRf : Hid (Var w5 w.heap.size #[.slice none 0 0, .slice none 0 0] 27) := HR5.out
    obtain ⟨hr0, hr1, hf0, hf1⟩ := fin_cells HRf.out (.slice a1 d.1.length c1)
    go_wp2
    refine bodyPost_ret (results_cell_row rfl _ _ w.heap.size 27 #[(.slice a1 d.1.length c1), (.slice b1 d.2.length e1)] (0, 0) _ rfl HFF.out.1 Tryd.underlying27 rfl Tryd.sizeDisk) rfl ?_
    exact ⟨_, d, rfl, HFF.out.2.1, hd1, by omega, by omega, HSM.out, HFF.out.2.2.1, HFF.out.2.2.2⟩
  by_cases hc3 : r = 3
  · subst hc3
    have HL6 : Hid (Drw (w5.alloc (.cells ([120, 121].map (Value.int .i64)).toArray 3)) P x cap l) := HD5.out.alloc _
    have hlt5 := HD5.out.lt
    have hlt5' := HV5.out.lt
    go_wp2_with fail
    refine (pickIntO P w5.heap.size x cap l [120, 121] _ HL6.out 2 rfl (by omega) (by omega) (by omega) (fun j hj => cells_list [120, 121] (Value.int .i64) 0 w5 _ 3 rfl j hj)).mono ?_
    rintro e w6 ⟨n, hn, rfl, hd6, hon6⟩
    obtain ⟨K, rfl, hK1, hK2⟩ : ∃ K : Nat, n = K ∧ 1 ≤ K ∧ K ≤ 121 := by
      have : n = 120 ∨ n = 121 := by simpa using hn
      rcases this with rfl | rfl
      · exact ⟨120, rfl, by omega, by omega⟩
      · exact ⟨121, rfl, by omega, by omega⟩
    have hon56 : OnlyP P w5 w6 := (Only.of_new (below1 _ _)).trans hon6
    have HD6 : Hid (Drw w6 P x cap l) := hd6
    have HR6 : Hid (Var w6 w.heap.size #[.slice none 0 0, .slice none 0 0] 27) := HR5.out.onlyP hon56 (by omega)
    have HV6 : Hid (Var w6 w1.heap.size #[.slice a1 d.1.length c1, .slice b1 d.2.length e1] 27) := HV5.out.onlyP hon56 (by omega)
    have HO6 : Hid (OwnD w6 (w.heap.size + 1) (.agg #[.slice a1 d.1.length c1, .slice b1 d.2.length e1]) d) := HO5.out.onlyP hon56 (by omega)
    have HP6 : Hid (OnlyP P w w6) := HP5.out.trans hon56
    clear hon56 hon6 hd6 HL6 hn
    go_wp2_with (at_make; refine wpList_make_full _ rfl _ _ 24 rfl (w.heap.size + 1) 9 i1 (.string ⟨#[]⟩) 1 Tryd.underlying24 gi gz0 gz1 _ _ _ _ K rfl rfl rfl rfl (by rw [gz2]; omega) (by unfold maxLen; omega) (by have := HV6.out.lt; omega) ?_)
    intro w7 hown hgrow
    have hon7 : OnlyP P w6 w7 := (Only.of_grown hgrow).mono fun k _ hk => by simp at hk
    have hown' : w7.ownsRow (w.heap.size + 1) 9 1 (.slice (some ⟨w6.heap.size, 0, none⟩) K K) K ((List.replicate K (⟨#[]⟩ : ByteArray)).map Value.string) := by rw [← made_txt]; exact hown
    have hD7 : Drw w7 P x cap l := HD6.out.only (Only.of_grown hgrow) (fun k _ hk => by simp at hk)
    have hR7 := HR6.out.onlyP hon7 (by omega)
    have hV7 := HV6.out.onlyP hon7 (by omega)
    have hO7 := HO6.out.onlyP hon7 (by omega)
    have hP7 : OnlyP P w w7 := HP6.out.trans hon7
    have hst : Only (fun j => w.heap.size ≤ j) w7 (w7.setCell ⟨w1.heap.size, 0, none⟩ (.slice (some ⟨w6.heap.size, 0, none⟩) K K)) := Only.setCell (S := fun j => w.heap.size ≤ j) (Only.refl _ _) (p := ⟨w1.heap.size, 0, none⟩) (by show w.heap.size ≤ w1.heap.size; omega) _
    have hO8 : OwnD (w7.setCell ⟨w1.heap.size, 0, none⟩ (.slice (some ⟨w6.heap.size, 0, none⟩) K K)) (w.heap.size + 1) (.agg #[.slice (some ⟨w6.heap.size, 0, none⟩) K K, .slice b1 d.2.length e1]) (List.replicate K ⟨#[]⟩, d.2) := by
      obtain ⟨z1, z2, hz, o1, o2⟩ := hO7
      simp only [Value.agg.injEq, Array.mk.injEq, List.cons.injEq, and_true] at hz
      obtain ⟨rfl, rfl⟩ := hz
      exact ⟨_, _, rfl, by simp only [List.length_replicate]; exact own_setVar hown' hV7 (by decide) _ _, own_setVar o2 hV7 (by decide) _ _⟩
    have hR8 := hR7.other (Q := w1.heap.size) (by omega) 0 (.slice (some ⟨w6.heap.size, 0, none⟩) K K)
    have hV8 := hV7.set 0 (.slice (some ⟨w6.heap.size, 0, none⟩) K K)
    have HFF : Hid (_) := fin_facts hlt (hD7.only hst (fun j hj h => by omega)) hR8 hO8 (hP7.trans' hst)
    have HRf : Hid (Var (w7.setCell ⟨w1.heap.size, 0, none⟩ (.slice (some ⟨w6.heap.size, 0, none⟩) K K)) w.heap.size #[.slice none 0 0, .slice none 0 0] 27) := hR8
    have hu0 : (w7.setCell ⟨w1.heap.size, 0, none⟩ (.slice (some ⟨w6.heap.size, 0, none⟩) K K)).cell? ⟨w1.heap.size, 0, none⟩ = some (.slice (some ⟨w6.heap.size, 0, none⟩) K K) := hV8.cell 0
    have hu1 : (w7.setCell ⟨w1.heap.size, 0, none⟩ (.slice (some ⟨w6.heap.size, 0, none⟩) K K)).cell? ⟨w1.heap.size, 1, none⟩ = some (.slice b1 d.2.length e1) := hV8.cell 1
    have ht0 : w7.cell? ⟨w1.heap.size, 0, none⟩ = some (.slice a1 d.1.length c1) := hV7.cell 0
    have htf := hV7.frozen 0
    clear hv0 hv1 hown hown' hgrow hon7 hD7 hR7 hV7 hO7 hP7 hst hO8 hR8 hV8 HD6 HR6 HV6 HO6 HP6 HD5 HR5 HV5 HO5 HP5
    obtain ⟨hr0, hr1, hf0, hf1⟩ := fin_cells HRf.out (.slice (some ⟨w6.heap.size, 0, none⟩) K K)
    go_wp2
    refine bodyPost_ret (results_cell_row rfl _ _ w.heap.size 27 #[(.slice (some ⟨w6.heap.size, 0, none⟩) K K), (.slice b1 d.2.length e1)] (0, 0) _ rfl HFF.out.1 Tryd.underlying27 rfl Tryd.sizeDisk) rfl ?_
    exact ⟨_, (List.replicate K ⟨#[]⟩, d.2), rfl, HFF.out.2.1, by show 1 ≤ (List.replicate K _).length; simp; omega, by show (List.replicate K _).length ≤ 121; simp; omega, by show d.2.length ≤ 401; omega, ⟨smL_rep _, HSM.out.2⟩, HFF.out.2.2.1, HFF.out.2.2.2⟩
  have hc3' : ¬ (r : Int) = 3 := by omega
  by_cases hc4 : r = 4
  · subst hc4
    have HL6 : Hid (Drw (w5.alloc (.cells ([399, 400, 401].map (Value.int .i64)).toArray 3)) P x cap l) := HD5.out.alloc _
    have hlt5 := HD5.out.lt
    have hlt5' := HV5.out.lt
    go_wp2_with fail
    refine (pickIntO P w5.heap.size x cap l [399, 400, 401] _ HL6.out 3 rfl (by omega) (by omega) (by omega) (fun j hj => cells_list [399, 400, 401] (Value.int .i64) 0 w5 _ 3 rfl j hj)).mono ?_
    rintro e w6 ⟨n, hn, rfl, hd6, hon6⟩
    obtain ⟨K, rfl, hK1, hK2⟩ : ∃ K : Nat, n = K ∧ 1 ≤ K ∧ K ≤ 401 := by
      have : n = 399 ∨ n = 400 ∨ n = 401 := by simpa using hn
      rcases this with rfl | rfl | rfl
      · exact ⟨399, rfl, by omega, by omega⟩
      · exact ⟨400, rfl, by omega, by omega⟩
      · exact ⟨401, rfl, by omega, by omega⟩
    have hon56 : OnlyP P w5 w6 := (Only.of_new (below1 _ _)).trans hon6
    have HD6 : Hid (Drw w6 P x cap l) := hd6
    have HR6 : Hid (Var w6 w.heap.size #[.slice none 0 0, .slice none 0 0] 27) := HR5.out.onlyP hon56 (by omega)
    have HV6 : Hid (Var w6 w1.heap.size #[.slice a1 d.1.length c1, .slice b1 d.2.length e1] 27) := HV5.out.onlyP hon56 (by omega)
    have HO6 : Hid (OwnD w6 (w.heap.size + 1) (.agg #[.slice a1 d.1.length c1, .slice b1 d.2.length e1]) d) := HO5.out.onlyP hon56 (by omega)
    have HP6 : Hid (OnlyP P w w6) := HP5.out.trans hon56
    clear hon56 hon6 hd6 HL6 hn
    go_wp2_with (at_make; refine wpList_make_full _ rfl _ _ 25 rfl (w.heap.size + 1) 39 i0 (.agg #[.int .i64 0, .string ⟨#[]⟩]) 2 Tryd.underlying25 hi hz0 hz1 _ _ _ _ K rfl rfl rfl rfl (by rw [hz2]; omega) (by unfold maxLen; omega) (by have := HV6.out.lt; omega) ?_)
    intro w7 hown hgrow
    have hon7 : OnlyP P w6 w7 := (Only.of_grown hgrow).mono fun k _ hk => by simp at hk
    have hown' : w7.ownsRow (w.heap.size + 1) 39 2 (.slice (some ⟨w6.heap.size, 0, none⟩) K K) K ((List.replicate K ((0 : Int), (⟨#[]⟩ : ByteArray))).flatMap encP) := by rw [← made_flat encP_len _ #[.int .i64 0, .string ⟨#[]⟩] rfl (by omega)]; exact hown
    have hD7 : Drw w7 P x cap l := HD6.out.only (Only.of_grown hgrow) (fun k _ hk => by simp at hk)
    have hR7 := HR6.out.onlyP hon7 (by omega)
    have hV7 := HV6.out.onlyP hon7 (by omega)
    have hO7 := HO6.out.onlyP hon7 (by omega)
    have hP7 : OnlyP P w w7 := HP6.out.trans hon7
    have hst : Only (fun j => w.heap.size ≤ j) w7 (w7.setCell ⟨w1.heap.size, 1, none⟩ (.slice (some ⟨w6.heap.size, 0, none⟩) K K)) := Only.setCell (S := fun j => w.heap.size ≤ j) (Only.refl _ _) (p := ⟨w1.heap.size, 1, none⟩) (by show w.heap.size ≤ w1.heap.size; omega) _
    have hO8 : OwnD (w7.setCell ⟨w1.heap.size, 1, none⟩ (.slice (some ⟨w6.heap.size, 0, none⟩) K K)) (w.heap.size + 1) (.agg #[.slice a1 d.1.length c1, .slice (some ⟨w6.heap.size, 0, none⟩) K K]) (d.1, List.replicate K (0, ⟨#[]⟩)) := by
      obtain ⟨z1, z2, hz, o1, o2⟩ := hO7
      simp only [Value.agg.injEq, Array.mk.injEq, List.cons.injEq, and_true] at hz
      obtain ⟨rfl, rfl⟩ := hz
      exact ⟨_, _, rfl, own_setVar o1 hV7 (by decide) _ _, by simp only [List.length_replicate]; exact own_setVar hown' hV7 (by decide) _ _⟩
    have hR8 := hR7.other (Q := w1.heap.size) (by omega) 1 (.slice (some ⟨w6.heap.size, 0, none⟩) K K)
    have hV8 := hV7.set 1 (.slice (some ⟨w6.heap.size, 0, none⟩) K K)
    have HFF : Hid (_) := fin_facts hlt (hD7.only hst (fun j hj h => by omega)) hR8 hO8 (hP7.trans' hst)
    have HRf : Hid (Var (w7.setCell ⟨w1.heap.size, 1, none⟩ (.slice (some ⟨w6.heap.size, 0, none⟩) K K)) w.heap.size #[.slice none 0 0, .slice none 0 0] 27) := hR8
    have hu0 : (w7.setCell ⟨w1.heap.size, 1, none⟩ (.slice (some ⟨w6.heap.size, 0, none⟩) K K)).cell? ⟨w1.heap.size, 0, none⟩ = some (.slice a1 d.1.length c1) := hV8.cell 0
    have hu1 : (w7.setCell ⟨w1.heap.size, 1, none⟩ (.slice (some ⟨w6.heap.size, 0, none⟩) K K)).cell? ⟨w1.heap.size, 1, none⟩ = some (.slice (some ⟨w6.heap.size, 0, none⟩) K K) := hV8.cell 1
    have ht0 : w7.cell? ⟨w1.heap.size, 1, none⟩ = some (.slice b1 d.2.length e1) := hV7.cell 1
    have htf := hV7.frozen 1
    clear hv0 hv1 hown hown' hgrow hon7 hD7 hR7 hV7 hO7 hP7 hst hO8 hR8 hV8 HD6 HR6 HV6 HO6 HP6 HD5 HR5 HV5 HO5 HP5
    obtain ⟨hr0, hr1, hf0, hf1⟩ := fin_cells HRf.out (.slice a1 d.1.length c1)
    go_wp2
    refine bodyPost_ret (results_cell_row rfl _ _ w.heap.size 27 #[(.slice a1 d.1.length c1), (.slice (some ⟨w6.heap.size, 0, none⟩) K K)] (0, 0) _ rfl HFF.out.1 Tryd.underlying27 rfl Tryd.sizeDisk) rfl ?_
    exact ⟨_, (d.1, List.replicate K (0, ⟨#[]⟩)), rfl, HFF.out.2.1, by show 1 ≤ d.1.length; omega, by show d.1.length ≤ 121; omega, by show (List.replicate K _).length ≤ 401; simp; omega, ⟨HSM.out.1, smP_rep _⟩, HFF.out.2.2.1, HFF.out.2.2.2⟩
  have hc4' : ¬ (r : Int) = 4 := by omega
  by_cases hc2 : r = 2
  · subst hc2
    have hlt5' := HV5.out.lt
    obtain ⟨z1, z2, hz, o1, o2⟩ := HO5.out
    simp only [Value.agg.injEq, Array.mk.injEq, List.cons.injEq, and_true] at hz
    obtain ⟨rfl, rfl⟩ := hz
    have o2' := o2.alloc (.cells #[.int .i64 0, .string lng] 39)
    have HRB : Hid (RdF encP 2 (w5.alloc (.cells #[.int .i64 0, .string lng] 39)) (some ⟨w5.heap.size, 0, none⟩) [(0, lng)]) := rd_onePut (Var.made w5 _ _)
    clear o1 o2
    go_wp2_with (at_builtin; refine wpList_append_own_src _ rfl _ _ 25 25 rfl (w.heap.size + 1) 39 i0 (.agg #[.int .i64 0, .string ⟨#[]⟩]) 2 24 Tryd.underlying25 hi hz0 hz1 hz2 rfl _ _ _ rfl o2' _ 1 ([((0 : Int), lng)].flatMap encP) rfl (src_puts 1 HRB.out) ?m1 ?m2 ?m3 ?_)
    case m1 => unfold maxLen; omega
    case m2 => omega
    case m3 => simp; omega
    intro v7 w7 ho7 hg7
    have ho7' : w7.ownsRow (w.heap.size + 1) 39 2 v7 (d.2 ++ [((0 : Int), lng)]).length ((d.2 ++ [((0 : Int), lng)]).flatMap encP) := by
      rw [List.flatMap_append, List.length_append]; exact ho7
    obtain ⟨b7, e7, rfl, _, _⟩ := own_rdF encP_len ho7' rfl
    obtain ⟨hV7, hE1, hE2, hE3, hE4, hE5⟩ := more_facts hlt hs1 HD5.out HR5.out HV5.out HO5.out HP5.out hg7 ho7'
    have hpl : (d.2 ++ [((0 : Int), lng)]).length ≤ 401 := by simp; omega
    have ht1 : w7.cell? ⟨w1.heap.size, 1, none⟩ = some (.slice b1 d.2.length e1) := hV7.cell 1
    have htf := hV7.frozen 1
    clear ho7 hg7 ho7' o2' HRB hV7
    have HSP2 : Hid (SmP (d.2 ++ [((0 : Int), lng)])) := HSM.out.2.app 0 HLN.out
    generalize d.2 ++ [((0 : Int), lng)] = p2 at *
    have HFF : Hid (_) := fin_facts hlt hE1 hE2 hE4 hE5
    have HRf : Hid (Var (w7.setCell ⟨w1.heap.size, 1, none⟩ (.slice b7 p2.length e7)) w.heap.size #[.slice none 0 0, .slice none 0 0] 27) := hE2
    have hu0 : (w7.setCell ⟨w1.heap.size, 1, none⟩ (.slice b7 p2.length e7)).cell? ⟨w1.heap.size, 0, none⟩ = some (.slice a1 d.1.length c1) := hE3.cell 0
    have hu1 : (w7.setCell ⟨w1.heap.size, 1, none⟩ (.slice b7 p2.length e7)).cell? ⟨w1.heap.size, 1, none⟩ = some (.slice b7 p2.length e7) := hE3.cell 1
    clear hE1 hE2 hE3 hE4 hE5 hv0 hv1 HD5 HR5 HV5 HO5 HP5
    obtain ⟨hr0, hr1, hf0, hf1⟩ := fin_cells HRf.out (.slice a1 d.1.length c1)
    go_wp2
    refine bodyPost_ret (results_cell_row rfl _ _ w.heap.size 27 #[(.slice a1 d.1.length c1), (.slice b7 p2.length e7)] (0, 0) _ rfl HFF.out.1 Tryd.underlying27 rfl Tryd.sizeDisk) rfl ?_
    exact ⟨_, (d.1, p2), rfl, HFF.out.2.1, by show 1 ≤ d.1.length; omega, by show d.1.length ≤ 121; omega, by show p2.length ≤ 401; exact hpl, ⟨HSM.out.1, HSP2.out⟩, HFF.out.2.2.1, HFF.out.2.2.2⟩
  have hc2' : ¬ (r : Int) = 2 := by omega
  have hr1 : r = 1 := by omega
  subst hr1
  have hlt5 := HD5.out.lt
  have hlt5' := HV5.out.lt
  have HL6 : Hid (Drw (w5.alloc (.cells (([-1, (d.1.length : Int), 9223372036854775807] : List Int).map (Value.int .i64)).toArray 3)) P x cap l) := HD5.out.alloc _
  have hy1 : (w5.alloc (.cells (([-1, (d.1.length : Int), 9223372036854775807] : List Int).map (Value.int .i64)).toArray 3)).cell? ⟨w1.heap.size, 1, none⟩ = some (.slice b1 d.2.length e1) := (HV5.out.alloc _).cell 1
  simp only [List.map_cons, List.map_nil] at hy1
  go_wp2
  go_region_law (first
    | (refine step_own_src (w6.alloc (.cells #[.int .i64 n, .string ⟨#[]⟩] 39)) rfl (.tmp 23) (.tmp 31) 25 25 rfl (w.heap.size + 1) 39 i0 (.agg #[.int .i64 0, .string ⟨#[]⟩]) 2 24 Tryd.underlying25 hi hz0 hz1 hz2 rfl (.slice b1 d.2.length e1) d.2.length (d.2.flatMap encP) (.slice (some ⟨w6.heap.size, 0, none⟩) 1 1) 1 ([(n, (⟨#[]⟩ : ByteArray))].flatMap encP) ?_ ?_ ?_ ?_ HOP.out (src_puts 1 (rd_onePut (Var.made w6 _ _))) ?_ ?_
       · unfold maxLen; omega
       · omega
       · simp [Act.eval]
       · simp [Act.eval]
       · have := HV6.out.lt; simp; omega
       intro v7 w7 ho7 hg7
       have ho7' : w7.ownsRow (w.heap.size + 1) 39 2 v7 (d.2 ++ [(n, (⟨#[]⟩ : ByteArray))]).length ((d.2 ++ [(n, (⟨#[]⟩ : ByteArray))]).flatMap encP) := by
         rw [List.flatMap_append, List.length_append]; exact ho7
       obtain ⟨b7, e7, rfl, _, _⟩ := own_rdF encP_len ho7' rfl
       obtain ⟨hV7, hE1, hE2, hE3, hE4, hE5⟩ := more_facts hlt hs1 HD6.out HR6.out HV6.out HO6.out HP6.out hg7 ho7'
       have ht1 : w7.cell? ⟨w1.heap.size, 1, none⟩ = some (.slice b1 d.2.length e1) := hV7.cell 1
       have htf := hV7.frozen 1
       clear ho7 hg7 ho7' hV7)
    | (go_simp
       go_at_call 42
       refine (pickIntO P w5.heap.size x cap l [-1, (d.1.length : Int), 9223372036854775807] (w5.alloc (.cells (([-1, (d.1.length : Int), 9223372036854775807] : List Int).map (Value.int .i64)).toArray 3)).drew (by exact HL6.out) 3 rfl (by omega) (by omega) (by omega) (fun j hj => cells_list [-1, (d.1.length : Int), 9223372036854775807] (Value.int .i64) 0 w5.drew _ 3 rfl j hj)).mono ?_
       rintro e w6 ⟨n, _, rfl, hd6, hon6⟩
       have hon6' : OnlyP P (w5.alloc (.cells (([-1, (d.1.length : Int), 9223372036854775807] : List Int).map (Value.int .i64)).toArray 3)) w6 := ⟨hon6.os, hon6.tape, hon6.output, hon6.size, hon6.block⟩
       have hon56 : OnlyP P w5 w6 := (Only.of_new (below1 _ _)).trans hon6'
       have HD6 : Hid (Drw w6 P x cap l) := hd6
       have HR6 : Hid (Var w6 w.heap.size #[.slice none 0 0, .slice none 0 0] 27) := HR5.out.onlyP hon56 (by omega)
       have HV6 : Hid (Var w6 w1.heap.size #[.slice a1 d.1.length c1, .slice b1 d.2.length e1] 27) := HV5.out.onlyP hon56 (by omega)
       have HO6 : Hid (OwnD w6 (w.heap.size + 1) (.agg #[.slice a1 d.1.length c1, .slice b1 d.2.length e1]) d) := HO5.out.onlyP hon56 (by omega)
       have HP6 : Hid (OnlyP P w w6) := HP5.out.trans hon56
       have HOP : Hid ((w6.alloc (.cells #[.int .i64 n, .string ⟨#[]⟩] 39)).ownsRow (w.heap.size + 1) 39 2 (.slice b1 d.2.length e1) d.2.length (d.2.flatMap encP)) := by
         obtain ⟨z1, z2, hz, o1, o2⟩ := HO6.out
         simp only [Value.agg.injEq, Array.mk.injEq, List.cons.injEq, and_true] at hz
         obtain ⟨rfl, rfl⟩ := hz
         exact o2.alloc _
       have hx1 : w6.cell? ⟨w1.heap.size, 1, none⟩ = some (.slice b1 d.2.length e1) := HV6.out.cell 1
       have hx2 : (w6.alloc (.cells #[.int .i64 n, .string ⟨#[]⟩] 39)).cell? ⟨w1.heap.size, 1, none⟩ = some (.slice b1 d.2.length e1) := (HV6.out.alloc _).cell 1
       clear hd6 hon6 hon6' hon56))
  all_goals
    have hpe : (d.2 ++ [(n, (⟨#[]⟩ : ByteArray))]).length = d.2.length + 1 := by simp
    have hpl : (d.2 ++ [(n, (⟨#[]⟩ : ByteArray))]).length ≤ 401 := by omega
    rw [hpe] at hE1 hE2 hE3 hE4 hE5
    clear hpe
    have HSP2 : Hid (SmP (d.2 ++ [(n, (⟨#[]⟩ : ByteArray))])) := HSM.out.2.app n (by decide)
    generalize d.2 ++ [(n, (⟨#[]⟩ : ByteArray))] = p2 at *
    have HFF : Hid (_) := fin_facts hlt hE1 hE2 hE4 hE5
    have HRf : Hid (Var (w7.setCell ⟨w1.heap.size, 1, none⟩ (.slice b7 (d.2.length + 1) e7)) w.heap.size #[.slice none 0 0, .slice none 0 0] 27) := hE2
    have hu0 : (w7.setCell ⟨w1.heap.size, 1, none⟩ (.slice b7 (d.2.length + 1) e7)).cell? ⟨w1.heap.size, 0, none⟩ = some (.slice a1 d.1.length c1) := hE3.cell 0
    have hu1 : (w7.setCell ⟨w1.heap.size, 1, none⟩ (.slice b7 (d.2.length + 1) e7)).cell? ⟨w1.heap.size, 1, none⟩ = some (.slice b7 (d.2.length + 1) e7) := hE3.cell 1
    clear hE1 hE2 hE3 hE4 hE5 hv0 hv1 hy1 hx1 hx2 ht1 htf HD5 HR5 HV5 HO5 HP5 HD6 HR6 HV6 HO6 HP6 HOP HL6
    obtain ⟨hr0, hr1, hf0, hf1⟩ := fin_cells HRf.out (.slice a1 d.1.length c1)
    go_wp2
    refine bodyPost_ret (results_cell_row rfl _ _ w.heap.size 27 #[(.slice a1 d.1.length c1), (.slice b7 (d.2.length + 1) e7)] (0, 0) _ rfl HFF.out.1 Tryd.underlying27 rfl Tryd.sizeDisk) rfl ?_
    exact ⟨_, (d.1, p2), rfl, HFF.out.2.1, by show 1 ≤ d.1.length; omega, by show d.1.length ≤ 121; omega, by show p2.length ≤ 401; exact hpl, ⟨HSM.out.1, HSP2.out⟩, HFF.out.2.2.1, HFF.out.2.2.2⟩
end Go.Proofs.YtlidmnehpcodkaaDoor
