/-
  Own text: a write, as the program takes it.
-/
import Derived.Test.YtlidmnehpcodkaaDoorIWithW
namespace Go.Proofs.YtlidmnehpcodkaaDoor
open Go.RowKit

theorem dkOk_less {d : DiskD} {x : PutD} (h : dkOk (d.1, d.2 ++ [x]) = true) : dkOk d = true := by
  obtain ⟨h1, h2, h3, h4⟩ := dkOk_iff.1 h
  refine dkOk_iff.2 ⟨h1, ?_, h3, fun p hp => h4 p (List.mem_append_left _ hp)⟩
  simp at h2
  omega
theorem OwnD.caps {w : World} {lo : Nat} {a b : Option Addr} {n m ca cb : Nat} {d : DiskD} (h : OwnD w lo (.agg #[.slice a n ca, .slice b m cb]) d) : d.2.length ≤ cb ∧ (b = none → d.2.length = 0) := by
  obtain ⟨v1, v2, he, _, h2⟩ := h
  cases he
  rcases h2.2 with ⟨he, h0⟩ | ⟨g, cap, cur, he, _, _, hc, _⟩
  · cases he; omega
  · cases he; exact ⟨hc, fun h => by cases h⟩

set_option maxRecDepth 20000 in
set_option maxHeartbeats 2000000 in
theorem implSectorWrite (v : Value) (d : DiskD) (at' : Int) (s : ByteArray) (w : World) (lo : Nat) (hl : d.1.length ≤ 4194303 ∧ d.2.length ≤ 4194303) (hs : SmD d) (ho : OwnD w lo v d) :
    Calls Tryd.prog 61 #[v, .int .i64 at', .string s] w fun e w' => ∃ v', e = .returned (.tuple #[v', .bool (wrOk d at' s)]) ∧ OwnD w' w.heap.size v' (wrD d at' s) ∧ Below w.heap.size w w' := by
  obtain ⟨a, ca, b, cb, rfl⟩ := ho.shape
  obtain ⟨hcap, hnil⟩ := ho.caps
  obtain ⟨x1, x2, x3, x4, he, r1, r2⟩ := ho.rd
  cases he
  obtain ⟨hl1, hl2⟩ := hl
  have HNO : Hid (dkOk (d.1, d.2 ++ [(at', s)]) = false → wrD d at' s = d ∧ wrOk d at' s = false) := fun h => wr_no (by rw [h]; simp)
  have HYE : Hid (dkOk (d.1, d.2 ++ [(at', s)]) = true → wrD d at' s = (d.1, d.2 ++ [(at', s)]) ∧ wrOk d at' s = true) := fun h => wr_yes ⟨dkOk_less h, h⟩
  have HR1 : Hid (∀ W, Below w.heap.size w W → RdS W a d.1) := fun W h => r1.below h (Nat.le_refl _)
  have HR2 : Hid (∀ W, Below w.heap.size w W → RdF encP 2 W b d.2) := fun W h => r2.below h (Nat.le_refl _)
  have HFR : Hid (∀ W, Below w.heap.size w W → W.cell? ⟨w.heap.size, 0, none⟩ = some (.slice a d.1.length ca) → W.cell? ⟨w.heap.size, 1, none⟩ = some (.slice b d.2.length cb) → Calls Tryd.prog 45 #[.pointer (some ⟨w.heap.size, 0, none⟩)] W fun e w' => ∃ v1 v2, e = .returned (.pointer (some ⟨W.heap.size, 0, none⟩)) ∧ Var w' W.heap.size #[v1, v2] 27 ∧ OwnD w' (W.heap.size + 1) (.agg #[v1, v2]) d ∧ Below W.heap.size W w') :=
    fun W h h0 h1 => implFresh w.heap.size a b ca cb d W ⟨by omega, by omega⟩ hs h0 h1 (HR1.out W h) (HR2.out W h)
  have HWI : Hid (∀ W, Below w.heap.size w W → W.cell? ⟨w.heap.size, 0, none⟩ = some (.slice a d.1.length ca) → W.cell? ⟨w.heap.size, 1, none⟩ = some (.slice b d.2.length cb) → Calls Tryd.prog 101 #[.pointer (some ⟨w.heap.size, 0, none⟩), .agg #[.int .i64 at', .string s]] W fun e w' => ∃ Q b' cb', e = .returned (.pointer (some ⟨Q, 0, none⟩)) ∧ Var w' Q #[.slice a d.1.length ca, .slice b' (d.2.length + 1) cb'] 27 ∧ RdF encP 2 w' b' (d.2 ++ [(at', s)]) ∧ W.heap.size ≤ Q ∧ Below W.heap.size W w') :=
    fun W h h0 h1 => implWith w.heap.size a b ca cb d at' s W hl2 h0 h1 hcap hnil (HR2.out W h)
  have hLA : (d.2 ++ [(at', s)]).length = d.2.length + 1 := by simp
  clear r1 r2 hs ho hcap hnil
  rw [← hLA] at HWI
  generalize d.2 ++ [(at', s)] = L at *
  have hLL : L.length ≤ 4194304 := by omega
  clear hLA
  go_enter Tryd.func61, Tryd.ntmps61
  go_wp2_with fail
  refine (HWI.out _ (below2 _ _ _) (((Var.made w _ _).alloc _).cell 0) (((Var.made w _ _).alloc _).cell 1)).mono ?_
  rintro e w1 ⟨Q, b', cb', rfl, hV1, hr1, hQ, hb1⟩
  have hs0 : ((w.alloc (.cells #[.slice a d.1.length ca, .slice b d.2.length cb] 27)).alloc (.cells #[.slice none 0 0, .slice none 0 0] 27)).heap.size = w.heap.size + 2 := by simp
  have hX1 : Var w1 w.heap.size #[.slice a d.1.length ca, .slice b d.2.length cb] 27 := ((Var.made w _ _).alloc _).new hb1
  have hT1 : Var w1 (w.heap.size + 1) #[.slice none 0 0, .slice none 0 0] 27 := (Var.made2 w _ _ _).new hb1
  have hb01 : Below w.heap.size w w1 := (below2 w _ _).trans (hb1.mono (by omega))
  rw [hs0] at hQ
  have HX1 : Hid (Var w1 w.heap.size #[.slice a d.1.length ca, .slice b d.2.length cb] 27) := hX1
  have HT1 : Hid (Var w1 (w.heap.size + 1) #[.slice none 0 0, .slice none 0 0] 27) := hT1
  have HV1 : Hid (Var w1 Q #[.slice a d.1.length ca, .slice b' L.length cb'] 27) := hV1
  have HL1 : Hid (RdF encP 2 w1 b' L) := hr1
  have HOK : Hid (∀ R, dkOk (d.1, L) = R → Calls Tryd.prog 60 #[.pointer (some ⟨Q, 0, none⟩)] w1 fun e w' => e = .returned (.bool R) ∧ Below w1.heap.size w1 w') := by
    rintro R rfl
    exact implOk Q a b' ca cb' (d.1, L) w1 ⟨by show d.1.length ≤ _; omega, by show L.length ≤ _; omega⟩ (hV1.cell 0) (hV1.cell 1) (HR1.out _ hb01) hr1
  clear HWI hs0 hb1 hV1 hr1 hX1 hT1
  cases hok : dkOk (d.1, L) with
  | false =>
    have HF : Hid (wrD d at' s = d ∧ wrOk d at' s = false) := HNO.out hok
    have HOK' := HOK.out false hok
    have HOK2 : Hid (Calls Tryd.prog 60 #[.pointer (some ⟨Q, 0, none⟩)] w1 fun e w' => e = .returned (.bool false) ∧ Below w1.heap.size w1 w') := HOK'
    clear HOK HOK' hok HNO HYE
    go_wp2_with fail
    refine HOK2.out.mono ?_
    rintro e w2 ⟨rfl, hb2⟩
    have HX2 : Hid (Var w2 w.heap.size #[.slice a d.1.length ca, .slice b d.2.length cb] 27) := HX1.out.new hb2
    have HT2 : Hid (Var w2 (w.heap.size + 1) #[.slice none 0 0, .slice none 0 0] 27) := HT1.out.new hb2
    have hb02 : Below w.heap.size w w2 := hb01.trans (hb2.mono hb01.size)
    have hlt2 := HT2.out.lt
    clear HX1 HT1 HV1 HL1 HOK2 hb01 hb2
    go_wp2_with fail
    refine (HFR.out _ hb02 (HX2.out.cell 0) (HX2.out.cell 1)).mono ?_
    rintro e w3 ⟨v1, v2, rfl, hV3, hO3, hb3⟩
    obtain ⟨a3, c3, b3, d3, he⟩ := hO3.shape
    cases he
    have HR3 : Hid (Var w3 (w.heap.size + 1) #[.slice none 0 0, .slice none 0 0] 27) := HT2.out.new hb3
    have hb03 : Below w.heap.size w w3 := hb02.trans (hb3.mono hb02.size)
    have HO10 : Hid (OwnD ((w3.setCell ⟨w.heap.size + 1, 0, none⟩ (.slice a3 d.1.length c3)).setCell ⟨w.heap.size + 1, 1, none⟩ (.slice b3 d.2.length d3)) w.heap.size (.agg #[.slice a3 d.1.length c3, .slice b3 d.2.length d3]) d) := ((hO3.setVar HR3.out 0 _).setVar (HR3.out.set 0 _) 1 _).base (by omega)
    have HR10 : Hid (Var ((w3.setCell ⟨w.heap.size + 1, 0, none⟩ (.slice a3 d.1.length c3)).setCell ⟨w.heap.size + 1, 1, none⟩ (.slice b3 d.2.length d3)) (w.heap.size + 1) #[.slice a3 d.1.length c3, .slice b3 d.2.length d3] 27) := HR3.out.two _ _
    have hb10 : Below w.heap.size w ((w3.setCell ⟨w.heap.size + 1, 0, none⟩ (.slice a3 d.1.length c3)).setCell ⟨w.heap.size + 1, 1, none⟩ (.slice b3 d.2.length d3)) := (hb03.setCell (p := ⟨w.heap.size + 1, 0, none⟩) (by show _ ≤ w.heap.size + 1; omega) _).setCell (p := ⟨w.heap.size + 1, 1, none⟩) (by show _ ≤ w.heap.size + 1; omega) _
    have hv0 : w3.cell? ⟨w2.heap.size, 0, none⟩ = some (.slice a3 d.1.length c3) := hV3.cell 0
    have hv1 : w3.cell? ⟨w2.heap.size, 1, none⟩ = some (.slice b3 d.2.length d3) := hV3.cell 1
    have hq0 := HR3.out.cell 0
    have hq1 := (HR3.out.set 0 (.slice a3 d.1.length c3)).cell 1
    have hk0 := HR3.out.frozen 0
    have hk1 := HR3.out.frozen 1
    simp at hq0 hq1
    clear hV3 hO3 hb3 hb03 hb02 HX2 HT2 HR3 HFR
    go_wp2
    refine bodyPost_ret (results_row_tmp rfl _ _ (w.heap.size + 1) 27 #[.slice a3 d.1.length c3, .slice b3 d.2.length d3] _ rfl HR10.out Tryd.underlying27 rfl Tryd.sizeDisk) rfl ?_
    exact ⟨_, by rw [HF.out.2]; rfl, by rw [HF.out.1]; exact HO10.out, hb10⟩
  | true =>
    have HF : Hid (wrD d at' s = (d.1, L) ∧ wrOk d at' s = true) := HYE.out hok
    have HOK' := HOK.out true hok
    have HOK2 : Hid (Calls Tryd.prog 60 #[.pointer (some ⟨Q, 0, none⟩)] w1 fun e w' => e = .returned (.bool true) ∧ Below w1.heap.size w1 w') := HOK'
    have HSL : Hid (SmD (d.1, L)) := smD_ok hok
    clear HOK HOK' hok HNO HYE
    go_wp2_with fail
    refine HOK2.out.mono ?_
    rintro e w2 ⟨rfl, hb2⟩
    have HV2 : Hid (Var w2 Q #[.slice a d.1.length ca, .slice b' L.length cb'] 27) := HV1.out.new hb2
    have HT2 : Hid (Var w2 (w.heap.size + 1) #[.slice none 0 0, .slice none 0 0] 27) := HT1.out.new hb2
    have HL2 : Hid (RdF encP 2 w2 b' L) := HL1.out.below hb2 (Nat.le_refl _)
    have hb02 : Below w.heap.size w w2 := hb01.trans (hb2.mono hb01.size)
    have hlt2 := HT2.out.lt
    have HFN : Hid (Calls Tryd.prog 45 #[.pointer (some ⟨Q, 0, none⟩)] w2 fun e w' => ∃ v1 v2, e = .returned (.pointer (some ⟨w2.heap.size, 0, none⟩)) ∧ Var w' w2.heap.size #[v1, v2] 27 ∧ OwnD w' (w2.heap.size + 1) (.agg #[v1, v2]) (d.1, L) ∧ Below w2.heap.size w2 w') := implFresh Q a b' ca cb' (d.1, L) w2 ⟨by show d.1.length ≤ _; omega, by show L.length ≤ _; omega⟩ HSL.out (HV2.out.cell 0) (HV2.out.cell 1) (HR1.out _ hb02) HL2.out
    clear HX1 HT1 HV1 HL1 HOK2 hb01 hb2 HL2 HV2 HFR
    go_wp2_with fail
    refine HFN.out.mono ?_
    rintro e w3 ⟨v1, v2, rfl, hV3, hO3, hb3⟩
    obtain ⟨a3, c3, b3, d3, he⟩ := hO3.shape
    cases he
    have HR3 : Hid (Var w3 (w.heap.size + 1) #[.slice none 0 0, .slice none 0 0] 27) := HT2.out.new hb3
    have hb03 : Below w.heap.size w w3 := hb02.trans (hb3.mono hb02.size)
    have HO10 : Hid (OwnD ((w3.setCell ⟨w.heap.size + 1, 0, none⟩ (.slice a3 d.1.length c3)).setCell ⟨w.heap.size + 1, 1, none⟩ (.slice b3 L.length d3)) w.heap.size (.agg #[.slice a3 d.1.length c3, .slice b3 L.length d3]) (d.1, L)) := ((hO3.setVar HR3.out 0 _).setVar (HR3.out.set 0 _) 1 _).base (by omega)
    have HR10 : Hid (Var ((w3.setCell ⟨w.heap.size + 1, 0, none⟩ (.slice a3 d.1.length c3)).setCell ⟨w.heap.size + 1, 1, none⟩ (.slice b3 L.length d3)) (w.heap.size + 1) #[.slice a3 d.1.length c3, .slice b3 L.length d3] 27) := HR3.out.two _ _
    have hb10 : Below w.heap.size w ((w3.setCell ⟨w.heap.size + 1, 0, none⟩ (.slice a3 d.1.length c3)).setCell ⟨w.heap.size + 1, 1, none⟩ (.slice b3 L.length d3)) := (hb03.setCell (p := ⟨w.heap.size + 1, 0, none⟩) (by show _ ≤ w.heap.size + 1; omega) _).setCell (p := ⟨w.heap.size + 1, 1, none⟩) (by show _ ≤ w.heap.size + 1; omega) _
    have hv0 : w3.cell? ⟨w2.heap.size, 0, none⟩ = some (.slice a3 d.1.length c3) := hV3.cell 0
    have hv1 : w3.cell? ⟨w2.heap.size, 1, none⟩ = some (.slice b3 L.length d3) := hV3.cell 1
    have hq0 := HR3.out.cell 0
    have hq1 := (HR3.out.set 0 (.slice a3 d.1.length c3)).cell 1
    have hk0 := HR3.out.frozen 0
    have hk1 := HR3.out.frozen 1
    simp at hq0 hq1
    clear hV3 hO3 hb3 hb03 hb02 HT2 HR3 HFN HSL
    go_wp2
    refine bodyPost_ret (results_row_tmp rfl _ _ (w.heap.size + 1) 27 #[.slice a3 d.1.length c3, .slice b3 L.length d3] _ rfl HR10.out Tryd.underlying27 rfl Tryd.sizeDisk) rfl ?_
    exact ⟨_, by rw [HF.out.2]; rfl, by rw [HF.out.1]; exact HO10.out, hb10⟩
end Go.Proofs.YtlidmnehpcodkaaDoor
