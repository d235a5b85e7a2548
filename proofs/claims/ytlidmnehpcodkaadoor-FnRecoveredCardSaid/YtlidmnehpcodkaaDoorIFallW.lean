/-
  Own text: what falls, as the program does it.
-/
import Derived.Test.YtlidmnehpcodkaaDoorISettleW
namespace Go.Proofs.YtlidmnehpcodkaaDoor
open Go.RowKit

set_option maxRecDepth 20000 in
set_option maxHeartbeats 2000000 in
theorem implFall (v : Value) (d : DiskD) (q : Option Addr) (qc : Nat) (ks : List Bool) (w : World) (hl : d.1.length ≤ 4194303 ∧ d.2.length ≤ 4194303) (hs : SmD d) (hr : RdD w v d) (hrq : RdF encB 1 w q ks) :
    Calls Tryd.prog 19 #[v, .slice q ks.length qc] w fun e w' => ∃ v', e = .returned v' ∧ OwnD w' w.heap.size v' (dkFall d ks) ∧ Below w.heap.size w w' := by
  obtain ⟨a, ca, b, cb, rfl, r1, r2⟩ := hr
  obtain ⟨hl1, hl2⟩ := hl
  have HDF : Hid (dkFall d ks = if dkOk d = true then (putIn d.1 (keepL d.2 ks), []) else d) := rfl
  have HRQ : Hid (∀ W, Below w.heap.size w W → RdF encB 1 W q ks) := fun W h => hrq.below h (Nat.le_refl _)
  have HFR : Hid (∀ W, Below w.heap.size w W → W.cell? ⟨w.heap.size, 0, none⟩ = some (.slice a d.1.length ca) → W.cell? ⟨w.heap.size, 1, none⟩ = some (.slice b d.2.length cb) → Calls Tryd.prog 45 #[.pointer (some ⟨w.heap.size, 0, none⟩)] W fun e w' => ∃ v1 v2, e = .returned (.pointer (some ⟨W.heap.size, 0, none⟩)) ∧ Var w' W.heap.size #[v1, v2] 27 ∧ OwnD w' (W.heap.size + 1) (.agg #[v1, v2]) d ∧ Below W.heap.size W w') :=
    fun W h h0 h1 => implFresh w.heap.size a b ca cb d W ⟨by omega, by omega⟩ hs h0 h1 (r1.below h (Nat.le_refl _)) (r2.below h (Nat.le_refl _))
  clear r1 r2 hs hrq
  go_enter Tryd.func19, Tryd.ntmps19
  go_wp2_with fail
  refine (HFR.out _ (below2 _ _ _) (((Var.made w _ _).alloc _).cell 0) (((Var.made w _ _).alloc _).cell 1)).mono ?_
  rintro e w1 ⟨v1, v2, rfl, hV1, hO1, hb1⟩
  have hs0 : ((w.alloc (.cells #[.slice a d.1.length ca, .slice b d.2.length cb] 27)).alloc (.cells #[.slice none 0 0, .slice none 0 0] 27)).heap.size = w.heap.size + 2 := by simp
  rw [hs0] at hV1 hO1 ⊢
  have hR1 : Var w1 (w.heap.size + 1) #[.slice none 0 0, .slice none 0 0] 27 := (Var.made2 w _ _ _).new hb1
  have hb01 : Below w.heap.size w w1 := (below2 w _ _).trans (hb1.mono (by omega))
  obtain ⟨a1, c1, b1, d1, he⟩ := hO1.shape
  cases he
  have HR1 : Hid (Var w1 (w.heap.size + 1) #[.slice none 0 0, .slice none 0 0] 27) := hR1
  have HV1 : Hid (Var w1 (w.heap.size + 2) #[.slice a1 d.1.length c1, .slice b1 d.2.length d1] 27) := hV1
  have HO1 : Hid (OwnD w1 (w.heap.size + 2 + 1) (.agg #[.slice a1 d.1.length c1, .slice b1 d.2.length d1]) d) := hO1
  have HOK : Hid (∀ Q, dkOk d = Q → Calls Tryd.prog 60 #[.pointer (some ⟨w.heap.size + 2, 0, none⟩)] w1 fun e w' => e = .returned (.bool Q) ∧ Below w1.heap.size w1 w') := by
    rintro Q rfl
    obtain ⟨x1, x2, x3, x4, hx, h1, h2⟩ := hO1.rd
    cases hx
    exact implOk (w.heap.size + 2) _ _ _ _ d w1 ⟨by omega, by omega⟩ (hV1.cell 0) (hV1.cell 1) h1 h2
  clear HFR hR1 hV1 hO1 hb1 hs0
  cases hok : dkOk d with
  | false =>
    have HF : Hid (dkFall d ks = d) := by show _ = _; rw [HDF.out, hok]; rfl
    have HOK' : Hid (Calls Tryd.prog 60 #[.pointer (some ⟨w.heap.size + 2, 0, none⟩)] w1 fun e w' => e = .returned (.bool false) ∧ Below w1.heap.size w1 w') := HOK.out false hok
    clear HOK HDF hok
    go_wp2_with fail
    refine HOK'.out.mono ?_
    rintro e w3 ⟨rfl, hb3⟩
    have hV3 := HV1.out.new hb3
    have HR3 : Hid (Var w3 (w.heap.size + 1) #[.slice none 0 0, .slice none 0 0] 27) := HR1.out.new hb3
    have hO3 := HO1.out.below hb3
    have hb03 : Below w.heap.size w w3 := hb01.trans (hb3.mono hb01.size)
    have HO10 : Hid (OwnD ((w3.setCell ⟨w.heap.size + 1, 0, none⟩ (.slice a1 d.1.length c1)).setCell ⟨w.heap.size + 1, 1, none⟩ (.slice b1 d.2.length d1)) w.heap.size (.agg #[.slice a1 d.1.length c1, .slice b1 d.2.length d1]) d) := ((hO3.setVar HR3.out 0 _).setVar (HR3.out.set 0 _) 1 _).base (by omega)
    have HR10 : Hid (Var ((w3.setCell ⟨w.heap.size + 1, 0, none⟩ (.slice a1 d.1.length c1)).setCell ⟨w.heap.size + 1, 1, none⟩ (.slice b1 d.2.length d1)) (w.heap.size + 1) #[.slice a1 d.1.length c1, .slice b1 d.2.length d1] 27) := HR3.out.two _ _
    have hb10 : Below w.heap.size w ((w3.setCell ⟨w.heap.size + 1, 0, none⟩ (.slice a1 d.1.length c1)).setCell ⟨w.heap.size + 1, 1, none⟩ (.slice b1 d.2.length d1)) := (hb03.setCell (p := ⟨w.heap.size + 1, 0, none⟩) (by show _ ≤ w.heap.size + 1; omega) _).setCell (p := ⟨w.heap.size + 1, 1, none⟩) (by show _ ≤ w.heap.size + 1; omega) _
    have hv0 : w3.cell? ⟨w.heap.size + 2, 0, none⟩ = some (.slice a1 d.1.length c1) := hV3.cell 0
    have hv1 : w3.cell? ⟨w.heap.size + 2, 1, none⟩ = some (.slice b1 d.2.length d1) := hV3.cell 1
    have hq0 := HR3.out.cell 0
    have hq1 := (HR3.out.set 0 (.slice a1 d.1.length c1)).cell 1
    have hk0 := HR3.out.frozen 0
    have hk1 := HR3.out.frozen 1
    simp at hq0 hq1
    clear hV3 hO3 hb3 hb03 hb01 HV1 HO1 HR1 HOK'
    go_wp2
    refine bodyPost_ret (results_cell_row rfl _ _ (w.heap.size + 1) 27 #[.slice a1 d.1.length c1, .slice b1 d.2.length d1] (0, 0) _ rfl HR10.out Tryd.underlying27 rfl Tryd.sizeDisk) rfl ?_
    exact ⟨_, rfl, by rw [HF.out]; exact HO10.out, hb10⟩
  | true =>
    have HF : Hid (dkFall d ks = (putIn d.1 (keepL d.2 ks), [])) := by show _ = _; rw [HDF.out, hok]; rfl
    have HOK' : Hid (Calls Tryd.prog 60 #[.pointer (some ⟨w.heap.size + 2, 0, none⟩)] w1 fun e w' => e = .returned (.bool true) ∧ Below w1.heap.size w1 w') := HOK.out true hok
    have HOKT : Hid (dkOk d = true) := hok
    clear HOK HDF hok
    go_wp2_with fail
    refine HOK'.out.mono ?_
    rintro e w3 ⟨rfl, hb3⟩
    have HV3 : Hid (Var w3 (w.heap.size + 2) #[.slice a1 d.1.length c1, .slice b1 d.2.length d1] 27) := HV1.out.new hb3
    have HR3 : Hid (Var w3 (w.heap.size + 1) #[.slice none 0 0, .slice none 0 0] 27) := HR1.out.new hb3
    have HO3 : Hid (OwnD w3 (w.heap.size + 2 + 1) (.agg #[.slice a1 d.1.length c1, .slice b1 d.2.length d1]) d) := HO1.out.below hb3
    have HB03 : Hid (Below w.heap.size w w3) := hb01.trans (hb3.mono hb01.size)
    clear hb3 hb01 HV1 HO1 HR1 HOK'
    go_wp2_with fail
    have HST : Hid (Calls Tryd.prog 47 #[.pointer (some ⟨w.heap.size + 2, 0, none⟩), .slice q ks.length qc] w3 fun e w' => (∃ r, e = .returned r) ∧ Var w' (w.heap.size + 2) #[.slice a1 d.1.length c1, .slice none 0 0] 27 ∧ w'.ownsRow (w.heap.size + 2 + 1) 9 1 (.slice a1 d.1.length c1) d.1.length ((putIn d.1 (keepL d.2 ks)).map Value.string) ∧ Below (w.heap.size + 2) w3 w') := by
      obtain ⟨u1, u2, he, h1, h2⟩ := HO3.out
      cases he
      exact implSettle (w.heap.size + 2) (w.heap.size + 2 + 1) a1 b1 c1 d1 d q qc ks w3 HOKT.out (by omega) HV3.out h1 h2 (fun W h => HRQ.out W (HB03.out.trans (h.mono (by omega))))
    refine HST.out.mono ?_
    rintro e w4 ⟨⟨r, rfl⟩, hV4, ho4, hb4⟩
    have HR4 : Hid (Var w4 (w.heap.size + 1) #[.slice none 0 0, .slice none 0 0] 27) := HR3.out.below hb4 (by omega)
    have hb04 : Below w.heap.size w w4 := HB03.out.trans (hb4.mono (by omega))
    have hO4 : OwnD w4 (w.heap.size + 2 + 1) (.agg #[.slice a1 d.1.length c1, .slice none 0 0]) (putIn d.1 (keepL d.2 ks), []) := by
      refine ⟨_, _, rfl, ?_, World.ownsRow_nil _ _ _ _⟩
      rw [putIn_len]
      exact ho4
    have HO10 : Hid (OwnD ((w4.setCell ⟨w.heap.size + 1, 0, none⟩ (.slice a1 d.1.length c1)).setCell ⟨w.heap.size + 1, 1, none⟩ (.slice none 0 0)) w.heap.size (.agg #[.slice a1 d.1.length c1, .slice none 0 0]) (putIn d.1 (keepL d.2 ks), [])) := ((hO4.setVar HR4.out 0 _).setVar (HR4.out.set 0 _) 1 _).base (by omega)
    have HR10 : Hid (Var ((w4.setCell ⟨w.heap.size + 1, 0, none⟩ (.slice a1 d.1.length c1)).setCell ⟨w.heap.size + 1, 1, none⟩ (.slice none 0 0)) (w.heap.size + 1) #[.slice a1 d.1.length c1, .slice none 0 0] 27) := HR4.out.two _ _
    have hb10 : Below w.heap.size w ((w4.setCell ⟨w.heap.size + 1, 0, none⟩ (.slice a1 d.1.length c1)).setCell ⟨w.heap.size + 1, 1, none⟩ (.slice none 0 0)) := (hb04.setCell (p := ⟨w.heap.size + 1, 0, none⟩) (by show _ ≤ w.heap.size + 1; omega) _).setCell (p := ⟨w.heap.size + 1, 1, none⟩) (by show _ ≤ w.heap.size + 1; omega) _
    have hv0 : w4.cell? ⟨w.heap.size + 2, 0, none⟩ = some (.slice a1 d.1.length c1) := hV4.cell 0
    have hv1 : w4.cell? ⟨w.heap.size + 2, 1, none⟩ = some (.slice none 0 0) := hV4.cell 1
    have hq0 := HR4.out.cell 0
    have hq1 := (HR4.out.set 0 (.slice a1 d.1.length c1)).cell 1
    have hk0 := HR4.out.frozen 0
    have hk1 := HR4.out.frozen 1
    simp at hq0 hq1
    clear hV4 hO4 hb4 hb04 ho4 HV3 HR3 HO3 HB03 HST HRQ
    go_wp2
    refine bodyPost_ret (results_cell_row rfl _ _ (w.heap.size + 1) 27 #[.slice a1 d.1.length c1, .slice none 0 0] (0, 0) _ rfl HR10.out Tryd.underlying27 rfl Tryd.sizeDisk) rfl ?_
    exact ⟨_, rfl, by rw [HF.out]; exact HO10.out, hb10⟩
end Go.Proofs.YtlidmnehpcodkaaDoor
