/-
  Own text: a recovery, as the other program does it.
-/
import Derived.Test.YtlidmnehpcodkaaDoorSHeadOfW
import Derived.Test.YtlidmnehpcodkaaDoorSHomeW
import Derived.Test.YtlidmnehpcodkaaDoorBunS
import Derived.Test.YtlidmnehpcodkaaDoorBunC
namespace Go.Proofs.YtlidmnehpcodkaaDoor
open Go.RowKit

/-- What is known while the sectors are put right. -/
structure RInv (w W : World) (Q g c : Nat) (b : Option Addr) (e : Nat) (X : List ByteArray) : Prop where
  var : Var W Q #[.slice (some ⟨g, 0, none⟩) X.length c, .slice b 0 e] 27
  own : W.ownsRow (w.heap.size + 2) 9 1 (.slice (some ⟨g, 0, none⟩) X.length c) X.length (X.map Value.string)
  pend : W.ownsRow (w.heap.size + 2) 39 2 (.slice b 0 e) 0 []
  res : Var W (w.heap.size + 1) #[.slice none 0 0, .slice none 0 0] 27
  below : Below w.heap.size w W
theorem RInv.new {w W W' : World} {Q g c : Nat} {b : Option Addr} {e : Nat} {X : List ByteArray} (h : RInv w W Q g c b e X) (hb : Below W.heap.size W W') : RInv w W' Q g c b e X :=
  ⟨h.var.new hb, ownsRow_below h.own hb (Nat.le_refl _), ownsRow_below h.pend hb (Nat.le_refl _), h.res.new hb, h.below.trans (hb.mono h.below.size)⟩
theorem RInv.gbase {w W : World} {Q g c : Nat} {b : Option Addr} {e : Nat} {X : List ByteArray} (h : RInv w W Q g c b e X) : w.heap.size + 2 ≤ g ∧ g < W.heap.size ∧ g ≠ Q := by
  have h1 := h.own.lt g rfl
  refine ⟨h1.1, h1.2, fun he => ?_⟩
  exact own_var h.own h.var (by decide) (by rw [← he]; rfl)
theorem RInv.cap {w W : World} {Q g c : Nat} {b : Option Addr} {e : Nat} {X : List ByteArray} (h : RInv w W Q g c b e X) : X.length ≤ c := by
  rcases h.own.2 with ⟨he, _⟩ | ⟨g', c', cur, he, _, _, hc, _⟩
  · cases he
  · cases he; exact hc
theorem RInv.put {w W : World} {Q g c : Nat} {b : Option Addr} {e : Nat} {X : List ByteArray} (h : RInv w W Q g c b e X) (j : Nat) (y : ByteArray) : RInv w (W.setCell ⟨g, j, none⟩ (.string y)) Q g c b e (X.set j y) := by
  obtain ⟨g1, g2, g3⟩ := h.gbase
  have hoo : Only (fun k => k = g) W (W.setCell ⟨g, j, none⟩ (.string y)) := Only.setCell (S := fun k => k = g) (Only.refl _ _) (p := ⟨g, j, none⟩) rfl _
  have hst := (h.own.stored j (.string y)).1
  rw [← List.map_set] at hst
  refine ⟨by rw [List.length_set]; exact h.var.only hoo (fun he => g3 he.symm), by rw [List.length_set]; exact hst, own_only h.pend hoo (fun k hk he => own_apart h.pend h.own (by decide) k hk (by rw [he]; rfl)), h.res.only hoo (fun he => by omega), h.below.setCell (p := ⟨g, j, none⟩) (by show _ ≤ g; omega) _⟩
theorem RInv.cell {w W : World} {Q g c : Nat} {b : Option Addr} {e : Nat} {X : List ByteArray} (h : RInv w W Q g c b e X) {j : Nat} (hj : j < X.length) : W.cell? ⟨g, j, none⟩ = some (.string (X.getD j ⟨#[]⟩)) ∧ W.frozen? ⟨g, j, none⟩ = false := by
  refine ⟨?_, h.own.frozenAt j⟩
  rw [h.own.cellAt j (by omega)]
  simp [List.getD, hj]

set_option maxRecDepth 20000 in
set_option maxHeartbeats 4000000 in
theorem specRecover (v : Value) (d : DiskD) (n : Int) (w : World) (hl : d.1.length ≤ 4194303 ∧ d.2.length ≤ 4194303) (hr : RdD w v d) :
    Calls Tryd.prog 22 #[v, .int .i64 n] w fun e w' => ∃ v', e = .returned v' ∧ OwnD w' w.heap.size v' (recD d n) ∧ Below w.heap.size w w' := by
  have HRD : Hid (∀ W, Below w.heap.size w W → RdD W v d) := fun W h => hr.below h (Nat.le_refl _)
  obtain ⟨a, ca, b, cb, rfl, _, _⟩ := hr
  obtain ⟨hl1, hl2⟩ := hl
  have HOK : Hid (∀ R, okJ d n = R → ∀ W, Below w.heap.size w W → Calls Tryd.prog 49 #[.agg #[.slice a d.1.length ca, .slice b d.2.length cb], .int .i64 n] W fun e w' => e = .returned (.bool R) ∧ Below W.heap.size W w') := by
    rintro R rfl W h
    exact specJok _ d n W ⟨by omega, by omega⟩ (HRD.out W h)
  have HCP : Hid (∀ W, Below w.heap.size w W → Calls Tryd.prog 63 #[.agg #[.slice a d.1.length ca, .slice b d.2.length cb]] W fun e w' => ∃ v', e = .returned v' ∧ OwnD w' W.heap.size v' d ∧ Below W.heap.size W w') :=
    fun W hW => copyD _ d W ⟨by omega, by omega⟩ (HRD.out W hW)
  have HFA : Hid (okJ d n = true → ∀ W, Below w.heap.size w W → Calls Tryd.prog 64 #[.agg #[.slice a d.1.length ca, .slice b d.2.length cb], .slice none 0 0] W fun e w' => ∃ v', e = .returned v' ∧ OwnD w' W.heap.size v' (d.1, []) ∧ Below W.heap.size W w') := by
    intro hok W hW
    have h := specFall _ d none 0 [] W ⟨by omega, by omega⟩ (HRD.out W hW) (.inl rfl)
    rwa [fall_nil (okJ_iff.1 hok).1] at h
  have hV : Var ((w.alloc (.cells #[.slice a d.1.length ca, .slice b d.2.length cb] 27)).alloc (.cells #[.slice none 0 0, .slice none 0 0] 27)) w.heap.size #[.slice a d.1.length ca, .slice b d.2.length cb] 27 := (Var.made w _ _).alloc _
  have HV : Hid (Var ((w.alloc (.cells #[.slice a d.1.length ca, .slice b d.2.length cb] 27)).alloc (.cells #[.slice none 0 0, .slice none 0 0] 27)) w.heap.size #[.slice a d.1.length ca, .slice b d.2.length cb] 27) := hV
  have HR : Hid (Var ((w.alloc (.cells #[.slice a d.1.length ca, .slice b d.2.length cb] 27)).alloc (.cells #[.slice none 0 0, .slice none 0 0] 27)) (w.heap.size + 1) #[.slice none 0 0, .slice none 0 0] 27) := Var.made2 w _ _ _
  clear hV HRD
  go_enter Tryd.func22, Tryd.ntmps22
  go_wp2_with fail
  cases hok : okJ d n with
  | false =>
    have HF : Hid (recD d n = d) := recD_no hok
    refine (HOK.out false hok _ (below2 _ _ _)).mono ?_
    rintro e w1 ⟨rfl, hb1⟩
    have HV1 := HV.out.new hb1
    have HR1 : Hid (Var w1 (w.heap.size + 1) #[.slice none 0 0, .slice none 0 0] 27) := HR.out.new hb1
    have hb01 : Below w.heap.size w w1 := (below2 w _ _).trans (hb1.mono (by simp; omega))
    have y0 := HV1.cell 0
    have y1 := HV1.cell 1
    simp at y0 y1
    clear HV1 hb1 HV HR
    go_wp2_with fail
    refine (HCP.out w1 hb01).mono ?_
    rintro e w3 ⟨v3, rfl, hO3, hb3⟩
    obtain ⟨a3, c3, b3, d3, rfl⟩ := hO3.shape
    have hlt2 := HR1.out.lt
    have HR3 : Hid (Var w3 (w.heap.size + 1) #[.slice none 0 0, .slice none 0 0] 27) := HR1.out.new hb3
    have hb03 : Below w.heap.size w w3 := hb01.trans (hb3.mono hb01.size)
    have HO10 : Hid (OwnD ((w3.setCell ⟨w.heap.size + 1, 0, none⟩ (.slice a3 d.1.length c3)).setCell ⟨w.heap.size + 1, 1, none⟩ (.slice b3 d.2.length d3)) w.heap.size (.agg #[.slice a3 d.1.length c3, .slice b3 d.2.length d3]) d) := ((hO3.setVar HR3.out 0 _).setVar (HR3.out.set 0 _) 1 _).base (by omega)
    have HR10 : Hid (Var ((w3.setCell ⟨w.heap.size + 1, 0, none⟩ (.slice a3 d.1.length c3)).setCell ⟨w.heap.size + 1, 1, none⟩ (.slice b3 d.2.length d3)) (w.heap.size + 1) #[.slice a3 d.1.length c3, .slice b3 d.2.length d3] 27) := HR3.out.two _ _
    have hb10 : Below w.heap.size w ((w3.setCell ⟨w.heap.size + 1, 0, none⟩ (.slice a3 d.1.length c3)).setCell ⟨w.heap.size + 1, 1, none⟩ (.slice b3 d.2.length d3)) := (hb03.setCell (p := ⟨w.heap.size + 1, 0, none⟩) (by show _ ≤ w.heap.size + 1; omega) _).setCell (p := ⟨w.heap.size + 1, 1, none⟩) (by show _ ≤ w.heap.size + 1; omega) _
    have hq0 := HR3.out.cell 0
    have hq1 := (HR3.out.set 0 (.slice a3 d.1.length c3)).cell 1
    have hk0 := HR3.out.frozen 0
    have hk1 := HR3.out.frozen 1
    simp at hq0 hq1
    clear hO3 hb3 hb03 hb01 HR1 HR3 HCP y0 y1
    go_wp2
    refine bodyPost_ret (results_cell_row rfl _ _ (w.heap.size + 1) 27 #[.slice a3 d.1.length c3, .slice b3 d.2.length d3] (0, 0) _ rfl HR10.out Tryd.underlying27 rfl Tryd.sizeDisk) rfl ?_
    exact ⟨_, rfl, by rw [HF.out]; exact HO10.out, hb10⟩
  | true =>
    obtain ⟨hdk, hn1, hn2, hlen⟩ := okJ_iff.1 hok
    have HF : Hid (recD d n = (recS d.1 n, [])) := by show _ = _; unfold recD; rw [if_pos hok]
    have HZ : Hid (∀ x ∈ d.1, x.size ≤ 90) := (dkOk_iff.1 hdk).2.2.1
    refine (HOK.out true hok _ (below2 _ _ _)).mono ?_
    rintro e w1 ⟨rfl, hb1⟩
    have HV1 := HV.out.new hb1
    have HR1 : Hid (Var w1 (w.heap.size + 1) #[.slice none 0 0, .slice none 0 0] 27) := HR.out.new hb1
    have hb01 : Below w.heap.size w w1 := (below2 w _ _).trans (hb1.mono (by simp; omega))
    have hs1 : w.heap.size + 2 ≤ w1.heap.size := HR1.out.lt
    have y0 := HV1.cell 0
    have y1 := HV1.cell 1
    simp at y0 y1
    have HF2 := HFA.out hok w1 hb01
    clear HV1 hb1 HV HR HOK HCP HFA hok hdk
    go_wp2_with fail
    refine HF2.mono ?_
    rintro e w2 ⟨v2, rfl, hO2, hb2⟩
    clear y0 y1 HF2
    obtain ⟨x1, x2, rfl, o1, o2⟩ := hO2
    have hL : 3 ≤ d.1.length := by omega
    rcases o1.2 with ⟨_, h0⟩ | ⟨g, c, cur, rfl, _⟩
    · exfalso; have h0' : d.1.length = 0 := h0; omega
    obtain ⟨b2, e2, rfl, _, _⟩ := own_rdF (enc := encP) encP_len o2 rfl
    have HI0 : Hid (RInv w (w2.alloc (.cells #[.slice (some ⟨g, 0, none⟩) d.1.length c, .slice b2 0 e2] 27)) w2.heap.size g c b2 e2 d.1) :=
      ⟨Var.made w2 _ _, (ownsRow_base o1 (by omega)).alloc _, (ownsRow_base o2 (by omega)).alloc _, (HR1.out.new hb2).alloc _, (hb01.trans (hb2.mono hb01.size)).alloc (Nat.le_trans hb01.size hb2.size) _⟩
    clear o1 o2 hb2 hb01 HR1
    generalize hQ : w2.heap.size = Q at *
    obtain ⟨sc0, _⟩ := HI0.out.cell (j := 0) (by omega)
    have sv0 := HI0.out.var.cell 0
    simp at sv0
    have hz90 : (d.1.getD 0 ⟨#[]⟩).size ≤ 90 := HZ.out _ (by simp [List.getD, show 0 < d.1.length by omega])
    have HRS : Hid (recS d.1 n = (match headOf (d.1.getD 0 ⟨#[]⟩) n with
      | some (ats, sum) => if sumOf ((d.1.drop 1).take ats.length) = sum then applyTo n ats d.1 ats.length else d.1
      | none => d.1).set 0 ⟨#[]⟩) := rfl
    generalize d.1.getD 0 ⟨#[]⟩ = s0 at *
    have hLp : (0 : Int) < (d.1.length : Int) := by omega
    generalize hW2 : w2.alloc (.cells #[.slice (some ⟨g, 0, none⟩) d.1.length c, .slice b2 0 e2] 27) = W2 at *
    go_wp2_with fail
    refine (specHeadOf s0 n W2 (by omega)).mono ?_
    rintro e w3 ⟨va, rfl, hoa, hb3⟩
    have HI3 : Hid (RInv w w3 Q g c b2 e2 d.1) := HI0.out.new hb3
    have HA3 : Hid (w3.ownsRow W2.heap.size 3 1 va (hoA s0 n).length ((hoA s0 n).map (Value.int .i64))) := hoa
    clear hoa hb3 sc0 sv0 HI0
    cases hh : headOf s0 n with
    | none =>
      have e1 : hoOk s0 n = false := by unfold hoOk; rw [hh]; rfl
      have HRS2 : Hid (recS d.1 n = d.1.set 0 ⟨#[]⟩) := by show _ = _; rw [HRS.out, hh]
      rw [e1]
      clear e1 HRS hh HA3
      generalize d.1 = X at *
      have hT := HI3.out.put 0 ⟨#[]⟩
      obtain ⟨t0, t1⟩ := HI3.out.cell (j := 0) (by omega)
      have z0 : w3.cell? ⟨Q, 0, none⟩ = some (.slice (some ⟨g, 0, none⟩) X.length c) := HI3.out.var.cell 0
      have z1 : (w3.setCell ⟨g, 0, none⟩ (.string ⟨#[]⟩)).cell? ⟨Q, 0, none⟩ = some (.slice (some ⟨g, 0, none⟩) X.length c) := by have := hT.var.cell 0; rw [List.length_set] at this; exact this
      have z2 : (w3.setCell ⟨g, 0, none⟩ (.string ⟨#[]⟩)).cell? ⟨Q, 1, none⟩ = some (.slice b2 0 e2) := hT.var.cell 1
      have hOT : OwnD (w3.setCell ⟨g, 0, none⟩ (.string ⟨#[]⟩)) (w.heap.size + 2) (.agg #[.slice (some ⟨g, 0, none⟩) X.length c, .slice b2 0 e2]) (X.set 0 ⟨#[]⟩, []) := ⟨_, _, rfl, by have := hT.own; rw [List.length_set] at this ⊢; exact this, hT.pend⟩
      have HO10 : Hid (OwnD (((w3.setCell ⟨g, 0, none⟩ (.string ⟨#[]⟩)).setCell ⟨w.heap.size + 1, 0, none⟩ (.slice (some ⟨g, 0, none⟩) X.length c)).setCell ⟨w.heap.size + 1, 1, none⟩ (.slice b2 0 e2)) w.heap.size (.agg #[.slice (some ⟨g, 0, none⟩) X.length c, .slice b2 0 e2]) (X.set 0 ⟨#[]⟩, [])) := ((hOT.setVar hT.res 0 _).setVar (hT.res.set 0 _) 1 _).base (by omega)
      have HR10 : Hid (Var (((w3.setCell ⟨g, 0, none⟩ (.string ⟨#[]⟩)).setCell ⟨w.heap.size + 1, 0, none⟩ (.slice (some ⟨g, 0, none⟩) X.length c)).setCell ⟨w.heap.size + 1, 1, none⟩ (.slice b2 0 e2)) (w.heap.size + 1) #[.slice (some ⟨g, 0, none⟩) X.length c, .slice b2 0 e2] 27) := hT.res.two _ _
      have hb10 : Below w.heap.size w (((w3.setCell ⟨g, 0, none⟩ (.string ⟨#[]⟩)).setCell ⟨w.heap.size + 1, 0, none⟩ (.slice (some ⟨g, 0, none⟩) X.length c)).setCell ⟨w.heap.size + 1, 1, none⟩ (.slice b2 0 e2)) := (hT.below.setCell (p := ⟨w.heap.size + 1, 0, none⟩) (by show _ ≤ w.heap.size + 1; omega) _).setCell (p := ⟨w.heap.size + 1, 1, none⟩) (by show _ ≤ w.heap.size + 1; omega) _
      have hq0 := hT.res.cell 0
      have hq1 := (hT.res.set 0 (.slice (some ⟨g, 0, none⟩) X.length c)).cell 1
      have hk0 := hT.res.frozen 0
      have hk1 := hT.res.frozen 1
      simp at hq0 hq1
      have hXp : (0 : Int) < (X.length : Int) := by omega
      clear hT hOT
      go_wp2
      refine bodyPost_ret (results_cell_row rfl _ _ (w.heap.size + 1) 27 #[.slice (some ⟨g, 0, none⟩) X.length c, .slice b2 0 e2] (0, 0) _ rfl HR10.out Tryd.underlying27 rfl Tryd.sizeDisk) rfl ?_
      exact ⟨_, rfl, by rw [HF.out, HRS2.out]; exact HO10.out, hb10⟩
    | some pr =>
      obtain ⟨ats, sum⟩ := pr
      have f1 : hoOk s0 n = true := by unfold hoOk; rw [hh]; rfl
      have f2 : hoA s0 n = ats := by unfold hoA; rw [hh]; rfl
      have f3 : hoS s0 n = sum := by unfold hoS; rw [hh]; rfl
      obtain ⟨hm1, hm2, htx⟩ : 1 ≤ ats.length ∧ ats.length ≤ 48 ∧ TxP n (ats.map fun x => (x, (⟨#[]⟩ : ByteArray))) := by
        obtain ⟨many, at1, q, _, _, hm1, hm2, hml, _, _, htx, _⟩ := headOf_spec hh
        exact ⟨by omega, by omega, htx⟩
      have hal : (ats.length : Int) ≤ n := by have := htx.len; simpa using this
      have HAT : Hid (∀ k (hk : k < ats.length), 0 ≤ ats[k] ∧ ats[k] ≤ n - 1) := by
        intro k hk
        have := htx.at (ats[k], ⟨#[]⟩) (List.mem_map.2 ⟨ats[k], List.getElem_mem hk, rfl⟩)
        exact ⟨this.1, this.2.1⟩
      have HRS2 : Hid (recS d.1 n = (if sumOf ((d.1.drop 1).take ats.length) = sum then applyTo n ats d.1 ats.length else d.1).set 0 ⟨#[]⟩) := by show _ = _; rw [HRS.out, hh]
      have hoa := HA3.out
      rw [f2] at hoa
      rw [f1, f3]
      obtain ⟨xa, xc, rfl, _, hra⟩ := own_rd hoa
      have HA4 : Hid (w3.ownsRow W2.heap.size 3 1 (.slice xa ats.length xc) ats.length (ats.map (Value.int .i64))) := hoa
      obtain ⟨N, rfl⟩ : ∃ N : Nat, n = (N : Int) := ⟨n.toNat, by omega⟩
      have hcap := HI3.out.cap
      have hc1 : ¬ c = 1 := by omega
      have hjl : ((d.1.drop 1).take ats.length).length = ats.length := by simp; omega
      have HJS : Hid (∀ W, RInv w W Q g c b2 e2 d.1 → RdS W (some ⟨g, 1, none⟩) ((d.1.drop 1).take ats.length)) := by
        intro W hI
        refine .inr ⟨g, 1, rfl, hI.gbase.2.1, fun i hi => ?_⟩
        rw [hjl] at hi
        rw [(hI.cell (j := 1 + i) (by omega)).1]
        have e9 : 1 + i < d.1.length := by omega
        rw [List.getElem_take, List.getElem_drop]
        simp [List.getD, e9]
      have HSM : Hid (Calls Tryd.prog 65 #[.slice (some ⟨g, 1, none⟩) ats.length (c - 1)] w3 fun e w' => e = .returned (.int .i64 ((sumOf ((d.1.drop 1).take ats.length) : Nat) : Int)) ∧ Below w3.heap.size w3 w') := by
        have h := specSum (some ⟨g, 1, none⟩) (c - 1) ((d.1.drop 1).take ats.length) w3 (by omega) (fun x hx => HZ.out x (List.mem_of_mem_drop (List.mem_of_mem_take hx))) (HJS.out w3 HI3.out)
        rwa [hjl] at h
      have z0 : w3.cell? ⟨Q, 0, none⟩ = some (.slice (some ⟨g, 0, none⟩) d.1.length c) := HI3.out.var.cell 0
      have i1 : (1 : Int) ≤ 1 + (ats.length : Int) := by omega
      have i2 : (1 : Int) + (ats.length : Int) ≤ (c : Int) := by omega
      clear hoa HA3 hra f1 f2 f3 hh htx HRS hjl HJS
      generalize sumOf ((d.1.drop 1).take ats.length) = sj at *
      go_wp2_with fail
      refine HSM.out.mono ?_
      rintro e w4 ⟨rfl, hb4⟩
      have HI4 : Hid (RInv w w4 Q g c b2 e2 d.1) := HI3.out.new hb4
      have HA5 : Hid (w4.ownsRow W2.heap.size 3 1 (.slice xa ats.length xc) ats.length (ats.map (Value.int .i64))) := ownsRow_below HA4.out hb4 (Nat.le_refl _)
      have hW4 : w2.heap.size + 1 ≤ W2.heap.size := by rw [← hW2]; simp
      clear hb4 HI3 HA4 HSM z0 hW2
      by_cases hsm : sj = sum
      · subst hsm
        have HRS3 : Hid (recS d.1 (N : Int) = (applyTo (N : Int) ats d.1 ats.length).set 0 ⟨#[]⟩) := by show _ = _; rw [HRS2.out, if_pos rfl]
        clear HRS2
        go_wp2
        go_loopw [9] (fun i wr => ∃ k : Nat, k ≤ ats.length ∧ i = .int .i64 k ∧ Hid (RInv w wr Q g c b2 e2 (applyTo (N : Int) ats d.1 k)) ∧ Hid (wr.ownsRow W2.heap.size 3 1 (.slice xa ats.length xc) ats.length (ats.map (Value.int .i64)))) (fun i _ => ats.length - (intOf i).toNat)
        case atStart => exact ⟨0, Nat.zero_le _, rfl, HI4, HA5⟩
        case round =>
          obtain ⟨k, hk, rfl, HI, HA⟩ := hrel
          clear HI4 HA5
          have hXl := applyTo_len (N : Int) ats d.1 k
          by_cases hlt : k < ats.length
          · obtain ⟨y0, y1⟩ := HAT.out k hlt
            obtain ⟨Y, hY⟩ : ∃ Y : Nat, ats[k] = (Y : Int) := ⟨ats[k].toNat, by omega⟩
            have HNX : Hid (applyTo (N : Int) ats d.1 (k + 1) = (applyTo (N : Int) ats d.1 k).set (N + 1 + Y) ((applyTo (N : Int) ats d.1 k).getD (1 + k) ⟨#[]⟩)) := by
              show _ = _
              rw [applyTo]
              have e0 : ats.getD k 0 = (Y : Int) := by rw [← hY]; simp [List.getD, hlt]
              have e5 : ((N : Int) + 1 + (Y : Int)).toNat = N + 1 + Y := by omega
              rw [e0, e5]
            rw [hY] at y0 y1
            obtain ⟨xb, xo, rfl, hra, hca⟩ : ∃ xb xo, xa = some ⟨xb, xo, none⟩ ∧ True ∧ wr.cell? ⟨xb, xo + k, none⟩ = some (.int .i64 (Y : Int)) := by
              obtain ⟨xa', xc', he, _, hr⟩ := own_rd HA.out
              cases he
              rcases hr with h0 | ⟨xb, xo, rfl, _, hc⟩
              · rw [h0] at hlt; simp at hlt
              · refine ⟨xb, xo, rfl, trivial, ?_⟩
                rw [hc k hlt, ← hY]
                simp [List.getD, hlt]
            generalize applyTo (N : Int) ats d.1 k = X at *
            have hYN : Y ≤ N - 1 := by omega
            obtain ⟨g0, g1⟩ := HI.out.cell (j := 1 + k) (by omega)
            obtain ⟨g2, g3⟩ := HI.out.cell (j := N + 1 + Y) (by omega)
            have z0 : wr.cell? ⟨Q, 0, none⟩ = some (.slice (some ⟨g, 0, none⟩) X.length c) := HI.out.var.cell 0
            generalize X.getD (1 + k) ⟨#[]⟩ = vs at *
            have HI5 : Hid (RInv w (wr.setCell ⟨g, N + 1 + Y, none⟩ (.string vs)) Q g c b2 e2 (applyTo (N : Int) ats d.1 (k + 1))) := by show RInv _ _ _ _ _ _ _ _; rw [HNX.out]; exact HI.out.put _ _
            have HA6 : Hid ((wr.setCell ⟨g, N + 1 + Y, none⟩ (.string vs)).ownsRow W2.heap.size 3 1 (.slice (some ⟨xb, xo, none⟩) ats.length xc) ats.length (ats.map (Value.int .i64))) := own_only (S := fun j => j = g) HA.out (Only.setCell (S := fun j => j = g) (Only.refl _ _) (p := ⟨g, N + 1 + Y, none⟩) rfl _) (fun j hj he => own_apart HA.out HI.out.own (by decide) j hj (by rw [he]; rfl))
            have j0 : (0 : Int) ≤ (k : Int) := by omega
            have j1 : (k : Int) < (ats.length : Int) := by omega
            have j2 : (1 : Int) + (k : Int) < (X.length : Int) := by omega
            have j3 : (N : Int) + 1 + (Y : Int) < (X.length : Int) := by omega
            clear HI HA HNX hY
            go_wp2
            go_region
            all_goals
              go_wp2
              go_roundw
              case rel => exact ⟨k + 1, by omega, by go_num, HI5.out.new (Below.refl _ _).drew, ownsRow_below HA6.out (Below.refl _ _).drew (Nat.le_refl _)⟩
              case measure => simp [intOf]; omega
          · obtain rfl : k = ats.length := by omega
            clear HA
            generalize applyTo (N : Int) ats d.1 ats.length = X at *
            have hX3 : 3 ≤ X.length := by omega
            clear hXl
            have hT := HI.out.put 0 ⟨#[]⟩
            obtain ⟨t0, t1⟩ := HI.out.cell (j := 0) (by omega)
            have z0 : wr.cell? ⟨Q, 0, none⟩ = some (.slice (some ⟨g, 0, none⟩) X.length c) := HI.out.var.cell 0
            have z1 : (wr.setCell ⟨g, 0, none⟩ (.string ⟨#[]⟩)).cell? ⟨Q, 0, none⟩ = some (.slice (some ⟨g, 0, none⟩) X.length c) := by have := hT.var.cell 0; rw [List.length_set] at this; exact this
            have z2 : (wr.setCell ⟨g, 0, none⟩ (.string ⟨#[]⟩)).cell? ⟨Q, 1, none⟩ = some (.slice b2 0 e2) := hT.var.cell 1
            have hOT : OwnD (wr.setCell ⟨g, 0, none⟩ (.string ⟨#[]⟩)) (w.heap.size + 2) (.agg #[.slice (some ⟨g, 0, none⟩) X.length c, .slice b2 0 e2]) (X.set 0 ⟨#[]⟩, []) := ⟨_, _, rfl, by have := hT.own; rw [List.length_set] at this ⊢; exact this, hT.pend⟩
            have HO10 : Hid (OwnD (((wr.setCell ⟨g, 0, none⟩ (.string ⟨#[]⟩)).setCell ⟨w.heap.size + 1, 0, none⟩ (.slice (some ⟨g, 0, none⟩) X.length c)).setCell ⟨w.heap.size + 1, 1, none⟩ (.slice b2 0 e2)) w.heap.size (.agg #[.slice (some ⟨g, 0, none⟩) X.length c, .slice b2 0 e2]) (X.set 0 ⟨#[]⟩, [])) := ((hOT.setVar hT.res 0 _).setVar (hT.res.set 0 _) 1 _).base (by omega)
            have HR10 : Hid (Var (((wr.setCell ⟨g, 0, none⟩ (.string ⟨#[]⟩)).setCell ⟨w.heap.size + 1, 0, none⟩ (.slice (some ⟨g, 0, none⟩) X.length c)).setCell ⟨w.heap.size + 1, 1, none⟩ (.slice b2 0 e2)) (w.heap.size + 1) #[.slice (some ⟨g, 0, none⟩) X.length c, .slice b2 0 e2] 27) := hT.res.two _ _
            have hb10 : Below w.heap.size w (((wr.setCell ⟨g, 0, none⟩ (.string ⟨#[]⟩)).setCell ⟨w.heap.size + 1, 0, none⟩ (.slice (some ⟨g, 0, none⟩) X.length c)).setCell ⟨w.heap.size + 1, 1, none⟩ (.slice b2 0 e2)) := (hT.below.setCell (p := ⟨w.heap.size + 1, 0, none⟩) (by show _ ≤ w.heap.size + 1; omega) _).setCell (p := ⟨w.heap.size + 1, 1, none⟩) (by show _ ≤ w.heap.size + 1; omega) _
            have hq0 := hT.res.cell 0
            have hq1 := (hT.res.set 0 (.slice (some ⟨g, 0, none⟩) X.length c)).cell 1
            have hk0 := hT.res.frozen 0
            have hk1 := hT.res.frozen 1
            simp at hq0 hq1
            have hXp : (0 : Int) < (X.length : Int) := by omega
            clear hT hOT
            go_wp2
            refine bodyPost_ret (results_cell_row rfl _ _ (w.heap.size + 1) 27 #[.slice (some ⟨g, 0, none⟩) X.length c, .slice b2 0 e2] (0, 0) _ rfl HR10.out Tryd.underlying27 rfl Tryd.sizeDisk) rfl ?_
            exact ⟨_, rfl, by rw [HF.out, HRS3.out]; exact HO10.out, hb10⟩
      · have HRS3 : Hid (recS d.1 (N : Int) = d.1.set 0 ⟨#[]⟩) := by show _ = _; rw [HRS2.out, if_neg hsm]
        have hq1 : ¬ ((sj : Nat) : Int) = (sum : Int) := by omega
        have hq2 : (((sj : Nat) : Int) == (sum : Int)) = false := by simpa using hq1
        clear HRS2 HA5
        generalize d.1 = X at *
        have hT := HI4.out.put 0 ⟨#[]⟩
        obtain ⟨t0, t1⟩ := HI4.out.cell (j := 0) (by omega)
        have z0 : w4.cell? ⟨Q, 0, none⟩ = some (.slice (some ⟨g, 0, none⟩) X.length c) := HI4.out.var.cell 0
        have z1 : (w4.setCell ⟨g, 0, none⟩ (.string ⟨#[]⟩)).cell? ⟨Q, 0, none⟩ = some (.slice (some ⟨g, 0, none⟩) X.length c) := by have := hT.var.cell 0; rw [List.length_set] at this; exact this
        have z2 : (w4.setCell ⟨g, 0, none⟩ (.string ⟨#[]⟩)).cell? ⟨Q, 1, none⟩ = some (.slice b2 0 e2) := hT.var.cell 1
        have hOT : OwnD (w4.setCell ⟨g, 0, none⟩ (.string ⟨#[]⟩)) (w.heap.size + 2) (.agg #[.slice (some ⟨g, 0, none⟩) X.length c, .slice b2 0 e2]) (X.set 0 ⟨#[]⟩, []) := ⟨_, _, rfl, by have := hT.own; rw [List.length_set] at this ⊢; exact this, hT.pend⟩
        have HO10 : Hid (OwnD (((w4.setCell ⟨g, 0, none⟩ (.string ⟨#[]⟩)).setCell ⟨w.heap.size + 1, 0, none⟩ (.slice (some ⟨g, 0, none⟩) X.length c)).setCell ⟨w.heap.size + 1, 1, none⟩ (.slice b2 0 e2)) w.heap.size (.agg #[.slice (some ⟨g, 0, none⟩) X.length c, .slice b2 0 e2]) (X.set 0 ⟨#[]⟩, [])) := ((hOT.setVar hT.res 0 _).setVar (hT.res.set 0 _) 1 _).base (by omega)
        have HR10 : Hid (Var (((w4.setCell ⟨g, 0, none⟩ (.string ⟨#[]⟩)).setCell ⟨w.heap.size + 1, 0, none⟩ (.slice (some ⟨g, 0, none⟩) X.length c)).setCell ⟨w.heap.size + 1, 1, none⟩ (.slice b2 0 e2)) (w.heap.size + 1) #[.slice (some ⟨g, 0, none⟩) X.length c, .slice b2 0 e2] 27) := hT.res.two _ _
        have hb10 : Below w.heap.size w (((w4.setCell ⟨g, 0, none⟩ (.string ⟨#[]⟩)).setCell ⟨w.heap.size + 1, 0, none⟩ (.slice (some ⟨g, 0, none⟩) X.length c)).setCell ⟨w.heap.size + 1, 1, none⟩ (.slice b2 0 e2)) := (hT.below.setCell (p := ⟨w.heap.size + 1, 0, none⟩) (by show _ ≤ w.heap.size + 1; omega) _).setCell (p := ⟨w.heap.size + 1, 1, none⟩) (by show _ ≤ w.heap.size + 1; omega) _
        have hq0 := hT.res.cell 0
        have hq1 := (hT.res.set 0 (.slice (some ⟨g, 0, none⟩) X.length c)).cell 1
        have hk0 := hT.res.frozen 0
        have hk1 := hT.res.frozen 1
        simp at hq0 hq1
        have hXp : (0 : Int) < (X.length : Int) := by omega
        clear hT hOT
        go_wp2
        refine bodyPost_ret (results_cell_row rfl _ _ (w.heap.size + 1) 27 #[.slice (some ⟨g, 0, none⟩) X.length c, .slice b2 0 e2] (0, 0) _ rfl HR10.out Tryd.underlying27 rfl Tryd.sizeDisk) rfl ?_
        exact ⟨_, rfl, by rw [HF.out, HRS3.out]; exact HO10.out, hb10⟩
end Go.Proofs.YtlidmnehpcodkaaDoor
