/-
  Own text: events, one behind the other, as the program does them.
-/
import Derived.Test.YtlidmnehpcodkaaDoorSEvDoW
import Derived.Test.YtlidmnehpcodkaaDoorEvDoL
import Derived.Test.YtlidmnehpcodkaaDoorBunI
namespace Go.Proofs.YtlidmnehpcodkaaDoor
open Go.RowKit

theorem smD_step {d : DiskD} (h : SmD d) (e : EvD) : SmD (evStep d e) := by
  unfold evStep
  split
  · cases hw : dkWrite d e.2.1 e.2.2 with
    | none => exact h
    | some x => exact smD_ok (read_written hw).2
  · split
    · cases hk : dkOk d with
      | true => exact smD_ok (flush_ok hk).1
      | false => unfold dkFlush; rw [if_neg (by simp [hk])]; exact h
    · exact h
theorem smD_evDo {d : DiskD} (h : SmD d) (l : List EvD) : SmD (evDo d l) := by
  unfold evDo
  induction l generalizing d with
  | nil => exact h
  | cons e l ih => exact ih (smD_step h e)

/-- What is known between two events: the variable d, what it holds, the result's place. -/
structure IInv (w W : World) (a b : Option Addr) (c e : Nat) (D : DiskD) : Prop where
  var : Var W w.heap.size #[.slice a D.1.length c, .slice b D.2.length e] 27
  own : OwnD W (w.heap.size + 2) (.agg #[.slice a D.1.length c, .slice b D.2.length e]) D
  res : Var W (w.heap.size + 1) #[.slice none 0 0, .slice none 0 0] 27
  below : Below w.heap.size w W
theorem IInv.new {w W W' : World} {a b : Option Addr} {c e : Nat} {D : DiskD} (h : IInv w W a b c e D) (hb : Below W.heap.size W W') : IInv w W' a b c e D :=
  ⟨h.var.new hb, h.own.below hb, h.res.new hb, h.below.trans (hb.mono h.below.size)⟩
theorem IInv.put {w W W' : World} {a b a' b' : Option Addr} {c e c' e' : Nat} {D D' : DiskD} (h : IInv w W a b c e D) (hb : Below W.heap.size W W') (ho : OwnD W' W.heap.size (.agg #[.slice a' D'.1.length c', .slice b' D'.2.length e']) D') :
    IInv w ((W'.setCell ⟨w.heap.size, 0, none⟩ (.slice a' D'.1.length c')).setCell ⟨w.heap.size, 1, none⟩ (.slice b' D'.2.length e')) a' b' c' e' D' ∧ W'.cell? ⟨w.heap.size, 0, none⟩ = some (.slice a D.1.length c) ∧ (W'.setCell ⟨w.heap.size, 0, none⟩ (.slice a' D'.1.length c')).cell? ⟨w.heap.size, 1, none⟩ = some (.slice b D.2.length e) ∧ W'.frozen? ⟨w.heap.size, 0, none⟩ = false ∧ W'.frozen? ⟨w.heap.size, 1, none⟩ = false := by
  have hV := h.var.new hb
  have hR := h.res.new hb
  have hlt := h.res.lt
  have hB := h.below.trans (hb.mono h.below.size)
  refine ⟨⟨hV.two _ _, ((ho.setVar hV 0 _).setVar (hV.set 0 _) 1 _).base (by omega), (hR.other (by omega) 0 _).other (by omega) 1 _, (hB.setCell (p := ⟨w.heap.size, 0, none⟩) (Nat.le_refl _) _).setCell (p := ⟨w.heap.size, 1, none⟩) (Nat.le_refl _) _⟩, hV.cell 0, (hV.set 0 _).cell 1, hV.frozen 0, hV.frozen 1⟩

set_option maxRecDepth 20000 in
set_option maxHeartbeats 4000000 in
theorem implEventsDo (v : Value) (d : DiskD) (q : Option Addr) (qc : Nat) (l : List EvD) (w : World) (hl : d.1.length ≤ 4194303 ∧ d.2.length ≤ 4194303) (hs : SmD d) (hll : l.length ≤ 4194304) (hr : RdD w v d) (hq : RdF encE 3 w q l) :
    Calls Tryd.prog 20 #[v, .slice q l.length qc] w fun e w' => ∃ v', e = .returned v' ∧ OwnD w' w.heap.size v' (evDo d l) ∧ Below w.heap.size w w' := by
  obtain ⟨a, ca, b, cb, rfl, r1, r2⟩ := hr
  obtain ⟨hl1, hl2⟩ := hl
  have HCS : Hid (∀ k (hk : k < l.length), ∃ x off, q = some ⟨x, off, none⟩ ∧ x < w.heap.size ∧ w.cell? ⟨x, off + k * 3, none⟩ = some (.int .i64 l[k].1) ∧ w.cell? ⟨x, off + k * 3 + 1, none⟩ = some (.int .i64 l[k].2.1) ∧ w.cell? ⟨x, off + k * 3 + 2, none⟩ = some (.string l[k].2.2)) := by
    intro k hk
    obtain ⟨b, off, h1, h2, h3⟩ := hq.at k hk
    exact ⟨b, off, h1, h2, h3 0 (by omega), h3 1 (by omega), h3 2 (by omega)⟩
  have hs0 : ((w.alloc (.cells #[.slice a d.1.length ca, .slice b d.2.length cb] 27)).alloc (.cells #[.slice none 0 0, .slice none 0 0] 27)).heap.size = w.heap.size + 2 := by simp
  have hVd : Var ((w.alloc (.cells #[.slice a d.1.length ca, .slice b d.2.length cb] 27)).alloc (.cells #[.slice none 0 0, .slice none 0 0] 27)) w.heap.size #[.slice a d.1.length ca, .slice b d.2.length cb] 27 := (Var.made w _ _).alloc _
  have HFR : Hid (Calls Tryd.prog 45 #[.pointer (some ⟨w.heap.size, 0, none⟩)] ((w.alloc (.cells #[.slice a d.1.length ca, .slice b d.2.length cb] 27)).alloc (.cells #[.slice none 0 0, .slice none 0 0] 27)) fun e w' => ∃ v1 v2, e = .returned (.pointer (some ⟨w.heap.size + 2, 0, none⟩)) ∧ Var w' (w.heap.size + 2) #[v1, v2] 27 ∧ OwnD w' (w.heap.size + 2 + 1) (.agg #[v1, v2]) d ∧ Below (w.heap.size + 2) ((w.alloc (.cells #[.slice a d.1.length ca, .slice b d.2.length cb] 27)).alloc (.cells #[.slice none 0 0, .slice none 0 0] 27)) w') := by
    have := implFresh w.heap.size a b ca cb d ((w.alloc (.cells #[.slice a d.1.length ca, .slice b d.2.length cb] 27)).alloc (.cells #[.slice none 0 0, .slice none 0 0] 27)) ⟨by omega, by omega⟩ hs (hVd.cell 0) (hVd.cell 1) (r1.below (below2 _ _ _) (Nat.le_refl _)) (r2.below (below2 _ _ _) (Nat.le_refl _))
    rwa [hs0] at this
  have HLN : Hid (∀ k, (evDo d (l.take k)).1.length ≤ 4194303 ∧ (evDo d (l.take k)).2.length ≤ 4194303) := fun k => by
    have := evDo_len d (l.take k); omega
  have HSM : Hid (∀ k, SmD (evDo d (l.take k))) := fun k => smD_evDo hs _
  have HVd : Hid (Var ((w.alloc (.cells #[.slice a d.1.length ca, .slice b d.2.length cb] 27)).alloc (.cells #[.slice none 0 0, .slice none 0 0] 27)) w.heap.size #[.slice a d.1.length ca, .slice b d.2.length cb] 27) := hVd
  clear hq r1 r2 hVd hs0 hs
  go_enter Tryd.func20, Tryd.ntmps20
  go_wp2_with fail
  refine HFR.out.mono ?_
  rintro e w1 ⟨v1, v2, rfl, hV1, ho1, hb1⟩
  obtain ⟨a1, c1, b1, e1, hsh⟩ := ho1.shape
  cases hsh
  have hVd1 := HVd.out.below hb1 (by omega)
  have hR1 : Var w1 (w.heap.size + 1) #[.slice none 0 0, .slice none 0 0] 27 := (Var.made2 w _ _ _).below hb1 (by omega)
  have hb01 : Below w.heap.size w w1 := (below2 w _ _).trans (hb1.mono (by omega))
  have y0 := hV1.cell 0
  have y1 := hV1.cell 1
  have x0 := hVd1.cell 0
  have x1 := (hVd1.set 0 (.slice a1 d.1.length c1)).cell 1
  have f0 := hVd1.frozen 0
  have f1 := hVd1.frozen 1
  simp at y0 y1 x0 x1
  have HI0 : Hid (IInv w ((w1.setCell ⟨w.heap.size, 0, none⟩ (.slice a1 d.1.length c1)).setCell ⟨w.heap.size, 1, none⟩ (.slice b1 d.2.length e1)) a1 b1 c1 e1 d) :=
    ⟨hVd1.two _ _, ((ho1.setVar hVd1 0 _).setVar (hVd1.set 0 _) 1 _).base (by omega), (hR1.other (by omega) 0 _).other (by omega) 1 _, (hb01.setCell (p := ⟨w.heap.size, 0, none⟩) (Nat.le_refl _) _).setCell (p := ⟨w.heap.size, 1, none⟩) (Nat.le_refl _) _⟩
  clear ho1 hR1 hb01 hb1 HFR hV1 hVd1 HVd
  go_wp2
  go_loopw [12] (fun i wr => ∃ (k : Nat) (a2 b2 : Option Addr) (c2 e2 : Nat), k ≤ l.length ∧ i = .int .i64 k ∧ Hid (IInv w wr a2 b2 c2 e2 (evDo d (l.take k)))) (fun i _ => l.length - (intOf i).toNat)
  case atStart => exact ⟨0, a1, b1, c1, e1, Nat.zero_le _, rfl, HI0⟩
  case round =>
    obtain ⟨k, a2, b2, c2, e2, hk, rfl, HI⟩ := hrel
    clear HI0 y0 y1 x0 x1 f0 f1
    by_cases hlt : k < l.length
    · obtain ⟨x, off, rfl, hblt, hc0, hc1, hc2⟩ := HCS.out k hlt
      have HNX : Hid (evDo d (l.take (k + 1)) = evStep (evDo d (l.take k)) (l[k].1, l[k].2.1, l[k].2.2)) := evDo_take d hlt
      obtain ⟨hn1, hn2⟩ := HLN.out k
      have HS : Hid (SmD (evDo d (l.take k))) := HSM.out k
      have y0 := (HI.out.below.cell hblt).trans hc0
      have y1 := (HI.out.below.cell hblt).trans hc1
      have y2 := (HI.out.below.cell hblt).trans hc2
      clear hc0 hc1 hc2
      generalize l[k].1 = kd at *
      generalize l[k].2.1 = at1 at *
      generalize l[k].2.2 = ys at *
      generalize evDo d (l.take k) = D at *
      have HI1 : Hid (IInv w (wr.alloc (.cells #[.int .i64 kd, .int .i64 at1, .string ys] 85)) a2 b2 c2 e2 D) := HI.out.new (below1 wr _)
      have hVe : Var (wr.alloc (.cells #[.int .i64 kd, .int .i64 at1, .string ys] 85)) wr.heap.size #[.int .i64 kd, .int .i64 at1, .string ys] 85 := Var.made wr _ _
      have z0 : (wr.alloc (.cells #[.int .i64 kd, .int .i64 at1, .string ys] 85)).cell? ⟨w.heap.size, 0, none⟩ = some (.slice a2 D.1.length c2) := HI1.out.var.cell 0
      have z1 : (wr.alloc (.cells #[.int .i64 kd, .int .i64 at1, .string ys] 85)).cell? ⟨w.heap.size, 1, none⟩ = some (.slice b2 D.2.length e2) := HI1.out.var.cell 1
      have g0 := hVe.cell 0
      have g1 := hVe.cell 1
      have g2 := hVe.cell 2
      simp at g0 g1 g2
      clear hVe HI
      by_cases hk0 : kd = 0
      · subst hk0
        have HE : Hid (evStep D (0, at1, ys) = wrD D at1 ys) := by show _ = _; unfold evStep wrD; rw [if_pos rfl]
        have HCW : Hid (Calls Tryd.prog 61 #[.agg #[.slice a2 D.1.length c2, .slice b2 D.2.length e2], .int .i64 at1, .string ys] (wr.alloc (.cells #[.int .i64 0, .int .i64 at1, .string ys] 85)) fun e w' => ∃ v', e = .returned (.tuple #[v', .bool (wrOk D at1 ys)]) ∧ OwnD w' (wr.alloc (.cells #[.int .i64 0, .int .i64 at1, .string ys] 85)).heap.size v' (wrD D at1 ys) ∧ Below (wr.alloc (.cells #[.int .i64 0, .int .i64 at1, .string ys] 85)).heap.size (wr.alloc (.cells #[.int .i64 0, .int .i64 at1, .string ys] 85)) w') := implSectorWrite _ D at1 ys _ _ ⟨by omega, by omega⟩ HS.out HI1.out.own
        generalize wrD D at1 ys = D2 at *
        generalize wrOk D at1 ys = q2 at *
        go_wp2_with fail
        refine HCW.out.mono ?_
        rintro e w3 ⟨v3, rfl, ho3, hb3⟩
        obtain ⟨a3, c3, b3, e3, rfl⟩ := ho3.shape
        obtain ⟨hI3, s0, s1, s2, s3⟩ := HI1.out.put hb3 ho3
        have HI4 : Hid (IInv w ((w3.setCell ⟨w.heap.size, 0, none⟩ (.slice a3 D2.1.length c3)).setCell ⟨w.heap.size, 1, none⟩ (.slice b3 D2.2.length e3)) a3 b3 c3 e3 (evDo d (l.take (k + 1)))) := by show IInv _ _ _ _ _ _ _; rw [HNX.out, HE.out]; exact hI3
        clear hI3 ho3 hb3 HNX HE z0 z1 g0 g1 g2
        go_wp2
        go_roundw
        case rel => exact ⟨k + 1, a3, b3, c3, e3, by omega, by go_num, HI4⟩
        case measure => simp [intOf]; omega
      · by_cases hk1 : kd = 1
        · subst hk1
          have HE : Hid (evStep D (1, at1, ys) = dkFlush D) := by show _ = _; unfold evStep; rw [if_neg (show ¬ (1 : Int) = 0 by decide), if_pos rfl]
          have HCW : Hid (Calls Tryd.prog 62 #[.agg #[.slice a2 D.1.length c2, .slice b2 D.2.length e2]] (wr.alloc (.cells #[.int .i64 1, .int .i64 at1, .string ys] 85)) fun e w' => ∃ v', e = .returned v' ∧ OwnD w' (wr.alloc (.cells #[.int .i64 1, .int .i64 at1, .string ys] 85)).heap.size v' (dkFlush D) ∧ Below (wr.alloc (.cells #[.int .i64 1, .int .i64 at1, .string ys] 85)).heap.size (wr.alloc (.cells #[.int .i64 1, .int .i64 at1, .string ys] 85)) w') := implFlush _ D _ ⟨by omega, by omega⟩ HS.out HI1.out.own.rd
          generalize dkFlush D = D2 at *
          go_wp2_with fail
          refine HCW.out.mono ?_
          rintro e w3 ⟨v3, rfl, ho3, hb3⟩
          obtain ⟨a3, c3, b3, e3, rfl⟩ := ho3.shape
          obtain ⟨hI3, s0, s1, s2, s3⟩ := HI1.out.put hb3 ho3
          have HI4 : Hid (IInv w ((w3.setCell ⟨w.heap.size, 0, none⟩ (.slice a3 D2.1.length c3)).setCell ⟨w.heap.size, 1, none⟩ (.slice b3 D2.2.length e3)) a3 b3 c3 e3 (evDo d (l.take (k + 1)))) := by show IInv _ _ _ _ _ _ _; rw [HNX.out, HE.out]; exact hI3
          clear hI3 ho3 hb3 HNX HE z0 z1 g0 g1 g2
          go_wp2
          go_roundw
          case rel => exact ⟨k + 1, a3, b3, c3, e3, by omega, by go_num, HI4⟩
          case measure => simp [intOf]; omega
        · have HI4 : Hid (IInv w (wr.alloc (.cells #[.int .i64 kd, .int .i64 at1, .string ys] 85)) a2 b2 c2 e2 (evDo d (l.take (k + 1)))) := by
            have he : evStep D (kd, at1, ys) = D := by unfold evStep; rw [if_neg hk0, if_neg hk1]
            show IInv _ _ _ _ _ _ _
            rw [HNX.out, he]; exact HI1.out
          have hd0 : decide (kd = 0) = false := by simp [hk0]
          have hd1 : decide (kd = 1) = false := by simp [hk1]
          clear HNX
          go_wp2
          go_roundw
          case rel => exact ⟨k + 1, a2, b2, c2, e2, by omega, by go_num, HI4⟩
          case measure => simp [intOf]; omega
    · obtain rfl : k = l.length := by omega
      have hI := HI.out
      rw [List.take_length] at hI
      generalize hDD : evDo d l = D at *
      have HDD : Hid (evDo d l = D) := hDD
      clear hDD
      have z0 : wr.cell? ⟨w.heap.size, 0, none⟩ = some (.slice a2 D.1.length c2) := hI.var.cell 0
      have z1 : wr.cell? ⟨w.heap.size, 1, none⟩ = some (.slice b2 D.2.length e2) := hI.var.cell 1
      have HO10 : Hid (OwnD ((wr.setCell ⟨w.heap.size + 1, 0, none⟩ (.slice a2 D.1.length c2)).setCell ⟨w.heap.size + 1, 1, none⟩ (.slice b2 D.2.length e2)) w.heap.size (.agg #[.slice a2 D.1.length c2, .slice b2 D.2.length e2]) D) := ((hI.own.setVar hI.res 0 _).setVar (hI.res.set 0 _) 1 _).base (by omega)
      have HR10 : Hid (Var ((wr.setCell ⟨w.heap.size + 1, 0, none⟩ (.slice a2 D.1.length c2)).setCell ⟨w.heap.size + 1, 1, none⟩ (.slice b2 D.2.length e2)) (w.heap.size + 1) #[.slice a2 D.1.length c2, .slice b2 D.2.length e2] 27) := hI.res.two _ _
      have hb10 : Below w.heap.size w ((wr.setCell ⟨w.heap.size + 1, 0, none⟩ (.slice a2 D.1.length c2)).setCell ⟨w.heap.size + 1, 1, none⟩ (.slice b2 D.2.length e2)) := (hI.below.setCell (p := ⟨w.heap.size + 1, 0, none⟩) (by show _ ≤ w.heap.size + 1; omega) _).setCell (p := ⟨w.heap.size + 1, 1, none⟩) (by show _ ≤ w.heap.size + 1; omega) _
      have hq0 := hI.res.cell 0
      have hq1 := (hI.res.set 0 (.slice a2 D.1.length c2)).cell 1
      have hk0 := hI.res.frozen 0
      have hk1 := hI.res.frozen 1
      simp at hq0 hq1
      clear hI HI
      go_wp2
      refine bodyPost_ret (results_cell_row rfl _ _ (w.heap.size + 1) 27 #[.slice a2 D.1.length c2, .slice b2 D.2.length e2] (0, 0) _ rfl HR10.out Tryd.underlying27 rfl Tryd.sizeDisk) rfl ?_
      exact ⟨_, rfl, by rw [HDD.out]; exact HO10.out, hb10⟩
end Go.Proofs.YtlidmnehpcodkaaDoor
