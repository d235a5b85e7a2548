/-
  Own text: events on a disk, as the other program does them.
-/
import Derived.Test.YtlidmnehpcodkaaDoorSCommitW
import Derived.Test.YtlidmnehpcodkaaDoorBunS
import Derived.Test.YtlidmnehpcodkaaDoorBunC
namespace Go.Proofs.YtlidmnehpcodkaaDoor
open Go.RowKit

theorem evStep_len (d : DkD) (e : EvD) : (evStep d e).1.length = d.1.length ∧ (evStep d e).2.length ≤ max d.2.length 400 := by
  unfold evStep
  split
  · unfold dkWrite
    split
    · rename_i h
      have := (dkOk_iff.1 h.2).2.1
      exact ⟨rfl, by show (d.2 ++ _).length ≤ _; have h2 : (d.2 ++ [(e.2.1, e.2.2)]).length ≤ 400 := this; omega⟩
    · exact ⟨rfl, by show d.2.length ≤ _; omega⟩
  · split
    · unfold dkFlush
      split
      · exact ⟨putIn_len _ _, by simp⟩
      · exact ⟨rfl, by omega⟩
    · exact ⟨rfl, by omega⟩
theorem evDo_len (d : DkD) (l : List EvD) : (evDo d l).1.length = d.1.length ∧ (evDo d l).2.length ≤ max d.2.length 400 := by
  unfold evDo
  induction l generalizing d with
  | nil => exact ⟨rfl, by show d.2.length ≤ _; omega⟩
  | cons e l ih =>
    rw [List.foldl_cons]
    have h1 := ih (evStep d e)
    have h2 := evStep_len d e
    omega
theorem evDo_take (d : DkD) {l : List EvD} {k : Nat} (h : k < l.length) : evDo d (l.take (k + 1)) = evStep (evDo d (l.take k)) l[k] := by
  rw [List.take_succ_eq_append_getElem h, evDo_app]
  rfl
/-- What is known between two events. -/
structure EInv (w W : World) (Q : Nat) (a b : Option Addr) (c e : Nat) (D : DiskD) : Prop where
  var : Var W Q #[.slice a D.1.length c, .slice b D.2.length e] 27
  own : OwnD W (w.heap.size + 2) (.agg #[.slice a D.1.length c, .slice b D.2.length e]) D
  res : Var W (w.heap.size + 1) #[.slice none 0 0, .slice none 0 0] 27
  below : Below w.heap.size w W
theorem EInv.put {w W W' : World} {Q : Nat} {a b a' b' : Option Addr} {c e c' e' : Nat} {D D' : DiskD} (h : EInv w W Q a b c e D) (hQ : w.heap.size + 2 ≤ Q) (hb : Below W.heap.size W W') (ho : OwnD W' W.heap.size (.agg #[.slice a' D'.1.length c', .slice b' D'.2.length e']) D') :
    EInv w ((W'.setCell ⟨Q, 0, none⟩ (.slice a' D'.1.length c')).setCell ⟨Q, 1, none⟩ (.slice b' D'.2.length e')) Q a' b' c' e' D' ∧ W'.cell? ⟨Q, 0, none⟩ = some (.slice a D.1.length c) ∧ (W'.setCell ⟨Q, 0, none⟩ (.slice a' D'.1.length c')).cell? ⟨Q, 1, none⟩ = some (.slice b D.2.length e) ∧ W'.frozen? ⟨Q, 0, none⟩ = false ∧ W'.frozen? ⟨Q, 1, none⟩ = false := by
  have hV := h.var.new hb
  have hR := h.res.new hb
  have hlt := h.res.lt
  have hB := h.below.trans (hb.mono h.below.size)
  refine ⟨⟨hV.two _ _, ((ho.setVar hV 0 _).setVar (hV.set 0 _) 1 _).base (by omega), (hR.other (by omega) 0 _).other (by omega) 1 _, (hB.setCell (p := ⟨Q, 0, none⟩) (by show _ ≤ Q; omega) _).setCell (p := ⟨Q, 1, none⟩) (by show _ ≤ Q; omega) _⟩, hV.cell 0, (hV.set 0 _).cell 1, hV.frozen 0, hV.frozen 1⟩

set_option maxRecDepth 20000 in
set_option maxHeartbeats 4000000 in
theorem specEventsDo (v : Value) (d : DiskD) (q : Option Addr) (qc : Nat) (l : List EvD) (w : World) (hl : d.1.length ≤ 4194303 ∧ d.2.length ≤ 4194303) (hll : l.length ≤ 4194304) (hr : RdD w v d) (hq : RdF encE 3 w q l) :
    Calls Tryd.prog 92 #[v, .slice q l.length qc] w fun e w' => ∃ v', e = .returned v' ∧ OwnD w' w.heap.size v' (evDo d l) ∧ Below w.heap.size w w' := by
  have HRD : Hid (∀ W, Below w.heap.size w W → RdD W v d) := fun W h => hr.below h (Nat.le_refl _)
  obtain ⟨a, ca, b, cb, rfl, _, _⟩ := hr
  obtain ⟨hl1, hl2⟩ := hl
  have HCS : Hid (∀ k (hk : k < l.length), ∃ x off, q = some ⟨x, off, none⟩ ∧ x < w.heap.size ∧ w.cell? ⟨x, off + k * 3, none⟩ = some (.int .i64 l[k].1) ∧ w.cell? ⟨x, off + k * 3 + 1, none⟩ = some (.int .i64 l[k].2.1) ∧ w.cell? ⟨x, off + k * 3 + 2, none⟩ = some (.string l[k].2.2)) := by
    intro k hk
    obtain ⟨b, off, h1, h2, h3⟩ := hq.at k hk
    exact ⟨b, off, h1, h2, h3 0 (by omega), h3 1 (by omega), h3 2 (by omega)⟩
  have HCP : Hid (∀ W, Below w.heap.size w W → Calls Tryd.prog 63 #[.agg #[.slice a d.1.length ca, .slice b d.2.length cb]] W fun e w' => ∃ v', e = .returned v' ∧ OwnD w' W.heap.size v' d ∧ Below W.heap.size W w') :=
    fun W hW => copyD _ d W ⟨by omega, by omega⟩ (HRD.out W hW)
  have HLN : Hid (∀ k, (evDo d (l.take k)).1.length ≤ 4194303 ∧ (evDo d (l.take k)).2.length ≤ 4194303) := fun k => by
    have := evDo_len d (l.take k); omega
  clear hq
  go_enter Tryd.func92, Tryd.ntmps92
  go_wp2_with fail
  refine (HCP.out _ (below2 _ _ _)).mono ?_
  rintro e w1 ⟨v1, rfl, ho1, hb1⟩
  obtain ⟨a1, c1, b1, e1, rfl⟩ := ho1.shape
  have hs0 : ((w.alloc (.cells #[.slice a d.1.length ca, .slice b d.2.length cb] 27)).alloc (.cells #[.slice none 0 0, .slice none 0 0] 27)).heap.size = w.heap.size + 2 := by simp
  have hR1 : Var w1 (w.heap.size + 1) #[.slice none 0 0, .slice none 0 0] 27 := (Var.made2 w _ _ _).new hb1
  have hb01 : Below w.heap.size w w1 := (below2 w _ _).trans (hb1.mono (by omega))
  rw [hs0] at ho1
  have hs1 : w.heap.size + 2 ≤ w1.heap.size := hR1.lt
  have HI0 : Hid (EInv w (w1.alloc (.cells #[.slice a1 d.1.length c1, .slice b1 d.2.length e1] 27)) w1.heap.size a1 b1 c1 e1 d) :=
    ⟨Var.made w1 _ _, ho1.below (below1 _ _), hR1.alloc _, hb01.alloc (by omega) _⟩
  clear ho1 hR1 hb01 hb1 hs0 HCP HRD
  generalize hQ : w1.heap.size = Q at *
  go_wp2
  go_loopw [6] (fun i wr => ∃ (k : Nat) (a2 b2 : Option Addr) (c2 e2 : Nat), k ≤ l.length ∧ i = .int .i64 k ∧ Hid (EInv w wr Q a2 b2 c2 e2 (evDo d (l.take k)))) (fun i _ => l.length - (intOf i).toNat)
  case atStart => exact ⟨0, a1, b1, c1, e1, Nat.zero_le _, rfl, HI0⟩
  case round =>
    obtain ⟨k, a2, b2, c2, e2, hk, rfl, HI⟩ := hrel
    clear HI0
    by_cases hlt : k < l.length
    · obtain ⟨x, off, rfl, hblt, hc0, hc1, hc2⟩ := HCS.out k hlt
      have HD : Hid (∀ W, Below w.heap.size w W → W.cell? ⟨x, off + k * 3, none⟩ = some (.int .i64 l[k].1) ∧ W.cell? ⟨x, off + k * 3 + 1, none⟩ = some (.int .i64 l[k].2.1) ∧ W.cell? ⟨x, off + k * 3 + 2, none⟩ = some (.string l[k].2.2)) := fun W h => ⟨(h.cell hblt).trans hc0, (h.cell hblt).trans hc1, (h.cell hblt).trans hc2⟩
      have HNX : Hid (evDo d (l.take (k + 1)) = evStep (evDo d (l.take k)) (l[k].1, l[k].2.1, l[k].2.2)) := evDo_take d hlt
      obtain ⟨hn1, hn2⟩ := HLN.out k
      obtain ⟨y0, y1, y2⟩ := HD.out wr HI.out.below
      clear hc0 hc1 hc2
      generalize l[k].1 = kd at *
      generalize l[k].2.1 = at1 at *
      generalize l[k].2.2 = ys at *
      generalize evDo d (l.take k) = D at *
      have z0 : wr.cell? ⟨Q, 0, none⟩ = some (.slice a2 D.1.length c2) := HI.out.var.cell 0
      have z1 : wr.cell? ⟨Q, 1, none⟩ = some (.slice b2 D.2.length e2) := HI.out.var.cell 1
      have hi0 : (0 : Int) ≤ (k : Int) := by omega
      have hi1 : (k : Int) < (l.length : Int) := by omega
      by_cases hk0 : kd = 0
      · subst hk0
        have HE : Hid (evStep D (0, at1, ys) = wrD D at1 ys) := by show _ = _; unfold evStep wrD; rw [if_pos rfl]
        have HCW : Hid (Calls Tryd.prog 116 #[.agg #[.slice a2 D.1.length c2, .slice b2 D.2.length e2], .int .i64 at1, .string ys] wr.drew fun e w' => ∃ v', e = .returned (.tuple #[v', .bool (wrOk D at1 ys)]) ∧ OwnD w' wr.heap.size v' (wrD D at1 ys) ∧ Below wr.heap.size wr w') := by
          refine (specSectorWrite _ D at1 ys wr.drew ⟨by omega, by omega⟩ (HI.out.own.rd.below (Below.refl _ _).drew (Nat.le_refl _))).mono ?_
          rintro e w' ⟨v', rfl, h1, h2⟩
          exact ⟨v', rfl, h1, (Below.refl _ _).drew.trans h2⟩
        generalize wrD D at1 ys = D2 at *
        generalize wrOk D at1 ys = q2 at *
        go_wp2
        go_region_law (first
          | (go_simp
             go_at_call 116
             refine HCW.out.mono ?_
             rintro e w3 ⟨v3, rfl, ho3, hb3⟩
             obtain ⟨a3, c3, b3, e3, rfl⟩ := ho3.shape
             obtain ⟨hI3, s0, s1, s2, s3⟩ := HI.out.put (by omega) hb3 ho3
             have HI3 : Hid _ := hI3
             clear hI3 ho3 hb3))
        all_goals
          have HI4 : Hid (EInv w ((w3.setCell ⟨Q, 0, none⟩ (.slice a3 D2.1.length c3)).setCell ⟨Q, 1, none⟩ (.slice b3 D2.2.length e3)) Q a3 b3 c3 e3 (evDo d (l.take (k + 1)))) := by show EInv _ _ _ _ _ _ _ _; rw [HNX.out, HE.out]; exact HI3.out
          clear HI3 HNX HE
          go_wp2
          go_roundw
          case rel => exact ⟨k + 1, a3, b3, c3, e3, by omega, by go_num, HI4⟩
          case measure => simp [intOf]; omega
      · by_cases hk1 : kd = 1
        · subst hk1
          have HE : Hid (evStep D (1, at1, ys) = dkFlush D) := by show _ = _; unfold evStep; rw [if_neg (show ¬ (1 : Int) = 0 by decide), if_pos rfl]
          have HCW : Hid (Calls Tryd.prog 117 #[.agg #[.slice a2 D.1.length c2, .slice b2 D.2.length e2]] wr fun e w' => ∃ v', e = .returned v' ∧ OwnD w' wr.heap.size v' (dkFlush D) ∧ Below wr.heap.size wr w') := specFlush _ D wr ⟨by omega, by omega⟩ HI.out.own.rd
          generalize dkFlush D = D2 at *
          go_wp2_with fail
          refine HCW.out.mono ?_
          rintro e w3 ⟨v3, rfl, ho3, hb3⟩
          obtain ⟨a3, c3, b3, e3, rfl⟩ := ho3.shape
          obtain ⟨hI3, s0, s1, s2, s3⟩ := HI.out.put (by omega) hb3 ho3
          have HI4 : Hid (EInv w ((w3.setCell ⟨Q, 0, none⟩ (.slice a3 D2.1.length c3)).setCell ⟨Q, 1, none⟩ (.slice b3 D2.2.length e3)) Q a3 b3 c3 e3 (evDo d (l.take (k + 1)))) := by show EInv _ _ _ _ _ _ _ _; rw [HNX.out, HE.out]; exact hI3
          clear hI3 ho3 hb3 HNX HE
          go_wp2
          go_roundw
          case rel => exact ⟨k + 1, a3, b3, c3, e3, by omega, by go_num, HI4⟩
          case measure => simp [intOf]; omega
        · have HI4 : Hid (EInv w wr Q a2 b2 c2 e2 (evDo d (l.take (k + 1)))) := by
            have he : evStep D (kd, at1, ys) = D := by unfold evStep; rw [if_neg hk0, if_neg hk1]
            show EInv _ _ _ _ _ _ _ _
            rw [HNX.out, he]; exact HI.out
          have hd0 : decide (kd = 0) = false := by simp [hk0]
          have hd1 : decide (kd = 1) = false := by simp [hk1]
          clear HNX
          go_wp2
          go_roundw
          case rel => exact ⟨k + 1, a2, b2, c2, e2, by omega, by go_num, HI4⟩
          case measure => simp [intOf]; omega
    · obtain rfl : k = l.length := by omega
      have hI := HI.out
      rw [List.take_length] at hI
      generalize hDD : evDo d l = D at *
      have HDD : Hid (evDo d l = D) := hDD
      clear hDD
      have z0 : wr.cell? ⟨Q, 0, none⟩ = some (.slice a2 D.1.length c2) := hI.var.cell 0
      have z1 : wr.cell? ⟨Q, 1, none⟩ = some (.slice b2 D.2.length e2) := hI.var.cell 1
      have HO10 : Hid (OwnD ((wr.setCell ⟨w.heap.size + 1, 0, none⟩ (.slice a2 D.1.length c2)).setCell ⟨w.heap.size + 1, 1, none⟩ (.slice b2 D.2.length e2)) w.heap.size (.agg #[.slice a2 D.1.length c2, .slice b2 D.2.length e2]) D) := ((hI.own.setVar hI.res 0 _).setVar (hI.res.set 0 _) 1 _).base (by omega)
      have HR10 : Hid (Var ((wr.setCell ⟨w.heap.size + 1, 0, none⟩ (.slice a2 D.1.length c2)).setCell ⟨w.heap.size + 1, 1, none⟩ (.slice b2 D.2.length e2)) (w.heap.size + 1) #[.slice a2 D.1.length c2, .slice b2 D.2.length e2] 27) := hI.res.two _ _
      have hb10 : Below w.heap.size w ((wr.setCell ⟨w.heap.size + 1, 0, none⟩ (.slice a2 D.1.length c2)).setCell ⟨w.heap.size + 1, 1, none⟩ (.slice b2 D.2.length e2)) := (hI.below.setCell (p := ⟨w.heap.size + 1, 0, none⟩) (by show _ ≤ w.heap.size + 1; omega) _).setCell (p := ⟨w.heap.size + 1, 1, none⟩) (by show _ ≤ w.heap.size + 1; omega) _
      have hq0 := hI.res.cell 0
      have hq1 := (hI.res.set 0 (.slice a2 D.1.length c2)).cell 1
      have hk0 := hI.res.frozen 0
      have hk1 := hI.res.frozen 1
      simp at hq0 hq1
      clear hI HI
      go_wp2
      refine bodyPost_ret (results_cell_row rfl _ _ (w.heap.size + 1) 27 #[.slice a2 D.1.length c2, .slice b2 D.2.length e2] (0, 0) _ rfl HR10.out Tryd.underlying27 rfl Tryd.sizeDisk) rfl ?_
      exact ⟨_, rfl, by rw [HDD.out]; exact HO10.out, hb10⟩
end Go.Proofs.YtlidmnehpcodkaaDoor
