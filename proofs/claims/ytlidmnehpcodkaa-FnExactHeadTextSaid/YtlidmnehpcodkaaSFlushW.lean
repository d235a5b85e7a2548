/-
  Own text: flushing, as the other program does it.
-/
import Derived.Test.YtlidmnehpcodkaaSWriteW
namespace Go.Proofs.Ytlidmnehpcodkaa
open Go.RowKit

theorem Only.drew {S : Nat → Prop} {a w : World} (h : Only S a w) : Only S a w.drew := ⟨h.os, h.tape, h.output, h.size, h.block⟩
theorem putIn_take {s : List ByteArray} {l : List PutD} {k : Nat} (h : k < l.length) : putIn s (l.take (k + 1)) = (putIn s (l.take k)).set l[k].1.toNat l[k].2 := by
  rw [List.take_succ_eq_append_getElem h, putIn_app]
  rfl

set_option maxRecDepth 20000 in
set_option maxHeartbeats 2000000 in
theorem specFlush (v : Value) (d : DiskD) (w : World) (hl : d.1.length ≤ 4194303 ∧ d.2.length ≤ 4194303) (hr : RdD w v d) :
    Calls Try.prog 54 #[v] w fun e w' => ∃ v', e = .returned v' ∧ OwnD w' w.heap.size v' (dkFlush d) ∧ Below w.heap.size w w' := by
  have hrd := hr
  obtain ⟨a, ca, b, cb, rfl, r1, r2⟩ := hr
  have hl1 := hl.1
  have hl2 := hl.2
  have HPS : Hid (∀ k (hk : k < d.2.length), ∃ x off, b = some ⟨x, off, none⟩ ∧ x < w.heap.size ∧ w.cell? ⟨x, off + k * 2, none⟩ = some (.int .i64 d.2[k].1) ∧ w.cell? ⟨x, off + k * 2 + 1, none⟩ = some (.string d.2[k].2)) := by
    intro k hk
    obtain ⟨x, off, h1, h2, h3⟩ := r2.at k hk
    exact ⟨x, off, h1, h2, h3 0 (by omega), h3 1 (by omega)⟩
  have HOK : Hid (∀ W, Below w.heap.size w W → Calls Try.prog 76 #[.agg #[.slice a d.1.length ca, .slice b d.2.length cb]] W fun e w' => e = .returned (.bool (dkOk d)) ∧ Below W.heap.size W w') :=
    fun W hW => specDiskOk _ d W ⟨by omega, by omega⟩ (hrd.below hW (Nat.le_refl _))
  have HDF : Hid (dkFlush d = if dkOk d = true then (putIn d.1 d.2, []) else d) := rfl
  have HCP : Hid (∀ W, Below w.heap.size w W → Calls Try.prog 52 #[.agg #[.slice a d.1.length ca, .slice b d.2.length cb]] W fun e w' => ∃ v', e = .returned v' ∧ OwnD w' W.heap.size v' d ∧ Below W.heap.size W w') :=
    fun W hW => copyD _ d W ⟨by omega, by omega⟩ (hrd.below hW (Nat.le_refl _))
  clear r1 r2 hrd
  go_enter Try.func54, Try.ntmps54
  go_wp2_with fail
  refine (HCP.out _ (below2 _ _ _)).mono ?_
  rintro e w1 ⟨v1, rfl, ho1, hb1⟩
  obtain ⟨u1, u2, rfl, o1, o2⟩ := ho1
  obtain ⟨a1, c1, rfl, _, _⟩ := own_rdS o1
  obtain ⟨b1, d1, rfl, _, _⟩ := own_rdF encP_len o2 rfl
  have hs0 : ((w.alloc (.cells #[.slice a d.1.length ca, .slice b d.2.length cb] 43)).alloc (.cells #[.slice none 0 0, .slice none 0 0] 43)).heap.size = w.heap.size + 2 := by simp
  have hX1 : Var w1 w.heap.size #[.slice a d.1.length ca, .slice b d.2.length cb] 43 := ((Var.made w _ _).alloc _).new hb1
  have hR1 : Var w1 (w.heap.size + 1) #[.slice none 0 0, .slice none 0 0] 43 := (Var.made2 w _ _ _).new hb1
  have hb01 : Below w.heap.size w w1 := (below2 w _ _).trans (hb1.mono (by simp; omega))
  rw [hs0] at o1 o2
  have hlt1 : w.heap.size + 2 ≤ w1.heap.size := hR1.lt
  have hV2 : Var (w1.alloc (.cells #[.slice a1 d.1.length c1, .slice b1 d.2.length d1] 43)) w1.heap.size #[.slice a1 d.1.length c1, .slice b1 d.2.length d1] 43 := Var.made w1 _ _
  have hX2 := hX1.alloc (.cells #[.slice a1 d.1.length c1, .slice b1 d.2.length d1] 43)
  have hR2 := hR1.alloc (.cells #[.slice a1 d.1.length c1, .slice b1 d.2.length d1] 43)
  have o12 := o1.alloc (.cells #[.slice a1 d.1.length c1, .slice b1 d.2.length d1] 43)
  have o22 := o2.alloc (.cells #[.slice a1 d.1.length c1, .slice b1 d.2.length d1] 43)
  have hb02 : Below w.heap.size w (w1.alloc (.cells #[.slice a1 d.1.length c1, .slice b1 d.2.length d1] 43)) := hb01.alloc (by omega) _
  have hx0 := hX2.cell 0
  have hx1 := hX2.cell 1
  simp at hx0 hx1
  clear hX1 hR1 hb01 hb1 hs0 o1 o2 HCP
  go_wp2_with fail
  clear hx0 hx1
  generalize w1.alloc (.cells #[.slice a1 d.1.length c1, .slice b1 d.2.length d1] 43) = W2 at *
  refine (HOK.out W2 hb02).mono ?_
  rintro e w3 ⟨rfl, hb3⟩
  have hX3 := hX2.new hb3
  have hR3 := hR2.new hb3
  have hV3 := hV2.new hb3
  have o13 := ownsRow_below o12 hb3 (Nat.le_refl _)
  have o23 := ownsRow_below o22 hb3 (Nat.le_refl _)
  have hb03 : Below w.heap.size w w3 := hb02.trans (hb3.mono hb02.size)
  have hv0 := hV3.cell 0
  have hv1 := hV3.cell 1
  have hx1 := hX3.cell 1
  simp at hv0 hv1 hx1
  have HR3 : Hid (Var w3 (w.heap.size + 1) #[.slice none 0 0, .slice none 0 0] 43) := hR3
  clear hX2 hR2 hV2 o12 o22 hb02 hb3 HOK hR3
  cases hok : dkOk d with
  | false =>
    have HF : Hid (dkFlush d = d) := by show _ = _; rw [HDF.out, hok]; rfl
    have hO3 : OwnD w3 (w.heap.size + 2) (.agg #[.slice a1 d.1.length c1, .slice b1 d.2.length d1]) d := ⟨_, _, rfl, o13, o23⟩
    have HO10 : Hid (OwnD ((w3.setCell ⟨w.heap.size + 1, 0, none⟩ (.slice a1 d.1.length c1)).setCell ⟨w.heap.size + 1, 1, none⟩ (.slice b1 d.2.length d1)) w.heap.size (.agg #[.slice a1 d.1.length c1, .slice b1 d.2.length d1]) d) := ((hO3.setVar HR3.out 0 _).setVar (HR3.out.set 0 _) 1 _).base (by omega)
    have HR10 : Hid (Var ((w3.setCell ⟨w.heap.size + 1, 0, none⟩ (.slice a1 d.1.length c1)).setCell ⟨w.heap.size + 1, 1, none⟩ (.slice b1 d.2.length d1)) (w.heap.size + 1) #[.slice a1 d.1.length c1, .slice b1 d.2.length d1] 43) := HR3.out.two _ _
    have hb10 : Below w.heap.size w ((w3.setCell ⟨w.heap.size + 1, 0, none⟩ (.slice a1 d.1.length c1)).setCell ⟨w.heap.size + 1, 1, none⟩ (.slice b1 d.2.length d1)) := (hb03.setCell (p := ⟨w.heap.size + 1, 0, none⟩) (by show _ ≤ w.heap.size + 1; omega) _).setCell (p := ⟨w.heap.size + 1, 1, none⟩) (by show _ ≤ w.heap.size + 1; omega) _
    have hq0 := HR3.out.cell 0
    have hq1 := (HR3.out.set 0 (.slice a1 d.1.length c1)).cell 1
    have hk0 := HR3.out.frozen 0
    have hk1 := HR3.out.frozen 1
    simp at hq0 hq1
    clear hO3 o13 o23 hX3 hV3
    go_wp2
    refine bodyPost_ret (results_cell_row rfl _ _ (w.heap.size + 1) 43 #[.slice a1 d.1.length c1, .slice b1 d.2.length d1] (0, 0) _ rfl HR10.out Try.underlying43 rfl Try.sizeDisk) rfl ?_
    exact ⟨_, rfl, by rw [HF.out]; exact HO10.out, hb10⟩
  | true =>
    have HF : Hid (dkFlush d = (putIn d.1 d.2, [])) := by show _ = _; rw [HDF.out, hok]; rfl
    have HAT : Hid (∀ k (hk : k < d.2.length), 0 ≤ d.2[k].1 ∧ d.2[k].1 < (d.1.length : Int)) := by
      intro k hk
      have := (dkOk_iff.1 hok).2.2.2 _ (List.getElem_mem hk)
      exact ⟨this.1, this.2.1⟩
    have HX3 : Hid (Var w3 w.heap.size #[.slice a d.1.length ca, .slice b d.2.length cb] 43) := hX3
    have HV3 : Hid (Var w3 w1.heap.size #[.slice a1 d.1.length c1, .slice b1 d.2.length d1] 43) := hV3
    have hbl : ∀ k, blk (.slice a1 d.1.length c1) k → w.heap.size + 2 ≤ k ∧ k < w3.heap.size := o13.lt
    have HNX : Hid (¬ blk (.slice a1 d.1.length c1) w.heap.size ∧ ¬ blk (.slice a1 d.1.length c1) (w.heap.size + 1) ∧ ¬ blk (.slice a1 d.1.length c1) w1.heap.size) := ⟨own_var o13 hX3 (by decide), own_var o13 HR3.out (by decide), own_var o13 hV3 (by decide)⟩
    have HO13 : Hid (w3.ownsRow (w.heap.size + 2) 9 1 (.slice a1 d.1.length c1) d.1.length (d.1.map Value.string)) := o13
    clear hX3 hV3 o13 o23
    go_wp2
    go_loopw [4] (fun i wr => ∃ k : Nat, k ≤ d.2.length ∧ i = .int .i64 k ∧ Hid (wr.ownsRow (w.heap.size + 2) 9 1 (.slice a1 d.1.length c1) d.1.length ((putIn d.1 (d.2.take k)).map Value.string)) ∧ Hid (Only (blk (.slice a1 d.1.length c1)) w3 wr)) (fun i _ => d.2.length - (intOf i).toNat)
    case atStart => exact ⟨0, Nat.zero_le _, rfl, by show World.ownsRow _ _ _ _ _ _ _; rw [List.take_zero]; exact HO13.out, Only.refl _ _⟩
    case round =>
      obtain ⟨k, hk, rfl, HOW, HON⟩ := hrel
      have hXr := HX3.out.only HON.out HNX.out.1
      have hRr := HR3.out.only HON.out HNX.out.2.1
      have hVr := HV3.out.only HON.out HNX.out.2.2
      have hb0r : Below w.heap.size w wr := hb03.trans (HON.out.below hb03.size (fun j hj => by have := (hbl j hj).1; omega))
      have hxr1 := hXr.cell 1
      have hvr0 := hVr.cell 0
      have hvr1 := hVr.cell 1
      simp at hxr1 hvr0 hvr1
      by_cases hlt : k < d.2.length
      · obtain ⟨x, off, rfl, hblt, hc0, hc1⟩ := HPS.out k hlt
        have hd0 : wr.cell? ⟨x, off + k * 2, none⟩ = some (.int .i64 d.2[k].1) := (hb0r.cell hblt).trans hc0
        have hd1 : wr.cell? ⟨x, off + k * 2 + 1, none⟩ = some (.string d.2[k].2) := (hb0r.cell hblt).trans hc1
        obtain ⟨hat0, hat1⟩ := HAT.out k hlt
        have HPT : Hid (putIn d.1 (d.2.take (k + 1)) = (putIn d.1 (d.2.take k)).set d.2[k].1.toNat d.2[k].2) := putIn_take hlt
        have hplen : (putIn d.1 (d.2.take k)).length = d.1.length := putIn_len _ _
        have hform := HOW.out.2
        rcases hform with ⟨hv, hn0⟩ | ⟨g, cap, cur, hv, hgb, _⟩
        · exfalso; omega
        · simp only [Value.slice.injEq] at hv
          obtain ⟨rfl, _, rfl⟩ := hv
          have hcg := HOW.out.cellAt d.2[k].1.toNat (by omega)
          have hfg := HOW.out.frozenAt d.2[k].1.toNat
          have hst := (HOW.out.stored d.2[k].1.toNat (.string d.2[k].2)).1
          rw [← List.map_set, ← HPT.out] at hst
          have HST : Hid ((wr.setCell ⟨g, d.2[k].1.toNat, none⟩ (.string d.2[k].2)).ownsRow (w.heap.size + 2) 9 1 (.slice (some ⟨g, 0, none⟩) d.1.length c1) d.1.length ((putIn d.1 (d.2.take (k + 1))).map Value.string)) := hst
          have HON' : Hid (Only (blk (.slice (some ⟨g, 0, none⟩) d.1.length c1)) w3 (wr.setCell ⟨g, d.2[k].1.toNat, none⟩ (.string d.2[k].2))) := HON.out.setCell (p := ⟨g, d.2[k].1.toNat, none⟩) rfl _
          obtain ⟨old, hcg2⟩ : ∃ o, wr.cell? ⟨g, d.2[k].1.toNat, none⟩ = some o := by
            rw [hcg]
            exact ⟨_, List.getElem?_eq_getElem (by simp [hplen]; omega)⟩
          clear hcg hst hc0 hc1 hXr hRr hVr HPT
          generalize d.2[k].1 = yn at *
          generalize d.2[k].2 = ys at *
          go_wp2
          go_region
          all_goals
            go_wp2
            go_roundw
            case rel => exact ⟨k + 1, by omega, by go_num, HST.out.drew, HON'.out.drew⟩
            case measure => simp [intOf]; omega
      · obtain rfl : k = d.2.length := by omega
        have HOF : Hid (wr.ownsRow (w.heap.size + 2) 9 1 (.slice a1 d.1.length c1) d.1.length ((putIn d.1 d.2).map Value.string)) := by have := HOW.out; rw [List.take_length] at this; exact this
        have hf1 := hVr.frozen 1
        have HVr : Hid (Var wr w1.heap.size #[.slice a1 d.1.length c1, .slice b1 d.2.length d1] 43) := hVr
        have hV9 := hVr.set 1 (.slice none 0 0)
        have hR9 := hRr.other (Q := w1.heap.size) (by omega) 1 (.slice none 0 0)
        have ho9 := own_setVar HOF.out hVr (by decide) 1 (.slice none 0 0)
        have hO9 : OwnD (wr.setCell ⟨w1.heap.size, 1, none⟩ (.slice none 0 0)) (w.heap.size + 2) (.agg #[.slice a1 d.1.length c1, .slice none 0 0]) (putIn d.1 d.2, []) := by
          refine ⟨_, _, rfl, ?_, World.ownsRow_nil _ _ _ _⟩
          rw [putIn_len]
          exact ho9
        have hb09 : Below w.heap.size w (wr.setCell ⟨w1.heap.size, 1, none⟩ (.slice none 0 0)) := hb0r.setCell (p := ⟨w1.heap.size, 1, none⟩) (by show _ ≤ w1.heap.size; omega) _
        have hw0 := hV9.cell 0
        have hw1 := hV9.cell 1
        have hq0 := hR9.cell 0
        have hq1 := (hR9.set 0 (.slice a1 d.1.length c1)).cell 1
        have hk0 := hR9.frozen 0
        have hk1 := hR9.frozen 1
        simp at hw0 hw1 hq0 hq1 hk0 hk1
        have HO10 : Hid (OwnD (((wr.setCell ⟨w1.heap.size, 1, none⟩ (.slice none 0 0)).setCell ⟨w.heap.size + 1, 0, none⟩ (.slice a1 d.1.length c1)).setCell ⟨w.heap.size + 1, 1, none⟩ (.slice none 0 0)) w.heap.size (.agg #[.slice a1 d.1.length c1, .slice none 0 0]) (putIn d.1 d.2, [])) := ((hO9.setVar hR9 0 _).setVar (hR9.set 0 _) 1 _).base (by omega)
        have HR10 : Hid (Var (((wr.setCell ⟨w1.heap.size, 1, none⟩ (.slice none 0 0)).setCell ⟨w.heap.size + 1, 0, none⟩ (.slice a1 d.1.length c1)).setCell ⟨w.heap.size + 1, 1, none⟩ (.slice none 0 0)) (w.heap.size + 1) #[.slice a1 d.1.length c1, .slice none 0 0] 43) := hR9.two _ _
        have hb10 : Below w.heap.size w (((wr.setCell ⟨w1.heap.size, 1, none⟩ (.slice none 0 0)).setCell ⟨w.heap.size + 1, 0, none⟩ (.slice a1 d.1.length c1)).setCell ⟨w.heap.size + 1, 1, none⟩ (.slice none 0 0)) := (hb09.setCell (p := ⟨w.heap.size + 1, 0, none⟩) (by show _ ≤ w.heap.size + 1; omega) _).setCell (p := ⟨w.heap.size + 1, 1, none⟩) (by show _ ≤ w.heap.size + 1; omega) _
        clear hV9 hR9 ho9 hO9 hb09 hXr hRr hVr
        go_wp2
        refine bodyPost_ret (results_cell_row rfl _ _ (w.heap.size + 1) 43 #[.slice a1 d.1.length c1, .slice none 0 0] (0, 0) _ rfl HR10.out Try.underlying43 rfl Try.sizeDisk) rfl ?_
        exact ⟨_, rfl, by rw [HF.out]; exact HO10.out, hb10⟩
end Go.Proofs.Ytlidmnehpcodkaa
