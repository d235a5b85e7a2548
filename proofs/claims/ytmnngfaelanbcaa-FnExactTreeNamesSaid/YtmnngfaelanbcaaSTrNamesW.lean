/-
  Own text: the names of a directory of a tree, by the other program.
-/
import Derived.Test.YtmnngfaelanbcaaITrNamesW
import Derived.Test.YtmnngfaelanbcaaSTreeOkW
namespace Go.Proofs.Ytmnngfaelanbcaa
open Go.RowKit

set_option maxRecDepth 20000 in
set_option maxHeartbeats 2000000 in
theorem specTreeNames (v : Value) (l : List ItD) (s : ByteArray) (w : World) (hl : szIt l ≤ 1048576) (hr : RdTr w v l) :
    Calls Try.prog 15 #[v, .string s] w fun e w' => ∃ u, e = .returned u ∧ OwnTx w' w.heap.size w'.heap.size u (namesT l s) ∧ Below w.heap.size w w' := by
  obtain ⟨i0, hi, hz0, hz1, hz2⟩ := info_parts Try.infoStr1
  have hr0 := hr
  obtain ⟨a, ca, rfl, _, hr⟩ := hr
  have hll := Nat.le_trans (szIt_len l) hl
  have HP2 : Hid (∀ x ∈ l, x.p.size ≤ 4194304) := fun x hx => by have := szIt_mem hx; omega
  have HCS : Hid (∀ k (hk : k < l.length), ∃ b off, a = some ⟨b, off, none⟩ ∧ b < w.heap.size ∧ ItAt w b (off + k * 4) l[k]) := fun k hk => RdIt.at hr k hk
  have HTK : Hid (∀ W, Below w.heap.size w W → Calls Try.prog 8 #[.agg #[.slice a l.length ca]] W fun e w' => e = .returned (.bool (treeB l)) ∧ Below W.heap.size W w') := fun W h => specTreeOk _ l W hl (hr0.below h (Nat.le_refl _))
  have HTG : Hid (∀ W, Below w.heap.size w W → Calls Try.prog 12 #[.agg #[.slice a l.length ca], .string s] W fun e w' => e = .returned (.tuple #[.agg #[.string (itAt l s).p, .int .i64 (itAt l s).k, .string (itAt l s).d, .int .i64 (itAt l s).t], .bool (itIs l s)]) ∧ Below W.heap.size W w') := fun W h => specTreeGet _ l s W hl (hr0.below h (Nat.le_refl _))
  have HNT : Hid (namesT l s = if (treeB l && decide ((itAt l s).k = 2)) = true then belowL l s else []) := rfl
  have HZK : Hid (itIs l s = false → (itAt l s).k = 0) := by
    intro h
    unfold itIs at h
    unfold itAt
    cases hF : itF l s with
    | none => rfl
    | some z => rw [hF] at h; cases h
  clear hr hr0 hl
  generalize treeB l = tb at *
  generalize itAt l s = z at *
  generalize itIs l s = zq at *
  have HT0 : Hid (∀ W, Below ((w.alloc (.cells #[.slice a l.length ca] 29)).alloc (.cells #[] 9)).heap.size ((w.alloc (.cells #[.slice a l.length ca] 29)).alloc (.cells #[] 9)) W → W.cell? ⟨w.heap.size, 0, none⟩ = some (.slice a l.length ca)) := fun W h => (((Var.made w #[.slice a l.length ca] 29).alloc _).new h).cell 0
  have HBA : Hid (∀ w1, Below ((w.alloc (.cells #[.slice a l.length ca] 29)).alloc (.cells #[] 9)).heap.size ((w.alloc (.cells #[.slice a l.length ca] 29)).alloc (.cells #[] 9)) w1 → Below w.heap.size w (w1.alloc (.cells #[.string z.p, .int .i64 z.k, .string z.d, .int .i64 z.t] 34))) := fun w1 h => ((below2 w _ _).trans (h.mono (by simp; omega))).alloc (by have := h.size; simp at this; omega) _
  have HXX : Hid (∀ w1 W, Below ((w.alloc (.cells #[.slice a l.length ca] 29)).alloc (.cells #[] 9)).heap.size ((w.alloc (.cells #[.slice a l.length ca] 29)).alloc (.cells #[] 9)) w1 → Below (w1.alloc (.cells #[.string z.p, .int .i64 z.k, .string z.d, .int .i64 z.t] 34)).heap.size (w1.alloc (.cells #[.string z.p, .int .i64 z.k, .string z.d, .int .i64 z.t] 34)) W →
      W.cell? ⟨w1.heap.size, 1, none⟩ = some (.int .i64 z.k) ∧ W.cell? ⟨w.heap.size, 0, none⟩ = some (.slice a l.length ca) ∧ Below w.heap.size w W ∧ W.ownsRow (w.heap.size + 1) 9 1 (.slice (some ⟨w.heap.size + 1, 0, none⟩) 0 0) 0 []) := fun w1 W h1 h2 => by
    have hz := h1.size
    simp at hz
    have hB := (HBA.out w1 h1).trans (h2.mono (HBA.out w1 h1).size)
    have h12 := (h1.alloc h1.size (.cells #[.string z.p, .int .i64 z.k, .string z.d, .int .i64 z.t] 34)).trans (h2.mono (by simp; omega))
    refine ⟨((Var.made w1 #[.string z.p, .int .i64 z.k, .string z.d, .int .i64 z.t] 34).new h2).cell 1, HT0.out W h12, hB, ?_⟩
    have ho := World.ownsRow_made (e := 9) (size := 1) (base := w.heap.size + 1) (w.alloc (.cells #[.slice a l.length ca] 29)) #[] 0 (by simp) (by decide) rfl
    rw [show (w.alloc (.cells #[.slice a l.length ca] 29)).heap.size = w.heap.size + 1 by simp] at ho
    exact ownsRow_below ho h12 (Nat.le_refl _)
  cases tb with
  | false =>
    have HE : Hid (namesT l s = []) := by show _ = _; rw [HNT.out]; rfl
    go_enter Try.func15, Try.ntmps15
    go_wp2_with (first
    | (go_at_call 12; refine (HTG.out _ (below2 _ _ _)).mono ?_; rintro e w1 ⟨rfl, hb1⟩; have t1 := HT0.out _ hb1; have t2 := (((below1 w1 (.cells #[.string z.p, .int .i64 z.k, .string z.d, .int .i64 z.t] 34)).cell (p := ⟨w.heap.size, 0, none⟩) (by have := hb1.size; simp at this; show w.heap.size < w1.heap.size; omega)).trans t1))
    | (go_at_call 8; refine (HTK.out _ (HBA.out _ hb1)).mono ?_; rintro e w2 ⟨rfl, hb2⟩; obtain ⟨x2, t3, hB2, ho2⟩ := HXX.out _ _ hb1 hb2))
    go_ret
    exact ⟨_, rfl, by rw [HE.out]; exact OwnTx.of (ownsRow_base ho2 (Nat.le_succ _)), hB2⟩
  | true =>
    cases zq with
    | false =>
      have HE : Hid (namesT l s = []) := by show _ = _; rw [HNT.out, HZK.out rfl]; rfl
      go_enter Try.func15, Try.ntmps15
      go_wp2_with (first
    | (go_at_call 12; refine (HTG.out _ (below2 _ _ _)).mono ?_; rintro e w1 ⟨rfl, hb1⟩; have t1 := HT0.out _ hb1; have t2 := (((below1 w1 (.cells #[.string z.p, .int .i64 z.k, .string z.d, .int .i64 z.t] 34)).cell (p := ⟨w.heap.size, 0, none⟩) (by have := hb1.size; simp at this; show w.heap.size < w1.heap.size; omega)).trans t1))
    | (go_at_call 8; refine (HTK.out _ (HBA.out _ hb1)).mono ?_; rintro e w2 ⟨rfl, hb2⟩; obtain ⟨x2, t3, hB2, ho2⟩ := HXX.out _ _ hb1 hb2))
      go_ret
      exact ⟨_, rfl, by rw [HE.out]; exact OwnTx.of (ownsRow_base ho2 (Nat.le_succ _)), hB2⟩
    | true =>
      by_cases hzk : z.k = 2
      · have HE : Hid (namesT l s = belowL l s) := by show _ = _; rw [HNT.out, decide_eq_true hzk]; rfl
        have hzb : (z.k != 2) = false := by simpa using hzk
        clear hzk
        go_enter Try.func15, Try.ntmps15
        go_wp2_with (first
    | (go_at_call 12; refine (HTG.out _ (below2 _ _ _)).mono ?_; rintro e w1 ⟨rfl, hb1⟩; have t1 := HT0.out _ hb1; have t2 := (((below1 w1 (.cells #[.string z.p, .int .i64 z.k, .string z.d, .int .i64 z.t] 34)).cell (p := ⟨w.heap.size, 0, none⟩) (by have := hb1.size; simp at this; show w.heap.size < w1.heap.size; omega)).trans t1))
    | (go_at_call 8; refine (HTK.out _ (HBA.out _ hb1)).mono ?_; rintro e w2 ⟨rfl, hb2⟩; obtain ⟨x2, t3, hB2, ho2⟩ := HXX.out _ _ hb1 hb2))
        clear x2 hb1 hb2 t1 t2
        go_loopw [5, 8] (fun v i wr => ∃ k : Nat, k ≤ l.length ∧ i = .int .i64 k ∧ wr.ownsRow (w.heap.size + 1) 9 1 v (belowL (l.take k) s).length ((belowL (l.take k) s).map Value.string) ∧ Below w.heap.size w wr ∧ w.heap.size + 1 ≤ wr.heap.size ∧ wr.cell? ⟨w.heap.size, 0, none⟩ = some (.slice a l.length ca)) (fun _ i _ => l.length - (intOf i).toNat)
        case atStart => exact ⟨0, Nat.zero_le _, rfl, ho2, hB2, by have := (World.block_lt_of_cell? _ _ t3); show w.heap.size < w2.heap.size; exact this, t3⟩
        case round =>
          obtain ⟨k, hk, rfl, ho, hB, hz, t4⟩ := hrel
          clear hB2 t3 ho2
          by_cases hlt : k < l.length
          · obtain ⟨o, off, rfl, hblt, hcell⟩ := HCS.out k hlt
            obtain ⟨c0, c1, c2, c3⟩ := hcell.below hB hblt
            have hys := HP2.out _ (List.getElem_mem hlt)
            have HY : Hid (tx (abv (bt l[k].p)) = s → belowL (l.take (k + 1)) s = belowL (l.take k) s ++ [tx (lst (bt l[k].p))]) := belowL_yes hlt
            have HN : Hid (¬ tx (abv (bt l[k].p)) = s → belowL (l.take (k + 1)) s = belowL (l.take k) s) := belowL_no hlt
            have hbk : (belowL (l.take k) s).length ≤ l.length := Nat.le_trans (belowL_len _ _) (by rw [List.length_take]; omega)
            have HX : Hid (∀ W, Below wr.heap.size wr W → W.cell? ⟨o, off + k * 4, none⟩ = some (.string l[k].p) ∧ Below w.heap.size w W ∧ W.ownsRow (w.heap.size + 1) 9 1 u5 (belowL (l.take k) s).length ((belowL (l.take k) s).map Value.string) ∧ W.cell? ⟨w.heap.size, 0, none⟩ = some (.slice (some ⟨o, off, none⟩) l.length ca) ∧ w.heap.size + 1 ≤ W.heap.size) := fun W h =>
              ⟨(h.cell (p := ⟨o, off + k * 4, none⟩) (by show o < wr.heap.size; omega)).trans c0, hB.trans (h.mono hB.size), ownsRow_below ho h (Nat.le_refl _), (h.cell (p := ⟨w.heap.size, 0, none⟩) (by show w.heap.size < wr.heap.size; omega)).trans t4, Nat.le_trans hz h.size⟩
            clear hcell c1 c2 c3
            generalize hyy : (l[k]).p = yp at *
            have HAB : Hid (∀ W, Calls Try.prog 26 #[.string yp] W fun e w' => e = .returned (.string (tx (abv (bt yp)))) ∧ Below W.heap.size W w') := fun W => specAbove yp W hys
            have HLS : Hid (∀ W, Calls Try.prog 34 #[.string yp] W fun e w' => e = .returned (.string (tx (lst (bt yp)))) ∧ Below W.heap.size W w') := fun W => specLast yp W hys
            clear hyy
            by_cases he : tx (abv (bt yp)) = s
            · have hq : ((tx (abv (bt yp))).toList == s.toList) = true := by rw [he]; simp
              have HE2 := HY.out he
              clear HY HN he ho hB
              generalize tx (abv (bt yp)) = up at *
              generalize tx (lst (bt yp)) = la at *
              generalize belowL (l.take k) s = acc at *
              have HS5 : Hid (∀ W : World, Src Try.prog 1 39 (.slice (some ⟨W.heap.size, 0, none⟩) 1 1) 1 [Value.string la] (W.alloc (.cells #[.string la] 9))) := fun W => srcOneS Try.underlying39 W _ rfl
              have HX5 : Hid (∀ W, Below wr.heap.size wr W → Below w.heap.size w (W.alloc (.cells #[.string la] 9)) ∧ (W.alloc (.cells #[.string la] 9)).ownsRow (w.heap.size + 1) 9 1 u5 acc.length (acc.map Value.string) ∧ (W.alloc (.cells #[.string la] 9)).cell? ⟨w.heap.size, 0, none⟩ = some (.slice (some ⟨o, off, none⟩) l.length ca) ∧ w.heap.size + 1 ≤ (W.alloc (.cells #[.string la] 9)).heap.size) := fun W h => by
                obtain ⟨_, h2, h3, h4, h5⟩ := HX.out W h
                exact ⟨h2.alloc h2.size _, ownsRow_below h3 (below1 W _) (Nat.le_refl _), ((below1 W _).cell (p := ⟨w.heap.size, 0, none⟩) (by show w.heap.size < W.heap.size; omega)).trans h4, by simp; omega⟩
              go_wp2_with (first
                | (go_at_call 26; refine (HAB.out _).mono ?_; rintro e w4 ⟨rfl, hb4⟩; obtain ⟨x4, _, _, x5, _⟩ := HX.out _ hb4)
                | (go_at_call 34; refine (HLS.out _).mono ?_; rintro e w5 ⟨rfl, hb5⟩; obtain ⟨hB6, ho6, x6, hz6⟩ := HX5.out _ (hb4.trans (hb5.mono hb4.size)))
                | (at_builtin; refine wpList_append_own_src _ rfl (.tmp 45) (.tmp 53) 39 39 rfl (w.heap.size + 1) 9 i0 (.string ⟨#[]⟩) 1 16 Try.underlying39 hi hz0 hz1 hz2 rfl _ _ _ rfl ho6 _ 1 [.string la] rfl (HS5.out _) (by unfold maxLen; omega) (by omega) hz6 ?_; intro v8 w8 ho8 hg8))
              have hB8 : Below w.heap.size w w8 := hB6.trans ((Only.of_grown hg8).below hB6.size (fun j hj => by have := (ho6.lt j hj).1; omega))
              have hz8 : w.heap.size + 1 ≤ w8.heap.size := Nat.le_trans hz6 hg8.size
              have x8 := ((Only.of_grown hg8).cell (p := ⟨w.heap.size, 0, none⟩) (Nat.lt_of_lt_of_le (Nat.lt_succ_self _) hz6) (fun h => by have := (ho6.lt w.heap.size h).1; omega)).trans x6
              have ho9 : w8.ownsRow (w.heap.size + 1) 9 1 v8 (acc ++ [la]).length ((acc ++ [la]).map Value.string) := by rw [List.map_append, List.length_append]; exact ho8
              have HO9 : Hid (w8.ownsRow (w.heap.size + 1) 9 1 v8 (belowL (l.take (k + 1)) s).length ((belowL (l.take (k + 1)) s).map Value.string)) := by show World.ownsRow _ _ _ _ _ _ _; rw [HE2]; exact ho9
              clear ho6 ho8 ho9 hg8 hB6 hb4 hb5 x4 HE2
              go_roundw
              case rel => exact ⟨k + 1, by omega, by go_num, HO9.out, hB8, hz8, x8⟩
              case measure => simp [intOf]; omega
            · have hq : ((tx (abv (bt yp))).toList == s.toList) = false := by rw [str_beq]; exact decide_eq_false he
              have HE2 : Hid (belowL (l.take (k + 1)) s = belowL (l.take k) s) := HN.out he
              clear HY HN he
              generalize tx (abv (bt yp)) = up at *
              go_wp2_with (go_at_call 26; refine (HAB.out _).mono ?_; rintro e w4 ⟨rfl, hb4⟩; obtain ⟨_, hB4, ho4, x5, hz4⟩ := HX.out _ hb4)
              go_roundw
              case rel => exact ⟨k + 1, by omega, by go_num, by rw [HE2.out]; exact ho4, hB4, hz4, x5⟩
              case measure => simp [intOf]; omega
          · obtain rfl : k = l.length := by omega
            rw [List.take_length] at ho
            go_wp2
            go_ret
            exact ⟨_, rfl, by rw [HE.out]; exact OwnTx.of (ownsRow_base ho (Nat.le_succ _)), hB⟩
      · have HE : Hid (namesT l s = []) := by show _ = _; rw [HNT.out, decide_eq_false hzk]; rfl
        have hzb : (z.k != 2) = true := by simpa using hzk
        clear hzk
        go_enter Try.func15, Try.ntmps15
        go_wp2_with (first
    | (go_at_call 12; refine (HTG.out _ (below2 _ _ _)).mono ?_; rintro e w1 ⟨rfl, hb1⟩; have t1 := HT0.out _ hb1; have t2 := (((below1 w1 (.cells #[.string z.p, .int .i64 z.k, .string z.d, .int .i64 z.t] 34)).cell (p := ⟨w.heap.size, 0, none⟩) (by have := hb1.size; simp at this; show w.heap.size < w1.heap.size; omega)).trans t1))
    | (go_at_call 8; refine (HTK.out _ (HBA.out _ hb1)).mono ?_; rintro e w2 ⟨rfl, hb2⟩; obtain ⟨x2, t3, hB2, ho2⟩ := HXX.out _ _ hb1 hb2))
        go_ret
        exact ⟨_, rfl, by rw [HE.out]; exact OwnTx.of (ownsRow_base ho2 (Nat.le_succ _)), hB2⟩
end Go.Proofs.Ytmnngfaelanbcaa
