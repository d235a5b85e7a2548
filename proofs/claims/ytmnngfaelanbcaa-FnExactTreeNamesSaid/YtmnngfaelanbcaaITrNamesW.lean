/-
  Own text: the names of a directory of a tree, by the program.
-/
import Derived.Test.YtmnngfaelanbcaaIRightW
import Derived.Test.YtmnngfaelanbcaaAnsTW
namespace Go.Proofs.Ytmnngfaelanbcaa
open Go.RowKit

/-- The names of the items right below a path, in the list's order. -/
def belowL (l : List ItD) (s : ByteArray) : List ByteArray := (l.filter fun x => decide (tx (abv (bt x.p)) = s)).map fun x => tx (lst (bt x.p))
noncomputable def namesT (l : List ItD) (s : ByteArray) : List ByteArray := if (treeB l && dirB (itF l) s) = true then belowL l s else []
theorem belowL_yes {l : List ItD} {k : Nat} {s : ByteArray} (hk : k < l.length) (h : tx (abv (bt l[k].p)) = s) : belowL (l.take (k + 1)) s = belowL (l.take k) s ++ [tx (lst (bt l[k].p))] := by
  unfold belowL
  rw [List.take_succ_eq_append_getElem hk, List.filter_append, List.map_append]
  simp [h]
theorem belowL_no {l : List ItD} {k : Nat} {s : ByteArray} (hk : k < l.length) (h : ¬ tx (abv (bt l[k].p)) = s) : belowL (l.take (k + 1)) s = belowL (l.take k) s := by
  unfold belowL
  rw [List.take_succ_eq_append_getElem hk, List.filter_append, List.map_append]
  simp [h]
theorem belowL_len (l : List ItD) (s : ByteArray) : (belowL l s).length ≤ l.length := by
  unfold belowL
  rw [List.length_map]
  exact List.length_filter_le _ _
theorem namesT_len (l : List ItD) (s : ByteArray) : (namesT l s).length ≤ l.length := by
  unfold namesT
  split
  · exact belowL_len l s
  · exact Nat.zero_le _
theorem srcOneS {P : Program} {t e e' : TypeId} (ht : P.underlying t = some (.slice e')) (W : World) (u : Value) (h1 : u.oneCell' = true) : Src P 1 t (.slice (some ⟨W.heap.size, 0, none⟩) 1 1) 1 [u] (W.alloc (.cells #[u] e)) := by
  refine Src.ofSlice _ ht ⟨W.heap.size, 0, none⟩ 1 1 [u] rfl (fun j x hj => ?_) (fun x hx => by simp at hx; rw [hx]; exact h1)
  obtain ⟨hj1, rfl⟩ := List.getElem?_eq_some_iff.1 hj
  have : j = 0 := by simpa using hj1
  subst this
  rw [Go.WideShapes.add_plain, Nat.zero_add]
  exact (Var.made W #[u] e).cell 0
theorem Try.infoStr1 : (Try.prog.info? 9).map (fun i => (i.zero, i.size, i.bytes)) = some (some (.string ⟨#[]⟩), 1, 16) := by kernel_rfl

set_option maxRecDepth 20000 in
set_option maxHeartbeats 2000000 in
theorem implTreeNames (v : Value) (l : List ItD) (s : ByteArray) (w : World) (hl : szIt l ≤ 1048576) (hs : s.size ≤ 1048576) (hr : RdTr w v l) :
    Calls Try.prog 16 #[v, .string s] w fun e w' => ∃ u, e = .returned u ∧ OwnTx w' w.heap.size w'.heap.size u (namesT l s) ∧ Below w.heap.size w w' := by
  obtain ⟨i0, hi, hz0, hz1, hz2⟩ := info_parts Try.infoStr1
  have hr0 := hr
  obtain ⟨a, ca, rfl, _, hr⟩ := hr
  have hll := Nat.le_trans (szIt_len l) hl
  have HP : Hid (∀ x ∈ l, x.p.size ≤ maxLen) := fun x hx => by have := szIt_mem hx; unfold maxLen; omega
  have HP2 : Hid (∀ x ∈ l, x.p.size ≤ 4194304) := fun x hx => by have := szIt_mem hx; omega
  have HR : Hid (∀ W, Below w.heap.size w W → RdF encI 4 W a l) := fun W h => hr.below h (Nat.le_refl _)
  have HCS : Hid (∀ k (hk : k < l.length), ∃ b off, a = some ⟨b, off, none⟩ ∧ b < w.heap.size ∧ ItAt w b (off + k * 4) l[k]) := fun k hk => RdIt.at hr k hk
  have HTK : Hid (∀ W, Below w.heap.size w W → Calls Try.prog 10 #[.agg #[.slice a l.length ca]] W fun e w' => e = .returned (.bool (treeB l)) ∧ Below W.heap.size W w') := fun W h => implTreeOk _ l W hl (hr0.below h (Nat.le_refl _))
  have hsm : s.size ≤ maxLen := by unfold maxLen; omega
  clear hr hr0 hl
  have HB1 : Hid (Below w.heap.size w (w.alloc (.cells #[.slice a l.length ca] 29))) := below1 _ _
  have HT0 : Hid (∀ W, Below (w.alloc (.cells #[.slice a l.length ca] 29)).heap.size (w.alloc (.cells #[.slice a l.length ca] 29)) W → W.cell? ⟨w.heap.size, 0, none⟩ = some (.slice a l.length ca)) := fun W h => ((Var.made w #[.slice a l.length ca] 29).new h).cell 0
  have HNT : Hid (namesT l s = if (treeB l && dirB (itF l) s) = true then belowL l s else []) := rfl
  generalize treeB l = tb at *
  generalize hdb : dirB (itF l) s = db at *
  have HDB : Hid (dirB (itF l) s = db) := hdb
  clear hdb
  go_enter Try.func16, Try.ntmps16
  cases tb with
  | false =>
    have HE : Hid (namesT l s = []) := by show _ = _; rw [HNT.out]; rfl
    go_wp2_with (go_at_call 10; refine (HTK.out _ (below1 _ _)).mono ?_; rintro e w1 ⟨rfl, hb1⟩)
    have hB1 := HB1.out.trans (hb1.mono HB1.out.size)
    go_ret
    exact ⟨_, rfl, by rw [HE.out]; exact ⟨World.ownsRow_nil _ _ _ _, fun j hj => by simp [blk, Value.ownBlock] at hj⟩, hB1⟩
  | true =>
    have HB2 : Hid (∀ w1, Below (w.alloc (.cells #[.slice a l.length ca] 29)).heap.size (w.alloc (.cells #[.slice a l.length ca] 29)) w1 → Below w.heap.size w w1) := fun w1 h => HB1.out.trans (h.mono HB1.out.size)
    cases db with
    | false =>
      have HE : Hid (namesT l s = []) := by show _ = _; rw [HNT.out]; rfl
      go_wp2_with (first
        | (go_at_call 10; refine (HTK.out _ (below1 _ _)).mono ?_; rintro e w1 ⟨rfl, hb1⟩; have t1 := HT0.out _ hb1)
        | (go_at_call 28; refine (implItems _ _ l _ hll HP.out (HR.out _ (HB2.out _ hb1))).mono ?_; rintro e w2 ⟨b, rfl, hbl, hM, hb2⟩)
        | (go_at_call 35; refine (implIsDir b (l.length + 1) (itF l) s _ hsm hM).mono ?_; rintro e w3 ⟨he, hb3⟩; rw [HDB.out] at he; subst he))
      have hB1 := HB2.out _ ((hb1.trans (hb2.mono hb1.size)).trans (hb3.mono (Nat.le_trans hb1.size hb2.size)))
      go_ret
      exact ⟨_, rfl, by rw [HE.out]; exact ⟨World.ownsRow_nil _ _ _ _, fun j hj => by simp [blk, Value.ownBlock] at hj⟩, hB1⟩
    | true =>
      have HE : Hid (namesT l s = belowL l s) := by show _ = _; rw [HNT.out]; rfl
      go_wp2_with (first
        | (go_at_call 10; refine (HTK.out _ (below1 _ _)).mono ?_; rintro e w1 ⟨rfl, hb1⟩; have t1 := HT0.out _ hb1)
        | (go_at_call 28; refine (implItems _ _ l _ hll HP.out (HR.out _ (HB2.out _ hb1))).mono ?_; rintro e w2 ⟨b, rfl, hbl, hM, hb2⟩)
        | (go_at_call 35; refine (implIsDir b (l.length + 1) (itF l) s _ hsm hM).mono ?_; rintro e w3 ⟨he, hb3⟩; rw [HDB.out] at he; subst he; have t3 := HT0.out _ ((hb1.trans (hb2.mono hb1.size)).trans (hb3.mono (Nat.le_trans hb1.size hb2.size)))))
      have hB3 := HB2.out _ ((hb1.trans (hb2.mono hb1.size)).trans (hb3.mono (Nat.le_trans hb1.size hb2.size)))
      clear hb1 hb2 hb3 hM hbl t1
      go_loopw [5, 22] (fun v i wr => ∃ k : Nat, k ≤ l.length ∧ i = .int .i64 k ∧ wr.ownsRow w.heap.size 9 1 v (belowL (l.take k) s).length ((belowL (l.take k) s).map Value.string) ∧ Below w.heap.size w wr) (fun _ i _ => l.length - (intOf i).toNat)
      case atStart => exact ⟨0, Nat.zero_le _, rfl, World.ownsRow_nil _ _ _ _, hB3⟩
      case round =>
        obtain ⟨k, hk, rfl, ho, hB⟩ := hrel
        clear hB3 t3
        by_cases hlt : k < l.length
        · obtain ⟨o, off, rfl, hblt, hcell⟩ := HCS.out k hlt
          obtain ⟨c0, c1, c2, c3⟩ := hcell.below hB hblt
          clear hcell
          have hys := HP2.out _ (List.getElem_mem hlt)
          have HY : Hid (tx (abv (bt l[k].p)) = s → belowL (l.take (k + 1)) s = belowL (l.take k) s ++ [tx (lst (bt l[k].p))]) := belowL_yes hlt
          have HN : Hid (¬ tx (abv (bt l[k].p)) = s → belowL (l.take (k + 1)) s = belowL (l.take k) s) := belowL_no hlt
          have hbk : (belowL (l.take k) s).length ≤ l.length := Nat.le_trans (belowL_len _ _) (by rw [List.length_take]; omega)
          generalize hyy : l[k] = y at *
          obtain ⟨yp, yk, yd, yt⟩ := y
          simp only at c0 c1 c2 c3 hys HY HN
          have HAB : Hid (∀ W, Calls Try.prog 36 #[.string yp] W fun e w' => e = .returned (.string (tx (abv (bt yp)))) ∧ Below W.heap.size W w') := fun W => implAbove yp W hys
          have HLS : Hid (∀ W, Calls Try.prog 37 #[.string yp] W fun e w' => e = .returned (.string (tx (lst (bt yp)))) ∧ Below W.heap.size W w') := fun W => implLast yp W hys
          have HX : Hid (∀ W, Below (wr.alloc (.cells #[.string yp, .int .i64 yk, .string yd, .int .i64 yt] 34)).heap.size (wr.alloc (.cells #[.string yp, .int .i64 yk, .string yd, .int .i64 yt] 34)) W → W.cell? ⟨wr.heap.size, 0, none⟩ = some (.string yp) ∧ Below w.heap.size w W ∧ W.ownsRow w.heap.size 9 1 u5 (belowL (l.take k) s).length ((belowL (l.take k) s).map Value.string)) := fun W h => by
            have hbw : Below wr.heap.size wr W := (below1 wr _).trans (h.mono (by simp))
            exact ⟨((Var.made wr #[.string yp, .int .i64 yk, .string yd, .int .i64 yt] 34).new h).cell 0, hB.trans (hbw.mono hB.size), ownsRow_below ho hbw (Nat.le_refl _)⟩
          by_cases he : tx (abv (bt yp)) = s
          · have hq : ((tx (abv (bt yp))).toList == s.toList) = true := by rw [he]; simp
            have HE2 := HY.out he
            clear HY HN he ho hB
            generalize tx (abv (bt yp)) = up at *
            generalize tx (lst (bt yp)) = la at *
            generalize belowL (l.take k) s = acc at *
            have HS5 : Hid (∀ W : World, Src Try.prog 1 39 (.slice (some ⟨W.heap.size, 0, none⟩) 1 1) 1 [Value.string la] (W.alloc (.cells #[.string la] 9))) := fun W => srcOneS Try.underlying39 W _ rfl
            have HX5 : Hid (∀ W, Below (wr.alloc (.cells #[.string yp, .int .i64 yk, .string yd, .int .i64 yt] 34)).heap.size (wr.alloc (.cells #[.string yp, .int .i64 yk, .string yd, .int .i64 yt] 34)) W → Below w.heap.size w (W.alloc (.cells #[.string la] 9)) ∧ (W.alloc (.cells #[.string la] 9)).ownsRow w.heap.size 9 1 u5 acc.length (acc.map Value.string)) := fun W h =>
              ⟨(HX.out W h).2.1.alloc (HX.out W h).2.1.size _, ownsRow_below (HX.out W h).2.2 (below1 W _) (Nat.le_refl _)⟩
            go_wp2_with (first
              | (go_at_call 36; refine (HAB.out _).mono ?_; rintro e w4 ⟨rfl, hb4⟩; have x4 := (HX.out _ hb4).1)
              | (go_at_call 37; refine (HLS.out _).mono ?_; rintro e w5 ⟨rfl, hb5⟩; obtain ⟨hB6, ho6⟩ := HX5.out _ (hb4.trans (hb5.mono hb4.size)))
              | (at_builtin; refine wpList_append_own_src _ rfl (.tmp 31) (.tmp 35) 39 39 rfl w.heap.size 9 i0 (.string ⟨#[]⟩) 1 16 Try.underlying39 hi hz0 hz1 hz2 rfl _ _ _ rfl ho6 _ 1 [.string la] rfl (HS5.out _) (by unfold maxLen; omega) (by omega) hB6.size ?_; intro v8 w8 ho8 hg8))
            have hB8 : Below w.heap.size w w8 := hB6.trans ((Only.of_grown hg8).below hB6.size (fun j hj => by have := (ho6.lt j hj).1; omega))
            have ho9 : w8.ownsRow w.heap.size 9 1 v8 (acc ++ [la]).length ((acc ++ [la]).map Value.string) := by rw [List.map_append, List.length_append]; exact ho8
            have HO9 : Hid (w8.ownsRow w.heap.size 9 1 v8 (belowL (l.take (k + 1)) s).length ((belowL (l.take (k + 1)) s).map Value.string)) := by show World.ownsRow _ _ _ _ _ _ _; rw [HE2]; exact ho9
            clear ho6 ho8 ho9 hg8 hB6 hb4 hb5 x4 HE2
            go_roundw
            case rel => exact ⟨k + 1, by omega, by go_num, HO9.out, hB8⟩
            case measure => simp [intOf]; omega
          · have hq : ((tx (abv (bt yp))).toList == s.toList) = false := by rw [str_beq]; exact decide_eq_false he
            have HE2 : Hid (belowL (l.take (k + 1)) s = belowL (l.take k) s) := HN.out he
            clear HY HN he
            generalize tx (abv (bt yp)) = up at *
            go_wp2_with (go_at_call 36; refine (HAB.out _).mono ?_; rintro e w4 ⟨rfl, hb4⟩; obtain ⟨_, hB4, ho4⟩ := HX.out _ hb4)
            go_roundw
            case rel => exact ⟨k + 1, by omega, by go_num, by rw [HE2.out]; exact ho4, hB4⟩
            case measure => simp [intOf]; omega
        · obtain rfl : k = l.length := by omega
          rw [List.take_length] at ho
          go_wp2
          go_ret
          exact ⟨_, rfl, by rw [HE.out]; exact OwnTx.of ho, hB⟩
end Go.Proofs.Ytmnngfaelanbcaa
