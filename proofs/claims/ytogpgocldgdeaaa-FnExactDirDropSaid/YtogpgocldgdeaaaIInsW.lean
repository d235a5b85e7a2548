/-
  Own text: slices.Insert of one entry into a row of the call's own (written by insgen.py).
-/
import Derived.Test.YtogpgocldgdeaaaSlRun
namespace Go.Proofs.Ytogpgocldgdeaaa
open Go.RowKit Go.Lib

def insE (l : List EntD) (i : Nat) (s : ByteArray) (n : Int) : List EntD := l.take i ++ (s, n) :: l.drop i
theorem insE_len {l : List EntD} {i : Nat} {s : ByteArray} {n : Int} (hi : i ≤ l.length) : (insE l i s n).length = l.length + 1 := by unfold insE; simp; omega
theorem insE_flat (l : List EntD) (i : Nat) (s : ByteArray) (n : Int) : (insE l i s n).flatMap encN = (l.take i).flatMap encN ++ [.string s, .int .i64 n] ++ (l.drop i).flatMap encN := by
  unfold insE
  rw [List.flatMap_append, List.flatMap_cons]
  simp [encN]
/-- What a place of a list holds, put in by pieces. -/
theorem put_in {X A Y : List Value} {p q : Nat} (hp : X.length = p) : ((X ++ Y).take p ++ A ++ (X ++ Y).drop (p + q)) = X ++ A ++ Y.drop q := by
  subst hp
  rw [List.take_left, List.drop_append, Nat.add_sub_cancel_left, List.drop_eq_nil_of_le (Nat.le_add_right _ _), List.nil_append]

/-- In place: what is told of a row of which all cells from i on are put anew. -/
theorem ins_done {w : World} {base g cap : Nat} {l : List EntD} {i : Nat} {s : ByteArray} {n : Int} {C : Array Value} (hi : i ≤ l.length) (hV : Var w g C 41) (hbg : base ≤ g) (hnc : l.length + 1 ≤ cap) (hcm : cap ≤ maxLen) (hcs : C.size = cap * 2) (ht : ∃ Z, C.toList = (insE l i s n).flatMap encN ++ Z) :
    w.ownsRow base 41 2 (.slice (some ⟨g, 0, none⟩) (l.length + 1) cap) (l.length + 1) ((insE l i s n).flatMap encN) := by
  obtain ⟨Z, hZ⟩ := ht
  refine ⟨by rw [flat_len_c encN_len, insE_len hi], .inr ⟨g, cap, C, rfl, hbg, hV, hnc, hcm, hcs, ?_⟩⟩
  rw [hZ]
  have e : (l.length + 1) * 2 = ((insE l i s n).flatMap encN).length := by rw [flat_len_c encN_len, insE_len hi]
  rw [e, List.take_left]

set_option maxRecDepth 20000 in
set_option maxHeartbeats 4000000 in
/-- At the end. -/
theorem insEnd (base vb : Nat) (v : Value) (l : List EntD) (s : ByteArray) (n : Int) (w : World) (hl : l.length ≤ 4194304) (hbase : base ≤ w.heap.size) (ho : w.ownsRow base 41 2 v l.length (l.flatMap encN)) (hx : Var w vb #[.string s, .int .i64 n] 41) :
    Calls Try.prog 46 #[v, .int .i64 (l.length : Nat), .slice (some ⟨vb, 0, none⟩) 1 1] w fun e w' => ∃ v', e = .returned v' ∧ w'.ownsRow base 41 2 v' (l.length + 1) ((insE l l.length s n).flatMap encN) ∧ Only (blk v) w w' := by
  obtain ⟨i0, hi0, hz0, hz1, hz2⟩ := info_parts Try.infoEnt
  have hsrc : Src Try.prog 2 25 (.slice (some ⟨vb, 0, none⟩) 1 1) 1 [.string s, .int .i64 n] w := by
    refine Src.ofSlice _ Try.underlying25 ⟨vb, 0, none⟩ 1 1 [.string s, .int .i64 n] rfl (fun j u hj => ?_) (fun u hu => ?_)
    · rw [Go.WideShapes.add_plain, Nat.zero_add, hx.cell j, ← hj]
      simp
    · simp at hu
      rcases hu with rfl | rfl <;> rfl
  have HS : Hid (Src Try.prog 2 25 (.slice (some ⟨vb, 0, none⟩) 1 1) 1 [.string s, .int .i64 n] w) := hsrc
  have HO : Hid (w.ownsRow base 41 2 v l.length (l.flatMap encN)) := ho
  obtain ⟨av, cv, rfl, hlc⟩ : ∃ av cv, v = .slice av l.length cv ∧ l.length ≤ cv := by
    rcases ho.2 with ⟨rfl, h0⟩ | ⟨g, cap, cur, rfl, _, _, h, _⟩
    · exact ⟨none, 0, by rw [h0], by omega⟩
    · exact ⟨_, _, rfl, h⟩
  have hE : (insE l l.length s n).flatMap encN = l.flatMap encN ++ [.string s, .int .i64 n] := by rw [insE_flat, List.take_length, List.drop_length]; simp
  rw [hE]
  obtain ⟨u, hu⟩ : ∃ u, ∀ W : World, (Instr.slice 44 (.slice av l.length cv) (some (.int .i64 (l.length : Int))) none none).run Try.prog W = .ok u W := ⟨_, fun W => by rw [run_slice_l W 44 av l.length cv Try.elemEnR .i64 (l.length : Int) (by omega) (by omega), Try.sizeEnR]; rfl⟩
  clear ho hsrc hx hE
  generalize l.flatMap encN = X at *
  go_enter Try.func46, Try.ntmps46
  go_wp2_with (at_builtin; refine wpList_append_own_src _ rfl (.tmp 23) (.tmp 24) 44 25 rfl base 41 i0 _ 2 24 Try.underlying44 hi0 hz0 hz1 hz2 rfl _ _ _ rfl HO.out _ 1 [.string s, .int .i64 n] rfl HS.out (by unfold maxLen; omega) (by omega) hbase ?_)
  intro v2 w2 ho2 hg2
  go_wp2
  go_ret
  exact ⟨_, rfl, ho2, (Only.of_grown hg2).mono fun k _ hk => hk⟩

set_option maxRecDepth 20000 in
set_option maxHeartbeats 4000000 in
/-- Ahead of the end, with room: in place. -/
theorem insShift (base vb g cap : Nat) (cur : Array Value) (l : List EntD) (i : Nat) (s : ByteArray) (n : Int) (w : World) (hl : l.length ≤ 4194304) (hi : i < l.length) (hbg : base ≤ g) (hV : Var w g cur 41) (hroom : l.length + 1 ≤ cap) (hcm : cap ≤ maxLen) (hcs : cur.size = cap * 2) (htake : cur.toList.take (l.length * 2) = l.flatMap encN) (hx : Var w vb #[.string s, .int .i64 n] 41) (hne : vb ≠ g) :
    Calls Try.prog 46 #[.slice (some ⟨g, 0, none⟩) l.length cap, .int .i64 (i : Nat), .slice (some ⟨vb, 0, none⟩) 1 1] w fun e w' => ∃ v', e = .returned v' ∧ w'.ownsRow base 41 2 v' (l.length + 1) ((insE l i s n).flatMap encN) ∧ Only (blk (.slice (some ⟨g, 0, none⟩) l.length cap)) w w' := by
  have hcm2 : cap ≤ 9223372036854775807 := by unfold maxLen at hcm; omega
  have hcl : cur.toList.length = cap * 2 := by rw [Array.length_toList (xs := cur)]; exact hcs
  have hov : ∀ lb cb, (callFunc 48 #[.slice (some ⟨vb, 0, none⟩) 1 1, .slice (some ⟨g, (i + 1) * 2, none⟩) lb cb]).run Try.prog w = .ok (.value (.bool false)) w := fun lb cb => by
    have hsa : w.shape? vb = some (41, 2) := by have h : w.heap[vb]? = _ := hx; simp [World.shape?, h]
    have hsb : w.shape? g = some (41, cap * 2) := by have h : w.heap[g]? = _ := hV; simp [World.shape?, h, hcs]
    rw [run_callFunc_extern Try.func48 (by kernel_rfl) (by kernel_rfl) (by kernel_rfl) (e := Extern.SlicesOverlaps.overlaps #[25, 25] #[4]) (by kernel_rfl),
      Lib.run_overlaps_apart w 25 4 41 Try.underlying25 2 Try.size41 ⟨vb, 0, none⟩ ⟨g, (i + 1) * 2, none⟩ 1 1 lb cb hne 41 41 2 (cap * 2) hsa hsb (by omega) (hx.frozen 0) (hx.frozen 2)]
    rfl
  have hA := cutHiR (some ⟨g, 0, none⟩) cap l.length (l.length + 1) hroom
  have hA2 : ∀ W : World, (Instr.slice 44 (.slice (some ⟨g, 0, none⟩) l.length cap) none (some (.int .i64 ((l.length : Int) + 1))) none).run Try.prog W = .ok (.slice (some ⟨g, 0, none⟩) (l.length + 1) cap) W := hA
  have hL1 := cutLoR g cap (l.length + 1) (i + 1) (by omega) (by omega)
  have hL1b : ∀ W : World, (Instr.slice 44 (.slice (some ⟨g, 0, none⟩) (l.length + 1) cap) (some (.int .i64 ((i : Int) + 1))) none none).run Try.prog W = .ok (.slice (some ⟨g, (i + 1) * 2, none⟩) (l.length + 1 - (i + 1)) (cap - (i + 1))) W := hL1
  have hL0 := cutLoR g cap (l.length + 1) i (by omega) (by omega)
  obtain ⟨D, hD⟩ : ∃ D, (l.drop i).flatMap encN = D := ⟨_, rfl⟩
  have hDl : D.length = (l.length - i) * 2 := by rw [← hD, flat_len_c encN_len, List.length_drop]
  have hD1 : ∀ u ∈ D, u.oneCell' = true := by rw [← hD]; exact oneEn _
  have hVd : Var w.drew g cur 41 := hV
  obtain ⟨X, hX⟩ : ∃ X, (l.take i).flatMap encN = X := ⟨_, rfl⟩
  have hXl : X.length = i * 2 := by rw [← hX, flat_len_c encN_len, List.length_take]; omega
  have hXD : l.flatMap encN = X ++ D := by rw [← hX, ← hD, ← List.flatMap_append, List.take_append_drop]
  obtain ⟨Z, hZ⟩ : ∃ Z, cur.toList = X ++ (D ++ Z) := ⟨cur.toList.drop (l.length * 2), by rw [← List.append_assoc, ← hXD, ← htake, List.take_append_drop]⟩
  have hZl : Z.length = cap * 2 - l.length * 2 := by have := hcl; rw [hZ] at this; simp only [List.length_append] at this; omega
  -- the first copy
  obtain ⟨C1, hC1⟩ : ∃ C, (cur.toList.take ((i + 1) * 2) ++ D ++ cur.toList.drop ((i + 1) * 2 + D.length)).toArray = C := ⟨_, rfl⟩
  have hmin1 : Nat.min (l.length + 1 - i) (l.length + 1 - (i + 1)) = l.length - i := by simp only [Nat.min_def]; split <;> omega
  have hr1 : ∀ ty, (Builtin.copy_ #[44, 44] ty #[.slice (some ⟨g, (i + 1) * 2, none⟩) (l.length + 1 - (i + 1)) (cap - (i + 1)), .slice (some ⟨g, i * 2, none⟩) (l.length + 1 - i) (cap - i)]).run Try.prog w.drew = .ok (goInt ((l.length - i : Nat) : Int)) (w.drew.setRow g C1) := fun ty => by
    have h := run_copyV (P := Try.prog) w.drew 44 44 ty 41 41 2 g ((i + 1) * 2) (l.length + 1 - (i + 1)) (cap - (i + 1)) ⟨g, i * 2, none⟩ (l.length + 1 - i) (cap - i) cur D Try.underlying44 Try.size41 hVd (by rw [hmin1, hDl]) (fun j u hj => by rw [← hD] at hj; exact cellsFrom hVd htake i j u hj) (by rw [hDl, hcs]; omega) hD1
    rw [hmin1, hC1] at h
    exact h
  have hV1 := hVd.row C1
  have hx1 : Var (w.drew.setRow g C1) vb #[.string s, .int .i64 n] 41 := Var.otherRow (w := w.drew) hx hne C1
  have hO1 := only_row w.drew g C1
  obtain ⟨W1, hW1⟩ : ∃ W, w.drew.setRow g C1 = W := ⟨_, rfl⟩
  rw [hW1] at hr1 hV1 hO1 hx1
  have hC1s : C1.size = cap * 2 := by
    rw [← hC1]
    simp only [List.size_toArray, List.length_append, List.length_take, List.length_drop, hDl, hcl]
    omega
  -- the second
  obtain ⟨C2, hC2⟩ : ∃ C, (C1.toList.take (i * 2) ++ [Value.string s, .int .i64 n] ++ C1.toList.drop (i * 2 + [Value.string s, .int .i64 n].length)).toArray = C := ⟨_, rfl⟩
  have hmin2 : Nat.min 1 (l.length + 1 - i) = 1 := by simp only [Nat.min_def]; split <;> omega
  have hr2 : ∀ ty, (Builtin.copy_ #[44, 25] ty #[.slice (some ⟨g, i * 2, none⟩) (l.length + 1 - i) (cap - i), .slice (some ⟨vb, 0, none⟩) 1 1]).run Try.prog W1 = .ok (goInt 1) (W1.setRow g C2) := fun ty => by
    have h := run_copyV (P := Try.prog) W1 44 25 ty 41 41 2 g (i * 2) (l.length + 1 - i) (cap - i) ⟨vb, 0, none⟩ 1 1 C1 [Value.string s, .int .i64 n] Try.underlying44 Try.size41 hV1 (by rw [hmin2]; rfl) (fun j u hj => by rw [Go.WideShapes.add_plain, Nat.zero_add, hx1.cell j, ← hj]; simp) (by rw [hC1s]; simp; omega) (fun u hu => by simp at hu; rcases hu with rfl | rfl <;> rfl)
    rw [hmin2, hC2] at h
    exact h
  have hFin : (W1.setRow g C2).ownsRow base 41 2 (.slice (some ⟨g, 0, none⟩) (l.length + 1) cap) (l.length + 1) ((insE l i s n).flatMap encN) := by
    refine ins_done (by omega) (hV1.row C2) hbg hroom hcm ?_ ?_
    · rw [← hC2]
      simp only [List.size_toArray, List.length_append, List.length_take, List.length_drop, Array.length_toList, hC1s, List.length_cons, List.length_nil]
      omega
    · have e1 : C1.toList = X ++ ((D ++ Z).take 2 ++ D ++ Z.drop 2) := by
        rw [← hC1, hZ]
        have h2 : (i + 1) * 2 = X.length + 2 := by omega
        show List.take _ _ ++ D ++ List.drop _ _ = _
        rw [h2, List.take_length_add_append, List.append_assoc, List.append_assoc, Nat.add_assoc, List.drop_length_add_append]
        congr 1
        rw [List.append_assoc]
        congr 1
        congr 1
        rw [Nat.add_comm 2 D.length, List.drop_length_add_append]
      have e2 : ((D ++ Z).take 2).length = 2 := by rw [List.length_take, List.length_append, hDl, hZl]; omega
      refine ⟨Z.drop 2, ?_⟩
      rw [← hC2, insE_flat, hX, hD]
      show List.take _ _ ++ _ ++ List.drop _ _ = _
      rw [e1, ← hXl, List.take_left, List.drop_length_add_append]
      rw [List.append_assoc ((D ++ Z).take 2) D, show [Value.string s, Value.int .i64 n].length = ((D ++ Z).take 2).length by rw [e2]; rfl, List.drop_left]
      simp
  have hOnl : Only (blk (.slice (some ⟨g, 0, none⟩) l.length cap)) w (W1.setRow g C2) := by
    have h1 : Only (fun j => j = g) w w.drew := ⟨rfl, rfl, rfl, Nat.le_refl _, fun _ _ _ => rfl⟩
    exact ((h1.trans hO1).trans (only_row W1 g C2)).mono fun k _ hk => by subst hk; rfl
  have HF : Hid ((W1.setRow g C2).ownsRow base 41 2 (.slice (some ⟨g, 0, none⟩) (l.length + 1) cap) (l.length + 1) ((insE l i s n).flatMap encN) ∧ Only (blk (.slice (some ⟨g, 0, none⟩) l.length cap)) w (W1.setRow g C2)) := ⟨hFin, hOnl⟩
  have HR1 : Hid (∀ ty, (Builtin.copy_ #[44, 44] ty #[.slice (some ⟨g, (i + 1) * 2, none⟩) (l.length + 1 - (i + 1)) (cap - (i + 1)), .slice (some ⟨g, i * 2, none⟩) (l.length + 1 - i) (cap - i)]).run Try.prog w.drew = .ok (goInt ((l.length - i : Nat) : Int)) W1) := hr1
  have HR2 : Hid (∀ ty, (Builtin.copy_ #[44, 25] ty #[.slice (some ⟨g, i * 2, none⟩) (l.length + 1 - i) (cap - i), .slice (some ⟨vb, 0, none⟩) 1 1]).run Try.prog W1 = .ok (goInt 1) (W1.setRow g C2)) := hr2
  have hq1 : ¬ (i : Int) = (l.length : Int) := by omega
  have hq2 : ¬ (cap : Int) < (l.length : Int) + 1 := by omega
  have hq3 : (i : Int) ≤ (l.length : Int) := by omega
  have hq4 : IntKind.i64.wrap ((i : Int) + 1) = (i : Int) + 1 := by rw [IntKind.wrap_i64]; omega
  have hq5 : IntKind.i64.wrap ((l.length : Int) + 1) = (l.length : Int) + 1 := by rw [IntKind.wrap_i64]; omega
  clear hFin hOnl hr1 hr2 hC2 hC1 hC1s hcl hV1 hO1 hVd hV hx1 hx hD hDl hD1 hX hXl hXD hZ hZl htake hcs hbg hcm hmin1 hmin2 hW1 hL1 hA hne
  go_enter Try.func46, Try.ntmps46
  go_upto_region 15 with (simp only [hov])
  refine wp_region_noPanic ?_
  refine wp_region_held_drew (S := fun _ => True) (by kernel_rfl) trivial (fun hT => ?_)
  clear hT
  refine held_take (i := 0) (v := .slice (some ⟨g, 0, none⟩) (l.length + 1) cap) rfl rfl (by kernel_rfl) (by kernel_rfl) (by kernel_rfl) (by kernel_rfl) (fun W hS => by go_simp) trivial ?_
  simp only [Act.put, List.setIfInBounds_toArray, List.set_cons_zero, List.set_cons_succ]
  refine held_take (i := 1) (v := .int .i64 (i : Nat)) rfl rfl (by kernel_rfl) (by kernel_rfl) (by kernel_rfl) (by kernel_rfl) (fun W hS => by go_simp) trivial ?_
  simp only [Act.put, List.setIfInBounds_toArray, List.set_cons_zero, List.set_cons_succ]
  refine held_take (i := 2) (v := .int .i64 1) rfl rfl (by kernel_rfl) (by kernel_rfl) (by kernel_rfl) (by kernel_rfl) (fun W hS => by go_simp) trivial ?_
  simp only [Act.put, List.setIfInBounds_toArray, List.set_cons_zero, List.set_cons_succ]
  refine held_take (i := 3) (v := .int .i64 ((i : Int) + 1)) rfl rfl (by kernel_rfl) (by kernel_rfl) (by kernel_rfl) (by kernel_rfl) (fun W hS => by go_simp) trivial ?_
  simp only [Act.put, List.setIfInBounds_toArray, List.set_cons_zero, List.set_cons_succ]
  refine held_take (i := 4) (v := .slice (some ⟨g, (i + 1) * 2, none⟩) (l.length + 1 - (i + 1)) (cap - (i + 1))) rfl rfl (by kernel_rfl) (by kernel_rfl) (by kernel_rfl) (by kernel_rfl) (fun W hS => by go_simp) trivial ?_
  simp only [Act.put, List.setIfInBounds_toArray, List.set_cons_zero, List.set_cons_succ]
  refine held_take (i := 5) (v := .slice (some ⟨g, 0, none⟩) (l.length + 1) cap) rfl rfl (by kernel_rfl) (by kernel_rfl) (by kernel_rfl) (by kernel_rfl) (fun W hS => by go_simp) trivial ?_
  simp only [Act.put, List.setIfInBounds_toArray, List.set_cons_zero, List.set_cons_succ]
  refine held_take (i := 6) (v := .int .i64 (i : Nat)) rfl rfl (by kernel_rfl) (by kernel_rfl) (by kernel_rfl) (by kernel_rfl) (fun W hS => by go_simp) trivial ?_
  simp only [Act.put, List.setIfInBounds_toArray, List.set_cons_zero, List.set_cons_succ]
  refine held_take (i := 7) (v := .slice (some ⟨g, i * 2, none⟩) (l.length + 1 - i) (cap - i)) rfl rfl (by kernel_rfl) (by kernel_rfl) (by kernel_rfl) (by kernel_rfl) (fun W hS => by go_simp) trivial ?_
  simp only [Act.put, List.setIfInBounds_toArray, List.set_cons_zero, List.set_cons_succ]
  refine wpAnyH_ready (rs := [8]) (by kernel_rfl) (by simp) (AllReadyH.cons rfl (fun K hK => ?_) AllReadyH.nil)
  refine step_copy_runI rfl (.tmp 73) (.tmp 76) 44 44 rfl (.slice (some ⟨g, (i + 1) * 2, none⟩) (l.length + 1 - (i + 1)) (cap - (i + 1))) (.slice (some ⟨g, i * 2, none⟩) (l.length + 1 - i) (cap - i)) (HR1.out _) (by simp [Act.eval]) (by simp [Act.eval]) ?_
  refine hK.out _ _ trivial (fun hT => ?_)
  clear hK K hT
  try simp only [Act.put, List.setIfInBounds_toArray]
  refine wpAnyH_done (by kernel_rfl) ?_ _
  simp only [NoPanic]
  have hr2 := HR2.out
  go_wp2
  go_ret
  exact ⟨_, rfl, HF.out.1, HF.out.2⟩

set_option maxRecDepth 20000 in
set_option maxHeartbeats 4000000 in
/-- Ahead of the end, without room: a new row. -/
theorem insGrow (base vb g cap : Nat) (cur : Array Value) (l : List EntD) (i : Nat) (s : ByteArray) (n : Int) (w : World) (hl : l.length ≤ 4194304) (hi : i < l.length) (hbase : base ≤ w.heap.size) (hV : Var w g cur 41) (hnc : l.length ≤ cap) (hroom : cap < l.length + 1) (_ : cur.size = cap * 2) (htake : cur.toList.take (l.length * 2) = l.flatMap encN) (hx : Var w vb #[.string s, .int .i64 n] 41) :
    Calls Try.prog 46 #[.slice (some ⟨g, 0, none⟩) l.length cap, .int .i64 (i : Nat), .slice (some ⟨vb, 0, none⟩) 1 1] w fun e w' => ∃ v', e = .returned v' ∧ w'.ownsRow base 41 2 v' (l.length + 1) ((insE l i s n).flatMap encN) ∧ Only (blk (.slice (some ⟨g, 0, none⟩) l.length cap)) w w' := by
  obtain ⟨i0, hi0, hz0, hz1, hz2⟩ := info_parts Try.infoEnt
  have hgl := hV.lt
  have hvl := hx.lt
  obtain ⟨D, hD⟩ : ∃ D, (l.drop i).flatMap encN = D := ⟨_, rfl⟩
  have hDl : D.length = (l.length - i) * 2 := by rw [← hD, flat_len_c encN_len, List.length_drop]
  have hD1 : ∀ u ∈ D, u.oneCell' = true := by rw [← hD]; exact oneEn _
  obtain ⟨X, hX⟩ : ∃ X, (l.take i).flatMap encN = X := ⟨_, rfl⟩
  have hXl : X.length = i * 2 := by rw [← hX, flat_len_c encN_len, List.length_take]; omega
  have hXt : cur.toList.take (i * 2) = X := by rw [← hX, ← flat_take, ← htake, List.take_take, Nat.min_eq_left (by omega)]
  have hold : (Builtin.firstCells i0.size i (.slice (some ⟨g, 0, none⟩) i cap)).run Try.prog w.drew = .ok X.toArray w.drew := by
    rw [hz1]
    exact run_firstCells_some w.drew 2 i ⟨g, 0, none⟩ i cap X hXl (fun j u hj => by
      rw [Go.WideShapes.add_plain, Nat.zero_add, Var.cell (w := w.drew) hV]
      rw [← hXt, List.getElem?_take] at hj
      split at hj
      · rw [← Array.getElem?_toList]; exact hj
      · cases hj)
  obtain ⟨G, hG⟩ : ∃ G, grownCap w (l.length + 1) cap 41 = G := ⟨_, rfl⟩
  have hGn : l.length + 1 ≤ G := by rw [← hG]; exact grownCap_ge w _ _ _
  have hGm : G ≤ maxLen := by rw [← hG]; exact grownCap_le_maxLen w (l.length + 1) cap 41 (by unfold maxLen; omega)
  have hGm2 : G ≤ 9223372036854775807 := by unfold maxLen at hGm; omega
  obtain ⟨E0, hE0⟩ : ∃ E, X.toArray ++ Builtin.zeroCells (Value.agg #[.string ⟨#[]⟩, .int .i64 0]).cells (l.length + 1 - i) ++ Builtin.zeroCells (Value.agg #[.string ⟨#[]⟩, .int .i64 0]).cells (G - (l.length + 1)) = E := ⟨_, rfl⟩
  have hE0s : E0.size = G * 2 := by
    rw [← hE0]
    simp only [Array.size_append, List.size_toArray, size_zeroCells, hXl, show (Value.agg #[Value.string ⟨#[]⟩, .int .i64 0]).cells.size = 2 from rfl]
    omega
  have hE0t : E0.toList.take (i * 2) = X := by
    rw [← hE0, ← hXl, Array.append_assoc, Array.toList_append]
    exact List.take_left
  have hra : ∀ ty, (Builtin.append_ #[44, 3] ty #[.slice (some ⟨g, 0, none⟩) i cap, .int .i64 ((l.length : Int) + 1 - (i : Int))]).run Try.prog w = .ok (.slice (some ⟨w.heap.size, 0, none⟩) (l.length + 1) G) (w.drew.alloc (.cells E0 41)) := fun ty => by
    have h := Lib.run_append_grow_zeros (P := Try.prog) w 44 3 ty 41 i0 _ .i64 .i64 Try.underlying44 Try.underlying3 hi0 hz0 (some ⟨g, 0, none⟩) i cap X hold (l.length + 1 - i) (by omega) (by omega) (by omega) (by omega) (by rw [hz2]; omega) (by rw [hz2, show i + (l.length + 1 - i) = l.length + 1 by omega]; exact growslice_fits hroom (by omega))
    rw [show i + (l.length + 1 - i) = l.length + 1 by omega, hG, hE0] at h
    rw [show (l.length : Int) + 1 - (i : Int) = ((l.length + 1 - i : Nat) : Int) by omega]
    exact h
  obtain ⟨W0, hW0⟩ : ∃ W, w.drew.alloc (.cells E0 41) = W := ⟨_, rfl⟩
  have hb0 : Below w.heap.size w W0 := by rw [← hW0]; exact (Below.refl _ _).drew.alloc (Nat.le_refl _) _
  have hV0 : Var W0 w.heap.size E0 41 := by rw [← hW0]; exact Var.made w.drew _ _
  rw [hW0] at hra
  have hg0 : Var W0 g cur 41 := hV.below hb0 hgl
  have hx0 : Var W0 vb #[.string s, .int .i64 n] 41 := hx.below hb0 hvl
  -- the entry
  obtain ⟨E1, hE1⟩ : ∃ C, (E0.toList.take (i * 2) ++ [Value.string s, .int .i64 n] ++ E0.toList.drop (i * 2 + [Value.string s, .int .i64 n].length)).toArray = C := ⟨_, rfl⟩
  have hmin2 : Nat.min 1 (l.length + 1 - i) = 1 := by simp only [Nat.min_def]; split <;> omega
  have hr2 : ∀ ty, (Builtin.copy_ #[44, 25] ty #[.slice (some ⟨w.heap.size, i * 2, none⟩) (l.length + 1 - i) (G - i), .slice (some ⟨vb, 0, none⟩) 1 1]).run Try.prog W0 = .ok (goInt 1) (W0.setRow w.heap.size E1) := fun ty => by
    have h := run_copyV (P := Try.prog) W0 44 25 ty 41 41 2 w.heap.size (i * 2) (l.length + 1 - i) (G - i) ⟨vb, 0, none⟩ 1 1 E0 [Value.string s, .int .i64 n] Try.underlying44 Try.size41 hV0 (by rw [hmin2]; rfl) (fun j u hj => by rw [Go.WideShapes.add_plain, Nat.zero_add, hx0.cell j, ← hj]; simp) (by rw [hE0s]; simp; omega) (fun u hu => by simp at hu; rcases hu with rfl | rfl <;> rfl)
    rw [hmin2, hE1] at h
    exact h
  have hV1 := hV0.row E1
  have hg1 : Var (W0.setRow w.heap.size E1) g cur 41 := hg0.otherRow (by omega) E1
  have hO1 := only_row W0 w.heap.size E1
  obtain ⟨W1, hW1⟩ : ∃ W, W0.setRow w.heap.size E1 = W := ⟨_, rfl⟩
  rw [hW1] at hr2 hV1 hO1 hg1
  have hE1s : E1.size = G * 2 := by
    rw [← hE1]
    simp only [List.size_toArray, List.length_append, List.length_take, List.length_drop, Array.length_toList, hE0s, List.length_cons, List.length_nil]
    omega
  -- what stood from its place on
  obtain ⟨E2, hE2⟩ : ∃ C, (E1.toList.take ((i + 1) * 2) ++ D ++ E1.toList.drop ((i + 1) * 2 + D.length)).toArray = C := ⟨_, rfl⟩
  have hmin1 : Nat.min (l.length - i) (l.length + 1 - (i + 1)) = l.length - i := by simp only [Nat.min_def]; split <;> omega
  have hr3 : ∀ ty, (Builtin.copy_ #[44, 44] ty #[.slice (some ⟨w.heap.size, (i + 1) * 2, none⟩) (l.length + 1 - (i + 1)) (G - (i + 1)), .slice (some ⟨g, i * 2, none⟩) (l.length - i) (cap - i)]).run Try.prog W1.drew = .ok (goInt ((l.length - i : Nat) : Int)) (W1.drew.setRow w.heap.size E2) := fun ty => by
    have h := run_copyV (P := Try.prog) W1.drew 44 44 ty 41 41 2 w.heap.size ((i + 1) * 2) (l.length + 1 - (i + 1)) (G - (i + 1)) ⟨g, i * 2, none⟩ (l.length - i) (cap - i) E1 D Try.underlying44 Try.size41 hV1 (by rw [hmin1, hDl]) (fun j u hj => by rw [← hD] at hj; exact cellsFrom (w := W1.drew) hg1 htake i j u hj) (by rw [hDl, hE1s]; omega) hD1
    rw [hmin1, hE2] at h
    exact h
  have hFin : (W1.drew.setRow w.heap.size E2).ownsRow base 41 2 (.slice (some ⟨w.heap.size, 0, none⟩) (l.length + 1) G) (l.length + 1) ((insE l i s n).flatMap encN) := by
    refine ins_done (by omega) (Var.row (w := W1.drew) hV1 E2) hbase hGn hGm ?_ ?_
    · rw [← hE2]
      simp only [List.size_toArray, List.length_append, List.length_take, List.length_drop, Array.length_toList, hE1s, hDl]
      omega
    · have e1 : E1.toList.take ((i + 1) * 2) = X ++ [Value.string s, .int .i64 n] := by
        rw [← hE1, hE0t]
        have e : (i + 1) * 2 = (X ++ [Value.string s, .int .i64 n]).length := by rw [List.length_append, hXl]; simp; omega
        rw [e]
        exact List.take_left
      refine ⟨E1.toList.drop ((i + 1) * 2 + D.length), ?_⟩
      rw [← hE2, insE_flat, hX, hD, e1]
  have hOnl : Only (blk (.slice (some ⟨g, 0, none⟩) l.length cap)) w (W1.drew.setRow w.heap.size E2) := by
    have h1 : Only (fun j => j = w.heap.size) W1 W1.drew := ⟨rfl, rfl, rfl, Nat.le_refl _, fun _ _ _ => rfl⟩
    have h2 : Only (fun j => w.heap.size ≤ j) w (W1.drew.setRow w.heap.size E2) := (Only.of_below hb0).trans (((hO1.trans h1).trans (only_row W1.drew w.heap.size E2)).mono fun k _ hk => by subst hk; exact Nat.le_refl _)
    exact h2.mono fun k hk h => by omega
  have HF : Hid ((W1.drew.setRow w.heap.size E2).ownsRow base 41 2 (.slice (some ⟨w.heap.size, 0, none⟩) (l.length + 1) G) (l.length + 1) ((insE l i s n).flatMap encN) ∧ Only (blk (.slice (some ⟨g, 0, none⟩) l.length cap)) w (W1.drew.setRow w.heap.size E2)) := ⟨hFin, hOnl⟩
  have HRA : Hid (∀ ty, (Builtin.append_ #[44, 3] ty #[.slice (some ⟨g, 0, none⟩) i cap, .int .i64 ((l.length : Int) + 1 - (i : Int))]).run Try.prog w = .ok (.slice (some ⟨w.heap.size, 0, none⟩) (l.length + 1) G) W0) := hra
  have HR3 : Hid (∀ ty, (Builtin.copy_ #[44, 44] ty #[.slice (some ⟨w.heap.size, (i + 1) * 2, none⟩) (l.length + 1 - (i + 1)) (G - (i + 1)), .slice (some ⟨g, i * 2, none⟩) (l.length - i) (cap - i)]).run Try.prog W1.drew = .ok (goInt ((l.length - i : Nat) : Int)) (W1.drew.setRow w.heap.size E2)) := hr3
  have hA := cutHiR (some ⟨g, 0, none⟩) cap l.length i (by omega)
  have hL0 := cutLoR w.heap.size G (l.length + 1) i (by omega) (by omega)
  have hL1 := cutLoR w.heap.size G (l.length + 1) (i + 1) (by omega) (by omega)
  have hL1b : ∀ W : World, (Instr.slice 44 (.slice (some ⟨w.heap.size, 0, none⟩) (l.length + 1) G) (some (.int .i64 ((i : Int) + 1))) none none).run Try.prog W = .ok (.slice (some ⟨w.heap.size, (i + 1) * 2, none⟩) (l.length + 1 - (i + 1)) (G - (i + 1))) W := hL1
  have hLs := cutLoR g cap l.length i (by omega) (by omega)
  have hq1 : ¬ (i : Int) = (l.length : Int) := by omega
  have hq2 : (cap : Int) < (l.length : Int) + 1 := by omega
  have hq3 : (i : Int) ≤ (l.length : Int) := by omega
  have hq4 : IntKind.i64.wrap ((i : Int) + 1) = (i : Int) + 1 := by rw [IntKind.wrap_i64]; omega
  have hq5 : IntKind.i64.wrap ((l.length : Int) + 1) = (l.length : Int) + 1 := by rw [IntKind.wrap_i64]; omega
  have hr2b := hr2
  clear hFin hOnl hra hr2 hr3 hE2 hE1 hE1s hE0 hE0s hE0t hV1 hO1 hV0 hg0 hx0 hg1 hV hx hD hDl hD1 hX hXl hXt hold htake hmin1 hmin2 hW1 hW0 hL1 hG hGm hb0 hi0 hz0 hz1 hz2 hgl hvl
  go_enter Try.func46, Try.ntmps46
  go_wp2_with (at_builtin; refine Lib.wpList_append_run _ rfl (.tmp 34) (.tmp 39) 44 3 rfl _ _ rfl rfl _ _ (HRA.out _) ?_)
  go_upto_region 11 with fail
  refine wp_region_noPanic ?_
  refine wp_region_held_drew (S := fun _ => True) (by kernel_rfl) trivial (fun hT => ?_)
  clear hT
  refine held_take (i := 0) (v := .slice (some ⟨w.heap.size, 0, none⟩) (l.length + 1) G) rfl rfl (by kernel_rfl) (by kernel_rfl) (by kernel_rfl) (by kernel_rfl) (fun W hS => by go_simp) trivial ?_
  simp only [Act.put, List.setIfInBounds_toArray, List.set_cons_zero, List.set_cons_succ]
  refine held_take (i := 1) (v := .int .i64 (i : Nat)) rfl rfl (by kernel_rfl) (by kernel_rfl) (by kernel_rfl) (by kernel_rfl) (fun W hS => by go_simp) trivial ?_
  simp only [Act.put, List.setIfInBounds_toArray, List.set_cons_zero, List.set_cons_succ]
  refine held_take (i := 2) (v := .int .i64 1) rfl rfl (by kernel_rfl) (by kernel_rfl) (by kernel_rfl) (by kernel_rfl) (fun W hS => by go_simp) trivial ?_
  simp only [Act.put, List.setIfInBounds_toArray, List.set_cons_zero, List.set_cons_succ]
  refine held_take (i := 3) (v := .int .i64 ((i : Int) + 1)) rfl rfl (by kernel_rfl) (by kernel_rfl) (by kernel_rfl) (by kernel_rfl) (fun W hS => by go_simp) trivial ?_
  simp only [Act.put, List.setIfInBounds_toArray, List.set_cons_zero, List.set_cons_succ]
  refine held_take (i := 4) (v := .slice (some ⟨w.heap.size, (i + 1) * 2, none⟩) (l.length + 1 - (i + 1)) (G - (i + 1))) rfl rfl (by kernel_rfl) (by kernel_rfl) (by kernel_rfl) (by kernel_rfl) (fun W hS => by go_simp) trivial ?_
  simp only [Act.put, List.setIfInBounds_toArray, List.set_cons_zero, List.set_cons_succ]
  refine held_take (i := 5) (v := .slice (some ⟨g, 0, none⟩) l.length cap) rfl rfl (by kernel_rfl) (by kernel_rfl) (by kernel_rfl) (by kernel_rfl) (fun W hS => by go_simp) trivial ?_
  simp only [Act.put, List.setIfInBounds_toArray, List.set_cons_zero, List.set_cons_succ]
  refine held_take (i := 6) (v := .int .i64 (i : Nat)) rfl rfl (by kernel_rfl) (by kernel_rfl) (by kernel_rfl) (by kernel_rfl) (fun W hS => by go_simp) trivial ?_
  simp only [Act.put, List.setIfInBounds_toArray, List.set_cons_zero, List.set_cons_succ]
  refine held_take (i := 7) (v := .slice (some ⟨g, i * 2, none⟩) (l.length - i) (cap - i)) rfl rfl (by kernel_rfl) (by kernel_rfl) (by kernel_rfl) (by kernel_rfl) (fun W hS => by go_simp) trivial ?_
  simp only [Act.put, List.setIfInBounds_toArray, List.set_cons_zero, List.set_cons_succ]
  refine wpAnyH_ready (rs := [8]) (by kernel_rfl) (by simp) (AllReadyH.cons rfl (fun K hK => ?_) AllReadyH.nil)
  refine step_copy_runI rfl (.tmp 50) (.tmp 53) 44 44 rfl (.slice (some ⟨w.heap.size, (i + 1) * 2, none⟩) (l.length + 1 - (i + 1)) (G - (i + 1))) (.slice (some ⟨g, i * 2, none⟩) (l.length - i) (cap - i)) (HR3.out _) (by simp [Act.eval]) (by simp [Act.eval]) ?_
  refine hK.out _ _ trivial (fun hT => ?_)
  clear hK K hT
  try simp only [Act.put, List.setIfInBounds_toArray]
  refine wpAnyH_done (by kernel_rfl) ?_ _
  simp only [NoPanic]
  go_wp2
  go_ret
  exact ⟨_, rfl, HF.out.1, HF.out.2⟩

/-- One entry put into a row of the call's own. -/
theorem insEn (base vb i : Nat) (v : Value) (l : List EntD) (s : ByteArray) (n : Int) (w : World) (hl : l.length ≤ 4194304) (hi : i ≤ l.length) (hbase : base ≤ w.heap.size) (ho : w.ownsRow base 41 2 v l.length (l.flatMap encN)) (hx : Var w vb #[.string s, .int .i64 n] 41) (hne : ¬ blk v vb) :
    Calls Try.prog 46 #[v, .int .i64 (i : Nat), .slice (some ⟨vb, 0, none⟩) 1 1] w fun e w' => ∃ v', e = .returned v' ∧ w'.ownsRow base 41 2 v' (l.length + 1) ((insE l i s n).flatMap encN) ∧ Only (blk v) w w' := by
  by_cases he : i = l.length
  · subst he
    exact insEnd base vb v l s n w hl hbase ho hx
  · rcases ho.2 with ⟨rfl, h0⟩ | ⟨g, cap, cur, rfl, hbg, hg, hnc, hcm, hcs, htake⟩
    · omega
    · by_cases hroom : l.length + 1 ≤ cap
      · exact insShift base vb g cap cur l i s n w hl (by omega) hbg hg hroom hcm hcs htake hx (fun h => hne (by subst h; rfl))
      · exact insGrow base vb g cap cur l i s n w hl (by omega) hbase hg hnc (by omega) hcs htake hx
end Go.Proofs.Ytogpgocldgdeaaa
