/-
  Own text: while the program lays what a node holds anew: what is known between two steps; a row of numbers behind its first one.
-/
import Derived.Test.YtbameedfnicnhaaMuF
import Derived.Test.YtbameedfnicnhaaIdxW
import Derived.Test.YtbameedfnicnhaaCloneW
import Derived.Test.YtbameedfnicnhaaAppAt
namespace Go.Proofs.Ytbameedfnicnhaa
open Go.RowKit

/-- The blocks of one node are another row from now on, that was made out of the one that was there. -/
theorem OwnL.put {w w' : World} {lo hi hh : Nat} {g c : Nat} {M : List NodeU} (h : OwnL w lo hi (.slice (some ⟨g, 0, none⟩) M.length c) M) {i : Nat} (hi' : i < M.length) (b : List Int) (u : Value)
    (hg : w.grownBy w' M[i].2.ownBlock) (hu : w'.ownsRow lo 3 1 u b.length (b.map (Value.int .i64))) (hap : ∀ q (hq : q < M.length), q ≠ i → ∀ j, blk M[q].2 j → ¬ blk u j) (hlow : ∀ j, blk u j → j < hh) (hle : hi ≤ hh) :
    OwnL (w'.setCell ⟨g, i * 5 + 4, none⟩ u) lo hh (.slice (some ⟨g, 0, none⟩) M.length c) (M.set i (⟨M[i].1.k, M[i].1.g, M[i].1.t, M[i].1.s, b⟩, u)) := by
  have hG := Only.of_grown hg
  have hrow := own_only h.row hG (fun k hk e => own_apart h.row (h.inn _ (List.getElem_mem hi')) (by decide) k hk e)
  have hinn : ∀ q (hq : q < M.length), q ≠ i → w'.ownsRow lo 3 1 M[q].2 M[q].1.b.length (M[q].1.b.map (Value.int .i64)) := fun q hq hne => own_only (h.inn _ (List.getElem_mem hq)) hG (fun k hk e => by
    have hp := List.pairwise_iff_getElem.1 h.apart
    rcases Nat.lt_or_gt_of_ne hne with h1 | h1
    · exact hp q i hq hi' h1 k hk e
    · exact hp i q hi' hq h1 k e hk)
  have hst := (hrow.stored (i * 5 + 4) u).1
  rw [flat_set encU_len M i hi' 4 ((⟨M[i].1.k, M[i].1.g, M[i].1.t, M[i].1.s, b⟩ : NodeD), u) u (by omega) rfl] at hst
  have hO : Only (fun k => k = g) w' (w'.setCell ⟨g, i * 5 + 4, none⟩ u) := Only.setCell (S := fun k => k = g) (Only.refl _ _) (p := ⟨g, i * 5 + 4, none⟩) rfl u
  refine ⟨by rw [List.length_set]; exact hst, ?_, ?_, fun j hj => Nat.lt_of_lt_of_le (h.top j hj) hle, ?_⟩
  · intro x hx'
    obtain ⟨q, hq, rfl⟩ := List.getElem_of_mem hx'
    have hq' : q < M.length := by simpa using hq
    rw [List.getElem_set]
    split
    · exact own_only hu hO (fun k hk e => own_apart hu hrow (by decide) k hk (by rw [e]; rfl))
    · rename_i hne
      exact own_only (hinn q hq' (by omega)) hO (fun k hk e => own_apart (hinn q hq' (by omega)) hrow (by decide) k hk (by rw [e]; rfl))
  · rw [List.pairwise_iff_getElem]
    intro p q hp hq hpq j h1 h2
    have hp' : p < M.length := by simpa using hp
    have hq' : q < M.length := by simpa using hq
    rw [List.getElem_set] at h1 h2
    split at h1
    · rename_i e1
      split at h2
      · omega
      · exact hap q hq' (by omega) j h2 h1
    · split at h2
      · exact hap p hp' (by omega) j h1 h2
      · exact List.pairwise_iff_getElem.1 h.apart p q hp' hq' hpq j h1 h2
  · intro x hx' k hk
    rcases List.mem_or_eq_of_mem_set hx' with hm | rfl
    · exact Nat.lt_of_lt_of_le (h.low x hm k hk) hle
    · exact hlow k hk

theorem Try.infoIntH : (Try.prog.info? 3).map (fun i => (i.zero, i.size, i.bytes)) = some (some (.int .i64 0), 1, 8) := by kernel_rfl
/-- A row of numbers, cut from its second one on. -/
theorem cutI1 (g off cr L : Nat) (hL : 1 ≤ L) (hc : L ≤ cr) : ∃ o c', (∀ W : World, (Instr.slice 37 (.slice (some ⟨g, off, none⟩) L cr) (some (.int .i64 1)) none none).run Try.prog W = .ok (.slice (some ⟨g, o, none⟩) (L - 1) c') W) ∧ (L - 1 = 0 ∨ o = off + 1) ∧ L - 1 ≤ c' := by
  have hs : ∀ W : World, (sizeOf 3).run Try.prog W = .ok 1 W := fun W => by
    obtain ⟨i, hi, hz0, hz1, hz2⟩ := info_parts Try.infoIntH
    simp [sizeOf, typeInfo, hi, hz1]
  have hsz : ∀ W : World, (sizeOf (Try.prog.elem 37)).run Try.prog W = .ok 1 W := fun W => by
    have he : Try.prog.elem 37 = 3 := by kernel_rfl
    rw [he]
    exact hs W
  have hel : Try.prog.underlying 37 = some (.slice (Try.prog.elem 37)) := by kernel_rfl
  by_cases h : cr = 1
  · refine ⟨off, 0, fun W => ?_, .inl (by omega), by omega⟩
    have e := run_slice_l W 37 (some ⟨g, off, none⟩) L cr hel .i64 1 (by omega) (by omega)
    rw [e, hsz]
    subst h
    simp [sliced]
  · refine ⟨off + 1, cr - 1, fun W => ?_, .inr rfl, by omega⟩
    have e := run_slice_l W 37 (some ⟨g, off, none⟩) L cr hel .i64 1 (by omega) (by omega)
    rw [e, hsz]
    simp [sliced, h, Addr.add]
theorem rdI_cut1 {w : World} {g off o : Nat} {x : Int} {l : List Int} (h : Rd .i64 w (some ⟨g, off, none⟩) (x :: l)) (ho : l.length = 0 ∨ o = off + 1) : Rd .i64 w (some ⟨g, o, none⟩) l := by
  rcases ho with ho | rfl
  · exact .inl (List.eq_nil_of_length_eq_zero ho)
  · rcases h with h | ⟨b, f, he, hb, hc⟩
    · cases h
    · cases he
      refine .inr ⟨g, off + 1, rfl, hb, fun i hi => ?_⟩
      have := hc (i + 1) (by simp; omega)
      rw [show off + 1 + i = off + (i + 1) by omega, this]
      simp [List.getD]

/-- What is known between two steps of 'hold', of a branch in the variable P whose node i is laid anew. -/
structure HoInv (w W : World) (lo P g gd N D ca cb i : Nat) (M : List NodeU) (y : NodeD) (u : Value) (ds : List ByteArray) : Prop where
  mu : MuF W lo P g gd N D ca cb (M.set i (y, u)) ds
  own : W.ownsRow w.heap.size 3 1 u y.b.length (y.b.map (Value.int .i64))
  only : Only (fun q => q = g ∨ q = gd ∨ w.heap.size ≤ q) w W
section
variable {w W : World} {lo P g gd N D ca cb i : Nat} {M : List NodeU} {y : NodeD} {u : Value} {ds : List ByteArray}
theorem HoInv.new {W' : World} (h : HoInv w W lo P g gd N D ca cb i M y u ds) (hb : Below W.heap.size W W') : HoInv w W' lo P g gd N D ca cb i M y u ds :=
  ⟨h.mu.new hb, ownsRow_below h.own hb (Nat.le_refl _), h.only.trans (Only.of_new hb)⟩
theorem HoInv.drew (h : HoInv w W lo P g gd N D ca cb i M y u ds) : HoInv w W.drew lo P g gd N D ca cb i M y u ds := h.new ((Below.refl _ _).drew)
theorem HoInv.text (h : HoInv w W lo P g gd N D ca cb i M y u ds) (k : Nat) (p : ByteArray) : HoInv w (W.setCell ⟨gd, k, none⟩ (.string p)) lo P g gd N D ca cb i M y u (ds.set k p) := by
  have hO : Only (fun q => q = gd) W (W.setCell ⟨gd, k, none⟩ (.string p)) := Only.setCell (S := fun q => q = gd) (Only.refl _ _) (p := ⟨gd, k, none⟩) rfl _
  exact ⟨h.mu.text k p, own_only h.own hO (fun q hq e => own_apart h.own h.mu.txt (by decide) q hq (by rw [e]; rfl)), h.only.trans (hO.mono fun q _ e => .inr (.inl e))⟩
/-- A number is put behind the node's blocks. -/
theorem HoInv.app {W' : World} {u' : Value} {x : Int} (h : HoInv w W lo P g gd N D ca cb i M y u ds) (hi : i < M.length) (hlow : ∀ z ∈ M, ∀ j, blk z.2 j → j < w.heap.size) (hlo : lo ≤ w.heap.size)
    (ho : W'.ownsRow w.heap.size 3 1 u' (y.b.length + 1) (y.b.map (Value.int .i64) ++ [.int .i64 x])) (hg : W.grownBy W' u.ownBlock) :
    HoInv w (W'.setCell ⟨g, i * 5 + 4, none⟩ u') lo P g gd N D ca cb i M ⟨y.k, y.g, y.t, y.s, y.b ++ [x]⟩ u' ds := by
  have hl : i < (M.set i (y, u)).length := by simpa using hi
  have e : (M.set i (y, u))[i] = (y, u) := List.getElem_set_self _
  have hG := Only.of_grown hg
  have ho' : W'.ownsRow w.heap.size 3 1 u' (y.b ++ [x]).length ((y.b ++ [x]).map (Value.int .i64)) := by rw [List.length_append, List.map_append]; exact ho
  have hO : Only (fun k => k = g) W' (W'.setCell ⟨g, i * 5 + 4, none⟩ u') := Only.setCell (S := fun k => k = g) (Only.refl _ _) (p := ⟨g, i * 5 + 4, none⟩) rfl u'
  have hn := h.mu.nod
  rw [← h.mu.ln] at hn
  have hn2 := hn.put (w' := W') (hh := W'.heap.size) hl (y.b ++ [x]) u' (by rw [e]; exact hg) (ownsRow_base ho' hlo) (fun q hq hne j h1 h2 => by
    have hq' : q < M.length := by simpa using hq
    rw [List.getElem_set_ne (by omega)] at h1
    have h3 := hlow _ (List.getElem_mem hq') j h1
    have h4 := (ho'.lt j h2).1
    omega) (fun j hj => (ho'.lt j hj).2) hg.size
  rw [h.mu.ln, e, List.set_set] at hn2
  have hug : ∀ k, u.ownBlock = some k → k ≠ g := fun k hk e2 => own_apart h.own h.mu.nod.row (by decide) k hk (by rw [e2]; rfl)
  have hgW : W'.ownsRow lo 39 5 (.slice (some ⟨g, 0, none⟩) N ca) _ _ := own_only h.mu.nod.row hG (fun k hk e2 => hug k e2 (by cases hk; rfl))
  have htW := own_only h.mu.txt hG (fun k hk e2 => own_apart h.own h.mu.txt (by decide) k e2 hk)
  have hvW := h.mu.var.only hG (fun e2 => own_ne_var h.own h.mu.var (by decide) P e2 rfl)
  refine ⟨⟨hvW.only hO (fun e2 => own_ne_var hgW hvW (by decide) g rfl e2.symm), hn2.hi hO.size, own_only htW hO (fun k hk e2 => own_apart htW hgW (by decide) k hk (by rw [e2]; rfl)), by rw [List.length_set]; have := h.mu.ln; rw [List.length_set] at this; exact this, h.mu.ld⟩, own_only ho' hO (fun k hk e2 => own_apart ho' hgW (by decide) k hk (by rw [e2]; rfl)), ?_⟩
  refine (h.only.trans (hG.mono fun q _ hq => .inr (.inr ?_))).trans (hO.mono fun q _ e2 => .inl e2)
  exact (h.own.lt q hq).1
/-- The start: the size is written, and that there is no block. -/
theorem HoInv.start {n : Nat} (h : MuF w lo P g gd N D ca cb M ds) (hi : i < M.length) :
    HoInv w ((w.setCell ⟨g, i * 5 + 3, none⟩ (.int .i64 (n : Nat))).setCell ⟨g, i * 5 + 4, none⟩ (.slice none 0 0)) lo P g gd N D ca cb i M ⟨M[i].1.k, M[i].1.g, M[i].1.t, (n : Nat), []⟩ (.slice none 0 0) ds := by
  have h1 := h.num hi 3 (by omega) ⟨M[i].1.k, M[i].1.g, M[i].1.t, (n : Nat), M[i].1.b⟩ (.int .i64 (n : Nat)) rfl rfl
  have hl : i < (M.set i ((⟨M[i].1.k, M[i].1.g, M[i].1.t, (n : Nat), M[i].1.b⟩ : NodeD), M[i].2)).length := by simpa using hi
  have h2 := h1.blocks hl [] (.slice none 0 0) (World.ownsRow_nil _ _ _ _) (fun _ _ _ _ _ e => by cases e)
  rw [List.getElem_set_self, List.set_set] at h2
  refine ⟨h2, World.ownsRow_nil _ _ _ _, ?_⟩
  exact ((Only.setCell (S := fun q => q = g ∨ q = gd ∨ w.heap.size ≤ q) (Only.refl _ _) (p := ⟨g, i * 5 + 3, none⟩) (.inl rfl) _).setCell (p := ⟨g, i * 5 + 4, none⟩) (.inl rfl) _)
end
end Go.Proofs.Ytbameedfnicnhaa
