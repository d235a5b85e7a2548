/-
  Own text: a branch in a variable, its rows of the call's own: texts and nodes are stored anew.
-/
import Derived.Test.YtbameedfnicnhaaFsM
import Derived.Test.YtbameedfnicnhaaGrowFs
namespace Go.Proofs.Ytbameedfnicnhaa
open Go.RowKit

/-- The blocks of one node are another row from now on. -/
theorem OwnL.setB {w : World} {lo hi : Nat} {g c : Nat} {M : List NodeU} (h : OwnL w lo hi (.slice (some ⟨g, 0, none⟩) M.length c) M) {i : Nat} (hi' : i < M.length) (b : List Int) (u : Value)
    (hu : w.ownsRow lo 3 1 u b.length (b.map (Value.int .i64))) (hap : ∀ q (hq : q < M.length), q ≠ i → ∀ j, blk M[q].2 j → ¬ blk u j) (hlow : ∀ j, blk u j → j < hi) :
    OwnL (w.setCell ⟨g, i * 5 + 4, none⟩ u) lo hi (.slice (some ⟨g, 0, none⟩) M.length c) (M.set i (⟨M[i].1.k, M[i].1.g, M[i].1.t, M[i].1.s, b⟩, u)) := by
  have hst := (h.row.stored (i * 5 + 4) u).1
  rw [flat_set encU_len M i hi' 4 ((⟨M[i].1.k, M[i].1.g, M[i].1.t, M[i].1.s, b⟩ : NodeD), u) u (by omega) rfl] at hst
  have hO : Only (fun k => k = g) w (w.setCell ⟨g, i * 5 + 4, none⟩ u) := Only.setCell (S := fun k => k = g) (Only.refl _ _) (p := ⟨g, i * 5 + 4, none⟩) rfl u
  have hx : ∀ x ∈ M, ∀ k, blk x.2 k → ¬ k = g := fun x hx k hk e => own_apart (h.inn x hx) h.row (by decide) k hk (by rw [e]; rfl)
  have hux : ∀ k, blk u k → ¬ k = g := fun k hk e => own_apart hu h.row (by decide) k hk (by rw [e]; rfl)
  refine ⟨by rw [List.length_set]; exact hst, ?_, ?_, h.top, ?_⟩
  · intro x hx'
    rcases List.mem_or_eq_of_mem_set hx' with hm | rfl
    · exact own_only (h.inn x hm) hO (fun k hk => hx x hm k hk)
    · exact own_only hu hO (fun k hk => hux k hk)
  · rw [List.pairwise_iff_getElem]
    intro p q hp hq hpq j h1 h2
    have hp' : p < M.length := by simpa using hp
    have hq' : q < M.length := by simpa using hq
    rw [List.getElem_set] at h1 h2
    split at h1
    · rename_i e1
      split at h2
      · omega
      · exact hap q hq' (by omega) j h2 h1
    · split at h2
      · exact hap p hp' (by omega) j h1 h2
      · exact List.pairwise_iff_getElem.1 h.apart p q hp' hq' hpq j h1 h2
  · intro x hx' k hk
    rcases List.mem_or_eq_of_mem_set hx' with hm | rfl
    · exact h.low x hm k hk
    · exact hlow k hk

structure MuF (W : World) (lo Q g gd N D ca cb : Nat) (M : List NodeU) (ds : List ByteArray) : Prop where
  var : Var W Q #[.slice (some ⟨g, 0, none⟩) N ca, .slice (some ⟨gd, 0, none⟩) D cb] 27
  nod : OwnL W lo W.heap.size (.slice (some ⟨g, 0, none⟩) N ca) M
  txt : W.ownsRow lo 9 1 (.slice (some ⟨gd, 0, none⟩) D cb) D (ds.map Value.string)
  ln : M.length = N
  ld : ds.length = D

section
variable {W : World} {lo Q g gd N D ca cb : Nat} {M : List NodeU} {ds : List ByteArray}
theorem MuF.new {W' : World} (h : MuF W lo Q g gd N D ca cb M ds) (hb : Below W.heap.size W W') : MuF W' lo Q g gd N D ca cb M ds :=
  ⟨h.var.new hb, (h.nod.below hb).hi hb.size, ownsRow_below h.txt hb (Nat.le_refl _), h.ln, h.ld⟩
theorem MuF.only {W' : World} {S : Nat → Prop} (h : MuF W lo Q g gd N D ca cb M ds) (ho : Only S W W') (hQ : ¬ S Q) (hn : ∀ k, blkL (.slice (some ⟨g, 0, none⟩) N ca) M k → ¬ S k) (ht : ¬ S gd) : MuF W' lo Q g gd N D ca cb M ds :=
  ⟨h.var.only ho hQ, (h.nod.keep ho hn).hi ho.size, own_only h.txt ho (fun k hk => by cases hk; exact ht), h.ln, h.ld⟩
theorem MuF.in_g (h : MuF W lo Q g gd N D ca cb M ds) : lo ≤ g ∧ g < W.heap.size := h.nod.row.lt g rfl
theorem MuF.in_gd (h : MuF W lo Q g gd N D ca cb M ds) : lo ≤ gd ∧ gd < W.heap.size := h.txt.lt gd rfl
theorem MuF.ne_g (h : MuF W lo Q g gd N D ca cb M ds) : g ≠ Q := own_ne_var h.nod.row h.var (by decide) g rfl
theorem MuF.ne_gd (h : MuF W lo Q g gd N D ca cb M ds) : gd ≠ Q := own_ne_var h.txt h.var (by decide) gd rfl
theorem MuF.g_gd (h : MuF W lo Q g gd N D ca cb M ds) : gd ≠ g := fun e => own_apart h.txt h.nod.row (by decide) gd rfl (by rw [e]; rfl)
theorem MuF.lowset (h : MuF W lo Q g gd N D ca cb M ds) {P : Nat} (hP : P < lo) (hne : P ≠ Q) (j : Nat) (u : Value) : MuF (W.setCell ⟨P, j, none⟩ u) lo Q g gd N D ca cb M ds := by
  have hO : Only (fun k => k = P) W (W.setCell ⟨P, j, none⟩ u) := Only.setCell (S := fun k => k = P) (Only.refl _ _) (p := ⟨P, j, none⟩) rfl _
  have := h.in_gd
  exact h.only hO (fun e => hne e.symm) (fun k hk e => by have := (h.nod.blkL_in hk).1; omega) (by omega)
/-- A text is stored anew. -/
theorem MuF.text (h : MuF W lo Q g gd N D ca cb M ds) (k : Nat) (p : ByteArray) : MuF (W.setCell ⟨gd, k, none⟩ (.string p)) lo Q g gd N D ca cb M (ds.set k p) := by
  have hO : Only (fun q => q = gd) W (W.setCell ⟨gd, k, none⟩ (.string p)) := Only.setCell (S := fun q => q = gd) (Only.refl _ _) (p := ⟨gd, k, none⟩) rfl _
  have hst := (h.txt.stored k (.string p)).1
  refine ⟨h.var.only hO (fun e => h.ne_gd e.symm), (h.nod.keep hO (fun q hq e => ?_)).hi hO.size, ?_, h.ln, by rw [List.length_set]; exact h.ld⟩
  · exact h.nod.apart_txt h.txt q (by rw [e]; rfl) hq
  · rw [List.map_set]; exact hst
theorem MuF.only_g (h : MuF W lo Q g gd N D ca cb M ds) {W' : World} (hO : Only (fun q => q = g) W W') {M' : List NodeU} (hn : OwnL W' lo W'.heap.size (.slice (some ⟨g, 0, none⟩) N ca) M') (hl : M'.length = N) : MuF W' lo Q g gd N D ca cb M' ds :=
  ⟨h.var.only hO (fun e => h.ne_g e.symm), hn, own_only h.txt hO (fun k hk e => by cases hk; exact h.g_gd e), hl, h.ld⟩
/-- One number of a node is stored anew. -/
theorem MuF.num (h : MuF W lo Q g gd N D ca cb M ds) {i : Nat} (hi : i < M.length) (j : Nat) (hj : j < 4) (y : NodeD) (u : Value) (hb : y.b = M[i].1.b) (he : encU (y, M[i].2) = (encU M[i]).set j u) : MuF (W.setCell ⟨g, i * 5 + j, none⟩ u) lo Q g gd N D ca cb (M.set i (y, M[i].2)) ds := by
  have hO : Only (fun q => q = g) W (W.setCell ⟨g, i * 5 + j, none⟩ u) := Only.setCell (S := fun q => q = g) (Only.refl _ _) (p := ⟨g, i * 5 + j, none⟩) rfl _
  have hn := h.nod
  rw [← h.ln] at hn
  have hn2 := hn.set hi j hj y u hb he
  rw [h.ln] at hn2
  exact h.only_g hO (hn2.hi hO.size) (by rw [List.length_set]; exact h.ln)
/-- The blocks of a node are another row from now on. -/
theorem MuF.blocks (h : MuF W lo Q g gd N D ca cb M ds) {i : Nat} (hi : i < M.length) (b : List Int) (u : Value) (hu : W.ownsRow lo 3 1 u b.length (b.map (Value.int .i64))) (hap : ∀ q (hq : q < M.length), q ≠ i → ∀ j, blk M[q].2 j → ¬ blk u j) : MuF (W.setCell ⟨g, i * 5 + 4, none⟩ u) lo Q g gd N D ca cb (M.set i (⟨M[i].1.k, M[i].1.g, M[i].1.t, M[i].1.s, b⟩, u)) ds := by
  have hO : Only (fun q => q = g) W (W.setCell ⟨g, i * 5 + 4, none⟩ u) := Only.setCell (S := fun q => q = g) (Only.refl _ _) (p := ⟨g, i * 5 + 4, none⟩) rfl _
  have hn := h.nod
  rw [← h.ln] at hn
  have hn2 := hn.setB hi b u hu hap (fun j hj => (hu.lt j hj).2)
  rw [h.ln] at hn2
  exact h.only_g hO (hn2.hi hO.size) (by rw [List.length_set]; exact h.ln)
theorem MuF.row (h : MuF W lo Q g gd N D ca cb M ds) : W.ownsRow lo 39 5 (.slice (some ⟨g, 0, none⟩) M.length ca) M.length (M.flatMap encU) := by
  have := h.nod.row
  rw [← h.ln] at this
  exact this
theorem MuF.fz (h : MuF W lo Q g gd N D ca cb M ds) (j : Nat) : W.frozen? ⟨g, j, none⟩ = false := h.row.frozenAt j
theorem MuF.fzd (h : MuF W lo Q g gd N D ca cb M ds) (j : Nat) : W.frozen? ⟨gd, j, none⟩ = false := h.txt.frozenAt j
theorem MuF.celld (h : MuF W lo Q g gd N D ca cb M ds) {k : Nat} (hk : k < ds.length) : W.cell? ⟨gd, k, none⟩ = some (.string ds[k]) := by
  have := h.txt.cellAt k (by have := h.ld; omega)
  rw [this]; simp [hk]
theorem MuF.celln (h : MuF W lo Q g gd N D ca cb M ds) {i : Nat} (hi : i < M.length) : NodeAt W g (i * 5) M[i].1 M[i].2 := by
  obtain ⟨e0, e1, e2, e3, e4⟩ := uCells hi
  exact ⟨(h.row.cellAt (i * 5) (by omega)).trans e0, (h.row.cellAt (i * 5 + 1) (by omega)).trans e1, (h.row.cellAt (i * 5 + 2) (by omega)).trans e2, (h.row.cellAt (i * 5 + 3) (by omega)).trans e3, (h.row.cellAt (i * 5 + 4) (by omega)).trans e4⟩
theorem MuF.own (h : MuF W lo Q g gd N D ca cb M ds) {F : FsD} (hM : M.map (·.1) = F.ns) (hd : ds = F.ds) : OwnFs W lo W.heap.size (.agg #[.slice (some ⟨g, 0, none⟩) N ca, .slice (some ⟨gd, 0, none⟩) D cb]) F := by
  refine ⟨_, _, rfl, ⟨M, hM, h.nod⟩, ?_, fun j hj => (h.txt.lt j hj).2⟩
  rw [← hd, h.ld]
  exact h.txt
end
/-- All five cells of a node are stored anew: it is free. -/
def wipe (W : World) (g i : Nat) : World := ((((W.setCell ⟨g, i * 5, none⟩ (.int .i64 0)).setCell ⟨g, i * 5 + 1, none⟩ (.int .i64 0)).setCell ⟨g, i * 5 + 2, none⟩ (.int .i64 0)).setCell ⟨g, i * 5 + 3, none⟩ (.int .i64 0)).setCell ⟨g, i * 5 + 4, none⟩ (.slice none 0 0)
theorem MuF.wipe {W : World} {lo Q g gd N D ca cb : Nat} {M : List NodeU} {ds : List ByteArray} (h : MuF W lo Q g gd N D ca cb M ds) {i : Nat} (hi : i < M.length) : MuF (wipe W g i) lo Q g gd N D ca cb (M.set i (zeroN, .slice none 0 0)) ds := by
  have hn := h.nod
  rw [← h.ln] at hn
  have h4 := hn.four hi 0 0 0 0
  rw [h.ln] at h4
  have hO : Only (fun q => q = g) W ((((W.setCell ⟨g, i * 5, none⟩ (.int .i64 0)).setCell ⟨g, i * 5 + 1, none⟩ (.int .i64 0)).setCell ⟨g, i * 5 + 2, none⟩ (.int .i64 0)).setCell ⟨g, i * 5 + 3, none⟩ (.int .i64 0)) :=
    (((Only.setCell (S := fun q => q = g) (Only.refl _ _) (p := ⟨g, i * 5, none⟩) rfl _).setCell (p := ⟨g, i * 5 + 1, none⟩) rfl _).setCell (p := ⟨g, i * 5 + 2, none⟩) rfl _).setCell (p := ⟨g, i * 5 + 3, none⟩) rfl _
  have hm := h.only_g hO (h4.hi hO.size) (by rw [List.length_set]; exact h.ln)
  have hi2 : i < (M.set i ((⟨0, 0, 0, 0, M[i].1.b⟩ : NodeD), M[i].2)).length := by simpa using hi
  have hm2 := hm.blocks hi2 [] (.slice none 0 0) (World.ownsRow_nil _ _ _ _) (fun _ _ _ _ _ e => by cases e)
  rw [List.getElem_set_self, List.set_set] at hm2
  exact hm2
theorem wipe_only (W : World) (g i : Nat) : Only (fun q => q = g) W (wipe W g i) :=
  ((((Only.setCell (S := fun q => q = g) (Only.refl _ _) (p := ⟨g, i * 5, none⟩) rfl _).setCell (p := ⟨g, i * 5 + 1, none⟩) rfl _).setCell (p := ⟨g, i * 5 + 2, none⟩) rfl _).setCell (p := ⟨g, i * 5 + 3, none⟩) rfl _).setCell (p := ⟨g, i * 5 + 4, none⟩) rfl _
/-- A branch of the call's own that is not empty goes into a variable. -/
theorem OwnFs.open {w : World} {lo hi : Nat} {v : Value} {F : FsD} (h : OwnFs w lo hi v F) (hn : 0 < F.ns.length) (hd : 0 < F.ds.length) :
    ∃ g gd ca cb M, v = .agg #[.slice (some ⟨g, 0, none⟩) F.ns.length ca, .slice (some ⟨gd, 0, none⟩) F.ds.length cb] ∧ M.map (·.1) = F.ns ∧ OwnL w lo hi (.slice (some ⟨g, 0, none⟩) F.ns.length ca) M ∧ w.ownsRow lo 9 1 (.slice (some ⟨gd, 0, none⟩) F.ds.length cb) F.ds.length (F.ds.map Value.string) := by
  obtain ⟨v1, v2, rfl, ⟨M, hM, h1⟩, h2, _⟩ := h
  have hl : M.length = F.ns.length := by rw [← hM]; simp
  have h1r := h1.row
  rcases h1r.2 with ⟨rfl, h0⟩ | ⟨g, ca, cur, rfl, _⟩
  · omega
  rcases h2.2 with ⟨rfl, h0⟩ | ⟨gd, cb, cur, rfl, _⟩
  · omega
  rw [hl] at h1
  exact ⟨g, gd, ca, cb, M, by rw [hl], hM, h1, h2⟩
theorem MuF.made {w W : World} {lo Q g gd N D ca cb : Nat} {M : List NodeU} {ds : List ByteArray} (hv : Var W Q #[.slice (some ⟨g, 0, none⟩) N ca, .slice (some ⟨gd, 0, none⟩) D cb] 27) (h1 : OwnL w lo w.heap.size (.slice (some ⟨g, 0, none⟩) N ca) M) (h2 : w.ownsRow lo 9 1 (.slice (some ⟨gd, 0, none⟩) D cb) D (ds.map Value.string)) (hb : Below w.heap.size w W) (ln : M.length = N) (ld : ds.length = D) : MuF W lo Q g gd N D ca cb M ds :=
  ⟨hv, (h1.below hb).hi hb.size, ownsRow_below h2 hb (Nat.le_refl _), ln, ld⟩
end Go.Proofs.Ytbameedfnicnhaa
