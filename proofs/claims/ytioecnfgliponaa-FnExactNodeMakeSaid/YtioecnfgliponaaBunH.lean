/-
  Own texts, several together.
-/
import Derived.Test.YtioecnfgliponaaFsM
import Derived.Test.YtioecnfgliponaaGrowFs
import Derived.Test.YtioecnfgliponaaSDataW
import Derived.Test.YtioecnfgliponaaSCopyW
import Derived.Test.YtioecnfgliponaaCloneW
import Derived.Test.YtioecnfgliponaaAppAt
import Derived.Test.YtioecnfgliponaaDataMath
import Derived.Test.YtioecnfgliponaaFsF
/-
  Own text: a branch in a variable, its rows of the call's own: texts and nodes are stored anew.
-/
namespace Go.Proofs.Ytioecnfgliponaa
open Go.RowKit

/-- The blocks of one node are another row from now on. -/
theorem OwnL.setB {w : World} {lo hi : Nat} {g c : Nat} {M : List NodeU} (h : OwnL w lo hi (.slice (some ⟨g, 0, none⟩) M.length c) M) {i : Nat} (hi' : i < M.length) (b : List Int) (u : Value)
    (hu : w.ownsRow lo 3 1 u b.length (b.map (Value.int .i64))) (hap : ∀ q (hq : q < M.length), q ≠ i → ∀ j, blk M[q].2 j → ¬ blk u j) (hlow : ∀ j, blk u j → j < hi) :
    OwnL (w.setCell ⟨g, i * 5 + 4, none⟩ u) lo hi (.slice (some ⟨g, 0, none⟩) M.length c) (M.set i (⟨M[i].1.k, M[i].1.g, M[i].1.t, M[i].1.s, b⟩, u)) := by
  have hst := (h.row.stored (i * 5 + 4) u).1
  rw [flat_set encU_len M i hi' 4 ((⟨M[i].1.k, M[i].1.g, M[i].1.t, M[i].1.s, b⟩ : NodeD), u) u (by omega) rfl] at hst
  have hO : Only (fun k => k = g) w (w.setCell ⟨g, i * 5 + 4, none⟩ u) := Only.setCell (S := fun k => k = g) (Only.refl _ _) (p := ⟨g, i * 5 + 4, none⟩) rfl u
  have hx : ∀ x ∈ M, ∀ k, blk x.2 k → ¬ k = g := fun x hx k hk e => own_apart (h.inn x hx) h.row (by decide) k hk (by rw [e]; rfl)
  have hux : ∀ k, blk u k → ¬ k = g := fun k hk e => own_apart hu h.row (by decide) k hk (by rw [e]; rfl)
  refine ⟨by rw [List.length_set]; exact hst, ?_, ?_, h.top, ?_⟩
  · intro x hx'
    rcases List.mem_or_eq_of_mem_set hx' with hm | rfl
    · exact own_only (h.inn x hm) hO (fun k hk => hx x hm k hk)
    · exact own_only hu hO (fun k hk => hux k hk)
  · rw [List.pairwise_iff_getElem]
    intro p q hp hq hpq j h1 h2
    have hp' : p < M.length := by simpa using hp
    have hq' : q < M.length := by simpa using hq
    rw [List.getElem_set] at h1 h2
    split at h1
    · rename_i e1
      split at h2
      · omega
      · exact hap q hq' (by omega) j h2 h1
    · split at h2
      · exact hap p hp' (by omega) j h1 h2
      · exact List.pairwise_iff_getElem.1 h.apart p q hp' hq' hpq j h1 h2
  · intro x hx' k hk
    rcases List.mem_or_eq_of_mem_set hx' with hm | rfl
    · exact h.low x hm k hk
    · exact hlow k hk

structure MuF (W : World) (lo Q g gd N D ca cb : Nat) (M : List NodeU) (ds : List ByteArray) : Prop where
  var : Var W Q #[.slice (some ⟨g, 0, none⟩) N ca, .slice (some ⟨gd, 0, none⟩) D cb] 31
  nod : OwnL W lo W.heap.size (.slice (some ⟨g, 0, none⟩) N ca) M
  txt : W.ownsRow lo 9 1 (.slice (some ⟨gd, 0, none⟩) D cb) D (ds.map Value.string)
  ln : M.length = N
  ld : ds.length = D

section
variable {W : World} {lo Q g gd N D ca cb : Nat} {M : List NodeU} {ds : List ByteArray}
theorem MuF.new {W' : World} (h : MuF W lo Q g gd N D ca cb M ds) (hb : Below W.heap.size W W') : MuF W' lo Q g gd N D ca cb M ds :=
  ⟨h.var.new hb, (h.nod.below hb).hi hb.size, ownsRow_below h.txt hb (Nat.le_refl _), h.ln, h.ld⟩
theorem MuF.only {W' : World} {S : Nat → Prop} (h : MuF W lo Q g gd N D ca cb M ds) (ho : Only S W W') (hQ : ¬ S Q) (hn : ∀ k, blkL (.slice (some ⟨g, 0, none⟩) N ca) M k → ¬ S k) (ht : ¬ S gd) : MuF W' lo Q g gd N D ca cb M ds :=
  ⟨h.var.only ho hQ, (h.nod.keep ho hn).hi ho.size, own_only h.txt ho (fun k hk => by cases hk; exact ht), h.ln, h.ld⟩
theorem MuF.in_g (h : MuF W lo Q g gd N D ca cb M ds) : lo ≤ g ∧ g < W.heap.size := h.nod.row.lt g rfl
theorem MuF.in_gd (h : MuF W lo Q g gd N D ca cb M ds) : lo ≤ gd ∧ gd < W.heap.size := h.txt.lt gd rfl
theorem MuF.ne_g (h : MuF W lo Q g gd N D ca cb M ds) : g ≠ Q := own_ne_var h.nod.row h.var (by decide) g rfl
theorem MuF.ne_gd (h : MuF W lo Q g gd N D ca cb M ds) : gd ≠ Q := own_ne_var h.txt h.var (by decide) gd rfl
theorem MuF.g_gd (h : MuF W lo Q g gd N D ca cb M ds) : gd ≠ g := fun e => own_apart h.txt h.nod.row (by decide) gd rfl (by rw [e]; rfl)
theorem MuF.lowset (h : MuF W lo Q g gd N D ca cb M ds) {P : Nat} (hP : P < lo) (hne : P ≠ Q) (j : Nat) (u : Value) : MuF (W.setCell ⟨P, j, none⟩ u) lo Q g gd N D ca cb M ds := by
  have hO : Only (fun k => k = P) W (W.setCell ⟨P, j, none⟩ u) := Only.setCell (S := fun k => k = P) (Only.refl _ _) (p := ⟨P, j, none⟩) rfl _
  have := h.in_gd
  exact h.only hO (fun e => hne e.symm) (fun k hk e => by have := (h.nod.blkL_in hk).1; omega) (by omega)
/-- A text is stored anew. -/
theorem MuF.text (h : MuF W lo Q g gd N D ca cb M ds) (k : Nat) (p : ByteArray) : MuF (W.setCell ⟨gd, k, none⟩ (.string p)) lo Q g gd N D ca cb M (ds.set k p) := by
  have hO : Only (fun q => q = gd) W (W.setCell ⟨gd, k, none⟩ (.string p)) := Only.setCell (S := fun q => q = gd) (Only.refl _ _) (p := ⟨gd, k, none⟩) rfl _
  have hst := (h.txt.stored k (.string p)).1
  refine ⟨h.var.only hO (fun e => h.ne_gd e.symm), (h.nod.keep hO (fun q hq e => ?_)).hi hO.size, ?_, h.ln, by rw [List.length_set]; exact h.ld⟩
  · exact h.nod.apart_txt h.txt q (by rw [e]; rfl) hq
  · rw [List.map_set]; exact hst
theorem MuF.only_g (h : MuF W lo Q g gd N D ca cb M ds) {W' : World} (hO : Only (fun q => q = g) W W') {M' : List NodeU} (hn : OwnL W' lo W'.heap.size (.slice (some ⟨g, 0, none⟩) N ca) M') (hl : M'.length = N) : MuF W' lo Q g gd N D ca cb M' ds :=
  ⟨h.var.only hO (fun e => h.ne_g e.symm), hn, own_only h.txt hO (fun k hk e => by cases hk; exact h.g_gd e), hl, h.ld⟩
/-- One number of a node is stored anew. -/
theorem MuF.num (h : MuF W lo Q g gd N D ca cb M ds) {i : Nat} (hi : i < M.length) (j : Nat) (hj : j < 4) (y : NodeD) (u : Value) (hb : y.b = M[i].1.b) (he : encU (y, M[i].2) = (encU M[i]).set j u) : MuF (W.setCell ⟨g, i * 5 + j, none⟩ u) lo Q g gd N D ca cb (M.set i (y, M[i].2)) ds := by
  have hO : Only (fun q => q = g) W (W.setCell ⟨g, i * 5 + j, none⟩ u) := Only.setCell (S := fun q => q = g) (Only.refl _ _) (p := ⟨g, i * 5 + j, none⟩) rfl _
  have hn := h.nod
  rw [← h.ln] at hn
  have hn2 := hn.set hi j hj y u hb he
  rw [h.ln] at hn2
  exact h.only_g hO (hn2.hi hO.size) (by rw [List.length_set]; exact h.ln)
/-- The blocks of a node are another row from now on. -/
theorem MuF.blocks (h : MuF W lo Q g gd N D ca cb M ds) {i : Nat} (hi : i < M.length) (b : List Int) (u : Value) (hu : W.ownsRow lo 3 1 u b.length (b.map (Value.int .i64))) (hap : ∀ q (hq : q < M.length), q ≠ i → ∀ j, blk M[q].2 j → ¬ blk u j) : MuF (W.setCell ⟨g, i * 5 + 4, none⟩ u) lo Q g gd N D ca cb (M.set i (⟨M[i].1.k, M[i].1.g, M[i].1.t, M[i].1.s, b⟩, u)) ds := by
  have hO : Only (fun q => q = g) W (W.setCell ⟨g, i * 5 + 4, none⟩ u) := Only.setCell (S := fun q => q = g) (Only.refl _ _) (p := ⟨g, i * 5 + 4, none⟩) rfl _
  have hn := h.nod
  rw [← h.ln] at hn
  have hn2 := hn.setB hi b u hu hap (fun j hj => (hu.lt j hj).2)
  rw [h.ln] at hn2
  exact h.only_g hO (hn2.hi hO.size) (by rw [List.length_set]; exact h.ln)
theorem MuF.row (h : MuF W lo Q g gd N D ca cb M ds) : W.ownsRow lo 57 5 (.slice (some ⟨g, 0, none⟩) M.length ca) M.length (M.flatMap encU) := by
  have := h.nod.row
  rw [← h.ln] at this
  exact this
theorem MuF.fz (h : MuF W lo Q g gd N D ca cb M ds) (j : Nat) : W.frozen? ⟨g, j, none⟩ = false := h.row.frozenAt j
theorem MuF.fzd (h : MuF W lo Q g gd N D ca cb M ds) (j : Nat) : W.frozen? ⟨gd, j, none⟩ = false := h.txt.frozenAt j
theorem MuF.celld (h : MuF W lo Q g gd N D ca cb M ds) {k : Nat} (hk : k < ds.length) : W.cell? ⟨gd, k, none⟩ = some (.string ds[k]) := by
  have := h.txt.cellAt k (by have := h.ld; omega)
  rw [this]; simp [hk]
theorem MuF.celln (h : MuF W lo Q g gd N D ca cb M ds) {i : Nat} (hi : i < M.length) : NodeAt W g (i * 5) M[i].1 M[i].2 := by
  obtain ⟨e0, e1, e2, e3, e4⟩ := uCells hi
  exact ⟨(h.row.cellAt (i * 5) (by omega)).trans e0, (h.row.cellAt (i * 5 + 1) (by omega)).trans e1, (h.row.cellAt (i * 5 + 2) (by omega)).trans e2, (h.row.cellAt (i * 5 + 3) (by omega)).trans e3, (h.row.cellAt (i * 5 + 4) (by omega)).trans e4⟩
theorem MuF.own (h : MuF W lo Q g gd N D ca cb M ds) {F : FsD} (hM : M.map (·.1) = F.ns) (hd : ds = F.ds) : OwnFs W lo W.heap.size (.agg #[.slice (some ⟨g, 0, none⟩) N ca, .slice (some ⟨gd, 0, none⟩) D cb]) F := by
  refine ⟨_, _, rfl, ⟨M, hM, h.nod⟩, ?_, fun j hj => (h.txt.lt j hj).2⟩
  rw [← hd, h.ld]
  exact h.txt
end
/-- All five cells of a node are stored anew: it is free. -/
def wipe (W : World) (g i : Nat) : World := ((((W.setCell ⟨g, i * 5, none⟩ (.int .i64 0)).setCell ⟨g, i * 5 + 1, none⟩ (.int .i64 0)).setCell ⟨g, i * 5 + 2, none⟩ (.int .i64 0)).setCell ⟨g, i * 5 + 3, none⟩ (.int .i64 0)).setCell ⟨g, i * 5 + 4, none⟩ (.slice none 0 0)
theorem MuF.wipe {W : World} {lo Q g gd N D ca cb : Nat} {M : List NodeU} {ds : List ByteArray} (h : MuF W lo Q g gd N D ca cb M ds) {i : Nat} (hi : i < M.length) : MuF (wipe W g i) lo Q g gd N D ca cb (M.set i (zeroN, .slice none 0 0)) ds := by
  have hn := h.nod
  rw [← h.ln] at hn
  have h4 := hn.four hi 0 0 0 0
  rw [h.ln] at h4
  have hO : Only (fun q => q = g) W ((((W.setCell ⟨g, i * 5, none⟩ (.int .i64 0)).setCell ⟨g, i * 5 + 1, none⟩ (.int .i64 0)).setCell ⟨g, i * 5 + 2, none⟩ (.int .i64 0)).setCell ⟨g, i * 5 + 3, none⟩ (.int .i64 0)) :=
    (((Only.setCell (S := fun q => q = g) (Only.refl _ _) (p := ⟨g, i * 5, none⟩) rfl _).setCell (p := ⟨g, i * 5 + 1, none⟩) rfl _).setCell (p := ⟨g, i * 5 + 2, none⟩) rfl _).setCell (p := ⟨g, i * 5 + 3, none⟩) rfl _
  have hm := h.only_g hO (h4.hi hO.size) (by rw [List.length_set]; exact h.ln)
  have hi2 : i < (M.set i ((⟨0, 0, 0, 0, M[i].1.b⟩ : NodeD), M[i].2)).length := by simpa using hi
  have hm2 := hm.blocks hi2 [] (.slice none 0 0) (World.ownsRow_nil _ _ _ _) (fun _ _ _ _ _ e => by cases e)
  rw [List.getElem_set_self, List.set_set] at hm2
  exact hm2
theorem wipe_only (W : World) (g i : Nat) : Only (fun q => q = g) W (wipe W g i) :=
  ((((Only.setCell (S := fun q => q = g) (Only.refl _ _) (p := ⟨g, i * 5, none⟩) rfl _).setCell (p := ⟨g, i * 5 + 1, none⟩) rfl _).setCell (p := ⟨g, i * 5 + 2, none⟩) rfl _).setCell (p := ⟨g, i * 5 + 3, none⟩) rfl _).setCell (p := ⟨g, i * 5 + 4, none⟩) rfl _
/-- A branch of the call's own that is not empty goes into a variable. -/
theorem OwnFs.open {w : World} {lo hi : Nat} {v : Value} {F : FsD} (h : OwnFs w lo hi v F) (hn : 0 < F.ns.length) (hd : 0 < F.ds.length) :
    ∃ g gd ca cb M, v = .agg #[.slice (some ⟨g, 0, none⟩) F.ns.length ca, .slice (some ⟨gd, 0, none⟩) F.ds.length cb] ∧ M.map (·.1) = F.ns ∧ OwnL w lo hi (.slice (some ⟨g, 0, none⟩) F.ns.length ca) M ∧ w.ownsRow lo 9 1 (.slice (some ⟨gd, 0, none⟩) F.ds.length cb) F.ds.length (F.ds.map Value.string) := by
  obtain ⟨v1, v2, rfl, ⟨M, hM, h1⟩, h2, _⟩ := h
  have hl : M.length = F.ns.length := by rw [← hM]; simp
  have h1r := h1.row
  rcases h1r.2 with ⟨rfl, h0⟩ | ⟨g, ca, cur, rfl, _⟩
  · omega
  rcases h2.2 with ⟨rfl, h0⟩ | ⟨gd, cb, cur, rfl, _⟩
  · omega
  rw [hl] at h1
  exact ⟨g, gd, ca, cb, M, by rw [hl], hM, h1, h2⟩
theorem MuF.made {w W : World} {lo Q g gd N D ca cb : Nat} {M : List NodeU} {ds : List ByteArray} (hv : Var W Q #[.slice (some ⟨g, 0, none⟩) N ca, .slice (some ⟨gd, 0, none⟩) D cb] 31) (h1 : OwnL w lo w.heap.size (.slice (some ⟨g, 0, none⟩) N ca) M) (h2 : w.ownsRow lo 9 1 (.slice (some ⟨gd, 0, none⟩) D cb) D (ds.map Value.string)) (hb : Below w.heap.size w W) (ln : M.length = N) (ld : ds.length = D) : MuF W lo Q g gd N D ca cb M ds :=
  ⟨hv, (h1.below hb).hi hb.size, ownsRow_below h2 hb (Nat.le_refl _), ln, ld⟩
end Go.Proofs.Ytioecnfgliponaa

/-
  Own text: the first empty text of a row; the first free node of a row.
-/
namespace Go.Proofs.Ytioecnfgliponaa
open Go.RowKit

theorem emptyB {d : ByteArray} (h : d.size = 0) : d = ⟨#[]⟩ := by
  obtain ⟨⟨l⟩⟩ := d
  congr 1
  congr 1
  exact List.eq_nil_of_length_eq_zero h
theorem fullB {d : ByteArray} (h : d.size ≠ 0) : d.toList.isEmpty = false := by
  obtain ⟨⟨l⟩⟩ := d
  cases l with
  | nil => exact absurd rfl h
  | cons x l => simp [ByteArray.toList_eq]

set_option maxRecDepth 20000 in
set_option maxHeartbeats 1000000 in
theorem indexE (a : Option Addr) (c : Nat) (ds : List ByteArray) (w : World) (hl : ds.length ≤ 4194304) (hr : RdS w a ds) :
    Calls Try.prog 59 #[.slice a ds.length c, .string ⟨#[]⟩] w fun e w' => e = .returned (.int .i64 (firstE ds)) ∧ w' = w := by
  have HDS : Hid (∀ m (hm : m < ds.length), ∃ g off, a = some ⟨g, off, none⟩ ∧ g < w.heap.size ∧ w.cell? ⟨g, off + m, none⟩ = some (.string ds[m])) := fun m hm => hr.cellT m hm
  have HAT : Hid (∀ k (hk : k < ds.length), (ds[k]).size = 0 → (∀ j (hj : j < ds.length), j < k → (ds[j]).size ≠ 0) → firstE ds = (k : Int)) := fun k hk h0 h => firstE_at hk h0 h
  have HNO : Hid ((∀ j (hj : j < ds.length), (ds[j]).size ≠ 0) → firstE ds = -1) := fun h => firstE_none h
  clear hr
  go_enter Try.func59, Try.ntmps59
  go_wp2
  go_loop [8] (fun i => ∃ k : Nat, k ≤ ds.length ∧ i = .int .i64 k ∧ Hid (∀ j (hj : j < ds.length), j < k → (ds[j]).size ≠ 0)) (fun i => ds.length - (intOf i).toNat)
  case atStart => exact ⟨0, Nat.zero_le _, rfl, fun j _ h => by omega⟩
  case round =>
    obtain ⟨k, hk, rfl, HL⟩ := hrel
    by_cases hlt : k < ds.length
    · obtain ⟨g, off, rfl, hg, hc⟩ := HDS.out k hlt
      by_cases h0 : ds[k].size = 0
      · have HF : Hid (firstE ds = (k : Int)) := HAT.out k hlt h0 HL.out
        rw [emptyB h0] at hc
        clear h0
        go_wp2
        go_ret
        exact ⟨by rw [HF.out]; rfl, rfl⟩
      · have HL2 : Hid (∀ j (hj : j < ds.length), j < k + 1 → (ds[j]).size ≠ 0) := fun j hj hjk => by
          by_cases e : j = k
          · subst e; exact h0
          · exact HL.out j hj (by omega)
        have hne := fullB h0
        clear h0 HL
        generalize ds[k] = d at *
        go_wp2
        go_round
        case rel => exact ⟨k + 1, by omega, by go_num, HL2⟩
        case measure => simp [intOf]; omega
    · obtain rfl : k = ds.length := by omega
      have HF : Hid (firstE ds = -1) := HNO.out fun j hj => HL.out j hj hj
      go_wp2
      go_ret
      exact ⟨by rw [HF.out]; rfl, rfl⟩

set_option maxRecDepth 20000 in
theorem freeNodeW (n : NodeD) (u : Value) (w : World) :
    Calls Try.prog 45 #[aggN n u] w fun e w' => e = .returned (.bool (decide (n.k = 0))) ∧ Below w.heap.size w w' := by
  unfold aggN
  have hv := (Var.made w #[.int .i64 n.k, .int .i64 n.g, .int .i64 n.t, .int .i64 n.s, u] 57).cell 0
  have hb := below1 w (.cells #[.int .i64 n.k, .int .i64 n.g, .int .i64 n.t, .int .i64 n.s, u] 57)
  simp at hv
  go_enter Try.func45, Try.ntmps45
  go_wp2
  go_ret
  refine ⟨?_, hb⟩
  congr 2

def freeI1 (ns : List NodeD) : Int := if ns.findIdx (·.k == 0) < ns.length then (ns.findIdx (·.k == 0) : Nat) else -1
theorem freeI1_at {ns : List NodeD} {k : Nat} (hk : k < ns.length) (h0 : (ns[k]).k = 0) (h : ∀ j (hj : j < ns.length), j < k → (ns[j]).k ≠ 0) : freeI1 ns = k := by
  have e : ns.findIdx (·.k == 0) = k := by
    rw [List.findIdx_eq hk]
    refine ⟨by simp [h0], fun j hj => ?_⟩
    simpa using h j (by omega) hj
  unfold freeI1
  rw [e, if_pos hk]
theorem freeI1_none {ns : List NodeD} (h : ∀ j (hj : j < ns.length), (ns[j]).k ≠ 0) : freeI1 ns = -1 := by
  unfold freeI1
  rw [if_neg]
  intro hlt
  have := List.findIdx_getElem (p := fun x : NodeD => x.k == 0) (xs := ns) (w := hlt)
  exact h _ hlt (by simpa using this)

set_option maxRecDepth 20000 in
set_option maxHeartbeats 1000000 in
theorem indexFree (a : Option Addr) (c : Nat) (ns : List NodeD) (w : World) (hl : ns.length ≤ 4194304) (hr : RdNs w a ns) :
    Calls Try.prog 44 #[.slice a ns.length c, .func (.func 45) #[] #[]] w fun e w' => e = .returned (.int .i64 (freeI1 ns)) ∧ Below w.heap.size w w' := by
  have HNS : Hid (∀ W, Below w.heap.size w W → RdNs W a ns) := fun W h => hr.below h (Nat.le_refl _)
  have HAT : Hid (∀ k (hk : k < ns.length), (ns[k]).k = 0 → (∀ j (hj : j < ns.length), j < k → (ns[j]).k ≠ 0) → freeI1 ns = (k : Int)) := fun k hk h0 h => freeI1_at hk h0 h
  have HNO : Hid ((∀ j (hj : j < ns.length), (ns[j]).k ≠ 0) → freeI1 ns = -1) := fun h => freeI1_none h
  clear hr
  go_enter Try.func44, Try.ntmps44
  go_wp2
  go_loopw [8] (fun i wr => ∃ k : Nat, k ≤ ns.length ∧ i = .int .i64 k ∧ Hid (∀ j (hj : j < ns.length), j < k → (ns[j]).k ≠ 0) ∧ Below w.heap.size w wr) (fun i _ => ns.length - (intOf i).toNat)
  case atStart => exact ⟨0, Nat.zero_le _, rfl, fun j _ h => by omega, Below.refl _ _⟩
  case round =>
    obtain ⟨k, hk, rfl, HL, hB⟩ := hrel
    by_cases hlt : k < ns.length
    · obtain ⟨g, off, u, rfl, hblt, _, c0, c1, c2, c3, c4⟩ := (HNS.out wr hB).at k hlt
      by_cases h0 : (ns[k]).k = 0
      · have HF : Hid (freeI1 ns = (k : Int)) := HAT.out k hlt h0 HL.out
        have HK : Hid (decide ((ns[k]).k = 0) = true) := decide_eq_true h0
        clear h0
        generalize ns[k] = n at *
        go_wp2_with fail
        refine (freeNodeW n u _).mono ?_
        rintro e w1 ⟨rfl, hb1⟩
        have hB1 := hB.trans (hb1.mono hB.size)
        rw [HK.out]
        go_wp2
        go_ret
        exact ⟨by rw [HF.out]; rfl, hB1⟩
      · have HL2 : Hid (∀ j (hj : j < ns.length), j < k + 1 → (ns[j]).k ≠ 0) := fun j hj hjk => by
          by_cases e : j = k
          · subst e; exact h0
          · exact HL.out j hj (by omega)
        have HK : Hid (decide ((ns[k]).k = 0) = false) := decide_eq_false h0
        clear h0 HL
        generalize ns[k] = n at *
        go_wp2_with fail
        refine (freeNodeW n u _).mono ?_
        rintro e w1 ⟨rfl, hb1⟩
        have hB1 := hB.trans (hb1.mono hB.size)
        rw [HK.out]
        go_wp2
        go_roundw
        case rel => exact ⟨k + 1, by omega, by go_num, HL2, hB1⟩
        case measure => simp [intOf]; omega
    · obtain rfl : k = ns.length := by omega
      have HF : Hid (freeI1 ns = -1) := HNO.out fun j hj => HL.out j hj hj
      go_wp2
      go_ret
      exact ⟨by rw [HF.out]; rfl, hB⟩
end Go.Proofs.Ytioecnfgliponaa

/-
  Own text: a copy of a branch in a variable of the other program's, the answer's variable and the parameter's beside it.
-/
namespace Go.Proofs.Ytioecnfgliponaa
open Go.RowKit

theorem res_fs1 {P : Program} {fn : Func} {p u : Tmp} {ty : TypeId} (h : fn.results = #[.cell p ty, .tmp u]) (tmps : Array Value) (w : World) (g : Nat) (t : TypeId) (cs : Array Value) (d : TypeDesc)
    (hp : tmps.getD p undef = .pointer (some ⟨g, 0, none⟩)) (hg : Var w g cs t)
    (hu : P.underlying ty = some d) (hd : (match d with | .struct _ | .array _ _ => true | _ => false) = true) (hi : (P.info? ty).map (·.size) = some cs.size) :
    (results fn tmps).run P w = .ok (.tuple #[.agg cs, tmps.getD u undef]) w := by
  rw [results_cell_tmp h, hp]
  simp [asAddr, run_loadVar_row w g t ty cs (0, 0) d hg hu hd hi]

structure CpF (w W : World) (a b : Option Addr) (na ca nb cb Q : Nat) (vn vd : Value) (F : FsD) : Prop where
  prm : Var W w.heap.size #[.slice a na ca, .slice b nb cb] 31
  res : Var W (w.heap.size + 1) #[.slice none 0 0, .slice none 0 0] 31
  var : Var W Q #[vn, vd] 31
  own : OwnFs W (w.heap.size + 2) W.heap.size (.agg #[vn, vd]) F
  bel : Below w.heap.size w W
  far : w.heap.size + 2 ≤ Q
structure CpM (w W : World) (a b : Option Addr) (na ca nb cb Q g gd N D ga gb : Nat) (M : List NodeU) (ds : List ByteArray) : Prop where
  prm : Var W w.heap.size #[.slice a na ca, .slice b nb cb] 31
  res : Var W (w.heap.size + 1) #[.slice none 0 0, .slice none 0 0] 31
  mu : MuF W (w.heap.size + 2) Q g gd N D ga gb M ds
  bel : Below w.heap.size w W
  far : w.heap.size + 2 ≤ Q
section
variable {w W : World} {a b : Option Addr} {na ca nb cb Q : Nat}
theorem CpF.start {w1 : World} {vn vd : Value} {F : FsD} (ho : OwnFs w1 (w.heap.size + 2) w1.heap.size (.agg #[vn, vd]) F)
    (hb : Below (w.heap.size + 2) ((w.alloc (.cells #[.slice a na ca, .slice b nb cb] 31)).alloc (.cells #[.slice none 0 0, .slice none 0 0] 31)) w1) :
    CpF w (w1.alloc (.cells #[vn, vd] 31)) a b na ca nb cb w1.heap.size vn vd F := by
  have hs : w.heap.size + 2 ≤ w1.heap.size := by have := hb.size; simp at this; omega
  have hb2 := hb.trans ((below1 w1 (.cells #[vn, vd] 31)).mono hs)
  exact ⟨((Var.made w _ _).alloc _).below hb2 (by omega), (Var.made2 w _ _ _).below hb2 (by omega), Var.made _ _ _, (ho.below (below1 _ _)).hi (by simp), (below2 w _ _).trans (hb2.mono (by omega)), hs⟩
theorem CpF.new {vn vd : Value} {F : FsD} {W' : World} (h : CpF w W a b na ca nb cb Q vn vd F) (hb : Below W.heap.size W W') : CpF w W' a b na ca nb cb Q vn vd F :=
  ⟨h.prm.new hb, h.res.new hb, h.var.new hb, (h.own.below hb).hi hb.size, h.bel.trans (hb.mono h.bel.size), h.far⟩
theorem CpF.cells {vn vd : Value} {F : FsD} (h : CpF w W a b na ca nb cb Q vn vd F) : W.cell? ⟨w.heap.size, 0, none⟩ = some (.slice a na ca) ∧ W.cell? ⟨w.heap.size, 1, none⟩ = some (.slice b nb cb) ∧ W.cell? ⟨w.heap.size + 1, 0, none⟩ = some (.slice none 0 0) ∧ W.cell? ⟨w.heap.size + 1, 1, none⟩ = some (.slice none 0 0) ∧ W.cell? ⟨Q, 0, none⟩ = some vn ∧ W.cell? ⟨Q, 1, none⟩ = some vd ∧ W.frozen? ⟨w.heap.size + 1, 0, none⟩ = false ∧ W.frozen? ⟨w.heap.size + 1, 1, none⟩ = false :=
  ⟨(h.prm.cell 0).trans rfl, (h.prm.cell 1).trans rfl, (h.res.cell 0).trans rfl, (h.res.cell 1).trans rfl, (h.var.cell 0).trans rfl, (h.var.cell 1).trans rfl, h.res.frozen 0, h.res.frozen 1⟩
/-- The branch goes into the answer's variable. -/
theorem CpF.done {vn vd : Value} {F : FsD} (h : CpF w W a b na ca nb cb Q vn vd F) :
    Var ((W.setCell ⟨w.heap.size + 1, 0, none⟩ vn).setCell ⟨w.heap.size + 1, 1, none⟩ vd) (w.heap.size + 1) #[vn, vd] 31 ∧ OwnFs ((W.setCell ⟨w.heap.size + 1, 0, none⟩ vn).setCell ⟨w.heap.size + 1, 1, none⟩ vd) w.heap.size ((W.setCell ⟨w.heap.size + 1, 0, none⟩ vn).setCell ⟨w.heap.size + 1, 1, none⟩ vd).heap.size (.agg #[vn, vd]) F ∧ Below w.heap.size w ((W.setCell ⟨w.heap.size + 1, 0, none⟩ vn).setCell ⟨w.heap.size + 1, 1, none⟩ vd) := by
  have hO : Only (fun k => k = w.heap.size + 1) W ((W.setCell ⟨w.heap.size + 1, 0, none⟩ vn).setCell ⟨w.heap.size + 1, 1, none⟩ vd) := (Only.setCell (S := fun k => k = w.heap.size + 1) (Only.refl _ _) (p := ⟨w.heap.size + 1, 0, none⟩) rfl _).setCell (p := ⟨w.heap.size + 1, 1, none⟩) rfl _
  have hv := (h.res.set 0 vn).set 1 vd
  refine ⟨by simpa using hv, ?_, h.bel.trans (hO.below h.bel.size (fun k e => by omega))⟩
  exact ((h.own.only hO (fun k h1 _ e => by omega)).base (by omega)).hi (by simp [World.setCell])
theorem CpF.open {vn vd : Value} {F : FsD} (h : CpF w W a b na ca nb cb Q vn vd F) (hn : 0 < F.ns.length) (hd : 0 < F.ds.length) :
    ∃ g gd ga gb M, vn = .slice (some ⟨g, 0, none⟩) F.ns.length ga ∧ vd = .slice (some ⟨gd, 0, none⟩) F.ds.length gb ∧ M.map (·.1) = F.ns ∧ CpM w W a b na ca nb cb Q g gd F.ns.length F.ds.length ga gb M F.ds := by
  obtain ⟨g, gd, ga, gb, M, he, hM, h1, h2⟩ := h.own.open hn hd
  simp at he
  obtain ⟨rfl, rfl⟩ := he
  exact ⟨g, gd, ga, gb, M, rfl, rfl, hM, h.prm, h.res, ⟨h.var, h1, h2, by rw [← hM]; simp, rfl⟩, h.bel, h.far⟩
variable {g gd N D ga gb : Nat} {M : List NodeU} {ds : List ByteArray}
theorem CpM.new {W' : World} (h : CpM w W a b na ca nb cb Q g gd N D ga gb M ds) (hb : Below W.heap.size W W') : CpM w W' a b na ca nb cb Q g gd N D ga gb M ds :=
  ⟨h.prm.new hb, h.res.new hb, h.mu.new hb, h.bel.trans (hb.mono h.bel.size), h.far⟩
theorem CpM.drew (h : CpM w W a b na ca nb cb Q g gd N D ga gb M ds) : CpM w W.drew a b na ca nb cb Q g gd N D ga gb M ds := h.new ((Below.refl _ _).drew)
theorem CpM.upd {W' : World} {x : Nat} {M' : List NodeU} {ds' : List ByteArray} (h : CpM w W a b na ca nb cb Q g gd N D ga gb M ds) (hO : Only (fun q => q = x) W W') (hx : w.heap.size + 2 ≤ x) (hm : MuF W' (w.heap.size + 2) Q g gd N D ga gb M' ds') : CpM w W' a b na ca nb cb Q g gd N D ga gb M' ds' :=
  ⟨h.prm.only hO (by omega), h.res.only hO (by omega), hm, h.bel.trans (hO.below h.bel.size (fun k e => by omega)), h.far⟩
theorem CpM.text (h : CpM w W a b na ca nb cb Q g gd N D ga gb M ds) (k : Nat) (p : ByteArray) : CpM w (W.setCell ⟨gd, k, none⟩ (.string p)) a b na ca nb cb Q g gd N D ga gb M (ds.set k p) :=
  h.upd (Only.setCell (S := fun q => q = gd) (Only.refl _ _) (p := ⟨gd, k, none⟩) rfl _) h.mu.in_gd.1 (h.mu.text k p)
theorem CpM.num (h : CpM w W a b na ca nb cb Q g gd N D ga gb M ds) {i : Nat} (hi : i < M.length) (j : Nat) (hj : j < 4) (y : NodeD) (u : Value) (hb : y.b = M[i].1.b) (he : encU (y, M[i].2) = (encU M[i]).set j u) : CpM w (W.setCell ⟨g, i * 5 + j, none⟩ u) a b na ca nb cb Q g gd N D ga gb (M.set i (y, M[i].2)) ds :=
  h.upd (Only.setCell (S := fun q => q = g) (Only.refl _ _) (p := ⟨g, i * 5 + j, none⟩) rfl _) h.mu.in_g.1 (h.mu.num hi j hj y u hb he)
theorem CpM.blocks (h : CpM w W a b na ca nb cb Q g gd N D ga gb M ds) {i : Nat} (hi : i < M.length) (bl : List Int) (u : Value) (hu : W.ownsRow (w.heap.size + 2) 3 1 u bl.length (bl.map (Value.int .i64))) (hap : ∀ q (hq : q < M.length), q ≠ i → ∀ j, blk M[q].2 j → ¬ blk u j) : CpM w (W.setCell ⟨g, i * 5 + 4, none⟩ u) a b na ca nb cb Q g gd N D ga gb (M.set i (⟨M[i].1.k, M[i].1.g, M[i].1.t, M[i].1.s, bl⟩, u)) ds :=
  h.upd (Only.setCell (S := fun q => q = g) (Only.refl _ _) (p := ⟨g, i * 5 + 4, none⟩) rfl _) h.mu.in_g.1 (h.mu.blocks hi bl u hu hap)
theorem CpM.wipe (h : CpM w W a b na ca nb cb Q g gd N D ga gb M ds) {i : Nat} (hi : i < M.length) : CpM w (wipe W g i) a b na ca nb cb Q g gd N D ga gb (M.set i (zeroN, .slice none 0 0)) ds :=
  h.upd (wipe_only W g i) h.mu.in_g.1 (h.mu.wipe hi)
theorem CpM.toF (h : CpM w W a b na ca nb cb Q g gd N D ga gb M ds) {F : FsD} (hM : M.map (·.1) = F.ns) (hd : ds = F.ds) : CpF w W a b na ca nb cb Q (.slice (some ⟨g, 0, none⟩) N ga) (.slice (some ⟨gd, 0, none⟩) D gb) F :=
  ⟨h.prm, h.res, h.mu.var, h.mu.own hM hd, h.bel, h.far⟩
theorem CpM.cells (h : CpM w W a b na ca nb cb Q g gd N D ga gb M ds) : W.cell? ⟨w.heap.size, 0, none⟩ = some (.slice a na ca) ∧ W.cell? ⟨w.heap.size, 1, none⟩ = some (.slice b nb cb) ∧ W.cell? ⟨Q, 0, none⟩ = some (.slice (some ⟨g, 0, none⟩) N ga) ∧ W.cell? ⟨Q, 1, none⟩ = some (.slice (some ⟨gd, 0, none⟩) D gb) :=
  ⟨(h.prm.cell 0).trans rfl, (h.prm.cell 1).trans rfl, (h.mu.var.cell 0).trans rfl, (h.mu.var.cell 1).trans rfl⟩
end
end Go.Proofs.Ytioecnfgliponaa

/-
  Own text: an answer of a branch, a number and a flag; the first free node.
-/
namespace Go.Proofs.Ytioecnfgliponaa
open Go.RowKit

theorem res_fs2 {P : Program} {fn : Func} {p u u' : Tmp} {ty : TypeId} (h : fn.results = #[.cell p ty, .tmp u, .tmp u']) (tmps : Array Value) (w : World) (g : Nat) (t : TypeId) (cs : Array Value) (d : TypeDesc)
    (hp : tmps.getD p undef = .pointer (some ⟨g, 0, none⟩)) (hg : Var w g cs t)
    (hu : P.underlying ty = some d) (hd : (match d with | .struct _ | .array _ _ => true | _ => false) = true) (hi : (P.info? ty).map (·.size) = some cs.size) :
    (results fn tmps).run P w = .ok (.tuple #[.agg cs, tmps.getD u undef, tmps.getD u' undef]) w := by
  have key : (results fn tmps).run P w = ((asAddr (tmps.getD p undef)).run P w).andThen fun a w₁ => ((loadVar ty a).run P w₁).andThen fun v w₂ => .ok (.tuple #[v, tmps.getD u undef, tmps.getD u' undef]) w₂ := by
    simp only [results, h]
    simp [Sem.run_bind, Result.andThen]
  rw [key, hp]
  simp [asAddr, run_loadVar_row w g t ty cs (0, 0) d hg hu hd hi]

theorem idx_at {ns : List NodeD} {k : Nat} (hk : k < ns.length) (h0 : (ns[k]).k = 0) (h : ∀ j (hj : j < ns.length), j < k → (ns[j]).k ≠ 0) : ns.findIdx (·.k == 0) = k := by
  rw [List.findIdx_eq hk]
  refine ⟨by simp [h0], fun j hj => ?_⟩
  simpa using h j (by omega) hj
theorem idx_none {ns : List NodeD} (h : ∀ j (hj : j < ns.length), (ns[j]).k ≠ 0) : ¬ ns.findIdx (·.k == 0) < ns.length := by
  intro hlt
  have := List.findIdx_getElem (p := fun x : NodeD => x.k == 0) (xs := ns) (w := hlt)
  exact h _ hlt (by simpa using this)
/-- What is made where the first free node stands at k. -/
theorem made_at {F : FsD} {kind : Int} {k : Nat} (hS : ShapeP F) (hki : 1 ≤ kind ∧ kind ≤ 3) (hk : k < F.ns.length) (h0 : (F.ns[k]).k = 0) (h : ∀ j (hj : j < F.ns.length), j < k → (F.ns[j]).k ≠ 0) :
    mdOk F kind = true ∧ mdI F kind = (k : Int) ∧ mdD F kind = ⟨F.ns.set k ⟨kind, 0, 0, 0, []⟩, F.ds⟩ ∧ F.ns[k] = zeroN := by
  have e := idx_at hk h0 h
  have hok : mdOk F kind = true := mdOk_yes ⟨hS, hki, by rw [e]; exact hk⟩
  refine ⟨hok, ?_, ?_, (hS.2.2.1 _ (List.getElem_mem hk)).kind.2.2 h0⟩
  · unfold mdI; rw [hok, if_pos rfl, e]
  · unfold mdD; rw [hok, if_pos rfl, e]
theorem made_not {F : FsD} {kind : Int} (h : ¬ MdP F kind) : mdOk F kind = false ∧ mdI F kind = -1 ∧ mdD F kind = F := by
  have hok := mdOk_no h
  refine ⟨hok, ?_, ?_⟩
  · unfold mdI; rw [hok]; rfl
  · unfold mdD; rw [hok]; rfl
theorem and_noK {x lo hi : Int} (h : ¬ (lo ≤ x ∧ x ≤ hi)) : (decide (lo ≤ x) && decide (x ≤ hi)) = false := by
  rw [Bool.and_eq_false_iff]
  by_cases h1 : lo ≤ x
  · right; exact decide_eq_false fun h2 => h ⟨h1, h2⟩
  · left; exact decide_eq_false h1
end Go.Proofs.Ytioecnfgliponaa

/-
  Own text: while the program lays what a node holds anew: what is known between two steps; a row of numbers behind its first one.
-/
namespace Go.Proofs.Ytioecnfgliponaa
open Go.RowKit

/-- The blocks of one node are another row from now on, that was made out of the one that was there. -/
theorem OwnL.put {w w' : World} {lo hi hh : Nat} {g c : Nat} {M : List NodeU} (h : OwnL w lo hi (.slice (some ⟨g, 0, none⟩) M.length c) M) {i : Nat} (hi' : i < M.length) (b : List Int) (u : Value)
    (hg : w.grownBy w' M[i].2.ownBlock) (hu : w'.ownsRow lo 3 1 u b.length (b.map (Value.int .i64))) (hap : ∀ q (hq : q < M.length), q ≠ i → ∀ j, blk M[q].2 j → ¬ blk u j) (hlow : ∀ j, blk u j → j < hh) (hle : hi ≤ hh) :
    OwnL (w'.setCell ⟨g, i * 5 + 4, none⟩ u) lo hh (.slice (some ⟨g, 0, none⟩) M.length c) (M.set i (⟨M[i].1.k, M[i].1.g, M[i].1.t, M[i].1.s, b⟩, u)) := by
  have hG := Only.of_grown hg
  have hrow := own_only h.row hG (fun k hk e => own_apart h.row (h.inn _ (List.getElem_mem hi')) (by decide) k hk e)
  have hinn : ∀ q (hq : q < M.length), q ≠ i → w'.ownsRow lo 3 1 M[q].2 M[q].1.b.length (M[q].1.b.map (Value.int .i64)) := fun q hq hne => own_only (h.inn _ (List.getElem_mem hq)) hG (fun k hk e => by
    have hp := List.pairwise_iff_getElem.1 h.apart
    rcases Nat.lt_or_gt_of_ne hne with h1 | h1
    · exact hp q i hq hi' h1 k hk e
    · exact hp i q hi' hq h1 k e hk)
  have hst := (hrow.stored (i * 5 + 4) u).1
  rw [flat_set encU_len M i hi' 4 ((⟨M[i].1.k, M[i].1.g, M[i].1.t, M[i].1.s, b⟩ : NodeD), u) u (by omega) rfl] at hst
  have hO : Only (fun k => k = g) w' (w'.setCell ⟨g, i * 5 + 4, none⟩ u) := Only.setCell (S := fun k => k = g) (Only.refl _ _) (p := ⟨g, i * 5 + 4, none⟩) rfl u
  refine ⟨by rw [List.length_set]; exact hst, ?_, ?_, fun j hj => Nat.lt_of_lt_of_le (h.top j hj) hle, ?_⟩
  · intro x hx'
    obtain ⟨q, hq, rfl⟩ := List.getElem_of_mem hx'
    have hq' : q < M.length := by simpa using hq
    rw [List.getElem_set]
    split
    · exact own_only hu hO (fun k hk e => own_apart hu hrow (by decide) k hk (by rw [e]; rfl))
    · rename_i hne
      exact own_only (hinn q hq' (by omega)) hO (fun k hk e => own_apart (hinn q hq' (by omega)) hrow (by decide) k hk (by rw [e]; rfl))
  · rw [List.pairwise_iff_getElem]
    intro p q hp hq hpq j h1 h2
    have hp' : p < M.length := by simpa using hp
    have hq' : q < M.length := by simpa using hq
    rw [List.getElem_set] at h1 h2
    split at h1
    · rename_i e1
      split at h2
      · omega
      · exact hap q hq' (by omega) j h2 h1
    · split at h2
      · exact hap p hp' (by omega) j h1 h2
      · exact List.pairwise_iff_getElem.1 h.apart p q hp' hq' hpq j h1 h2
  · intro x hx' k hk
    rcases List.mem_or_eq_of_mem_set hx' with hm | rfl
    · exact Nat.lt_of_lt_of_le (h.low x hm k hk) hle
    · exact hlow k hk

theorem Try.infoIntH : (Try.prog.info? 3).map (fun i => (i.zero, i.size, i.bytes)) = some (some (.int .i64 0), 1, 8) := by kernel_rfl
/-- A row of numbers, cut from its second one on. -/
theorem cutI1 (g off cr L : Nat) (hL : 1 ≤ L) (hc : L ≤ cr) : ∃ o c', (∀ W : World, (Instr.slice 53 (.slice (some ⟨g, off, none⟩) L cr) (some (.int .i64 1)) none none).run Try.prog W = .ok (.slice (some ⟨g, o, none⟩) (L - 1) c') W) ∧ (L - 1 = 0 ∨ o = off + 1) ∧ L - 1 ≤ c' := by
  have hs : ∀ W : World, (sizeOf 3).run Try.prog W = .ok 1 W := fun W => by
    obtain ⟨i, hi, hz0, hz1, hz2⟩ := info_parts Try.infoIntH
    simp [sizeOf, typeInfo, hi, hz1]
  have hsz : ∀ W : World, (sizeOf (Try.prog.elem 53)).run Try.prog W = .ok 1 W := fun W => by
    have he : Try.prog.elem 53 = 3 := by kernel_rfl
    rw [he]
    exact hs W
  have hel : Try.prog.underlying 53 = some (.slice (Try.prog.elem 53)) := by kernel_rfl
  by_cases h : cr = 1
  · refine ⟨off, 0, fun W => ?_, .inl (by omega), by omega⟩
    have e := run_slice_l W 53 (some ⟨g, off, none⟩) L cr hel .i64 1 (by omega) (by omega)
    rw [e, hsz]
    subst h
    simp [sliced]
  · refine ⟨off + 1, cr - 1, fun W => ?_, .inr rfl, by omega⟩
    have e := run_slice_l W 53 (some ⟨g, off, none⟩) L cr hel .i64 1 (by omega) (by omega)
    rw [e, hsz]
    simp [sliced, h, Addr.add]
theorem rdI_cut1 {w : World} {g off o : Nat} {x : Int} {l : List Int} (h : Rd .i64 w (some ⟨g, off, none⟩) (x :: l)) (ho : l.length = 0 ∨ o = off + 1) : Rd .i64 w (some ⟨g, o, none⟩) l := by
  rcases ho with ho | rfl
  · exact .inl (List.eq_nil_of_length_eq_zero ho)
  · rcases h with h | ⟨b, f, he, hb, hc⟩
    · cases h
    · cases he
      refine .inr ⟨g, off + 1, rfl, hb, fun i hi => ?_⟩
      have := hc (i + 1) (by simp; omega)
      rw [show off + 1 + i = off + (i + 1) by omega, this]
      simp [List.getD]

/-- What is known between two steps of 'hold', of a branch in the variable P whose node i is laid anew. -/
structure HoInv (w W : World) (lo P g gd N D ca cb i : Nat) (M : List NodeU) (y : NodeD) (u : Value) (ds : List ByteArray) : Prop where
  mu : MuF W lo P g gd N D ca cb (M.set i (y, u)) ds
  own : W.ownsRow w.heap.size 3 1 u y.b.length (y.b.map (Value.int .i64))
  only : Only (fun q => q = g ∨ q = gd ∨ w.heap.size ≤ q) w W
section
variable {w W : World} {lo P g gd N D ca cb i : Nat} {M : List NodeU} {y : NodeD} {u : Value} {ds : List ByteArray}
theorem HoInv.new {W' : World} (h : HoInv w W lo P g gd N D ca cb i M y u ds) (hb : Below W.heap.size W W') : HoInv w W' lo P g gd N D ca cb i M y u ds :=
  ⟨h.mu.new hb, ownsRow_below h.own hb (Nat.le_refl _), h.only.trans (Only.of_new hb)⟩
theorem HoInv.drew (h : HoInv w W lo P g gd N D ca cb i M y u ds) : HoInv w W.drew lo P g gd N D ca cb i M y u ds := h.new ((Below.refl _ _).drew)
theorem HoInv.text (h : HoInv w W lo P g gd N D ca cb i M y u ds) (k : Nat) (p : ByteArray) : HoInv w (W.setCell ⟨gd, k, none⟩ (.string p)) lo P g gd N D ca cb i M y u (ds.set k p) := by
  have hO : Only (fun q => q = gd) W (W.setCell ⟨gd, k, none⟩ (.string p)) := Only.setCell (S := fun q => q = gd) (Only.refl _ _) (p := ⟨gd, k, none⟩) rfl _
  exact ⟨h.mu.text k p, own_only h.own hO (fun q hq e => own_apart h.own h.mu.txt (by decide) q hq (by rw [e]; rfl)), h.only.trans (hO.mono fun q _ e => .inr (.inl e))⟩
/-- A number is put behind the node's blocks. -/
theorem HoInv.app {W' : World} {u' : Value} {x : Int} (h : HoInv w W lo P g gd N D ca cb i M y u ds) (hi : i < M.length) (hlow : ∀ z ∈ M, ∀ j, blk z.2 j → j < w.heap.size) (hlo : lo ≤ w.heap.size)
    (ho : W'.ownsRow w.heap.size 3 1 u' (y.b.length + 1) (y.b.map (Value.int .i64) ++ [.int .i64 x])) (hg : W.grownBy W' u.ownBlock) :
    HoInv w (W'.setCell ⟨g, i * 5 + 4, none⟩ u') lo P g gd N D ca cb i M ⟨y.k, y.g, y.t, y.s, y.b ++ [x]⟩ u' ds := by
  have hl : i < (M.set i (y, u)).length := by simpa using hi
  have e : (M.set i (y, u))[i] = (y, u) := List.getElem_set_self _
  have hG := Only.of_grown hg
  have ho' : W'.ownsRow w.heap.size 3 1 u' (y.b ++ [x]).length ((y.b ++ [x]).map (Value.int .i64)) := by rw [List.length_append, List.map_append]; exact ho
  have hO : Only (fun k => k = g) W' (W'.setCell ⟨g, i * 5 + 4, none⟩ u') := Only.setCell (S := fun k => k = g) (Only.refl _ _) (p := ⟨g, i * 5 + 4, none⟩) rfl u'
  have hn := h.mu.nod
  rw [← h.mu.ln] at hn
  have hn2 := hn.put (w' := W') (hh := W'.heap.size) hl (y.b ++ [x]) u' (by rw [e]; exact hg) (ownsRow_base ho' hlo) (fun q hq hne j h1 h2 => by
    have hq' : q < M.length := by simpa using hq
    rw [List.getElem_set_ne (by omega)] at h1
    have h3 := hlow _ (List.getElem_mem hq') j h1
    have h4 := (ho'.lt j h2).1
    omega) (fun j hj => (ho'.lt j hj).2) hg.size
  rw [h.mu.ln, e, List.set_set] at hn2
  have hug : ∀ k, u.ownBlock = some k → k ≠ g := fun k hk e2 => own_apart h.own h.mu.nod.row (by decide) k hk (by rw [e2]; rfl)
  have hgW : W'.ownsRow lo 57 5 (.slice (some ⟨g, 0, none⟩) N ca) _ _ := own_only h.mu.nod.row hG (fun k hk e2 => hug k e2 (by cases hk; rfl))
  have htW := own_only h.mu.txt hG (fun k hk e2 => own_apart h.own h.mu.txt (by decide) k e2 hk)
  have hvW := h.mu.var.only hG (fun e2 => own_ne_var h.own h.mu.var (by decide) P e2 rfl)
  refine ⟨⟨hvW.only hO (fun e2 => own_ne_var hgW hvW (by decide) g rfl e2.symm), hn2.hi hO.size, own_only htW hO (fun k hk e2 => own_apart htW hgW (by decide) k hk (by rw [e2]; rfl)), by rw [List.length_set]; have := h.mu.ln; rw [List.length_set] at this; exact this, h.mu.ld⟩, own_only ho' hO (fun k hk e2 => own_apart ho' hgW (by decide) k hk (by rw [e2]; rfl)), ?_⟩
  refine (h.only.trans (hG.mono fun q _ hq => .inr (.inr ?_))).trans (hO.mono fun q _ e2 => .inl e2)
  exact (h.own.lt q hq).1
/-- The start: the size is written, and that there is no block. -/
theorem HoInv.start {n : Nat} (h : MuF w lo P g gd N D ca cb M ds) (hi : i < M.length) :
    HoInv w ((w.setCell ⟨g, i * 5 + 3, none⟩ (.int .i64 (n : Nat))).setCell ⟨g, i * 5 + 4, none⟩ (.slice none 0 0)) lo P g gd N D ca cb i M ⟨M[i].1.k, M[i].1.g, M[i].1.t, (n : Nat), []⟩ (.slice none 0 0) ds := by
  have h1 := h.num hi 3 (by omega) ⟨M[i].1.k, M[i].1.g, M[i].1.t, (n : Nat), M[i].1.b⟩ (.int .i64 (n : Nat)) rfl rfl
  have hl : i < (M.set i ((⟨M[i].1.k, M[i].1.g, M[i].1.t, (n : Nat), M[i].1.b⟩ : NodeD), M[i].2)).length := by simpa using hi
  have h2 := h1.blocks hl [] (.slice none 0 0) (World.ownsRow_nil _ _ _ _) (fun _ _ _ _ _ e => by cases e)
  rw [List.getElem_set_self, List.set_set] at h2
  refine ⟨h2, World.ownsRow_nil _ _ _ _, ?_⟩
  exact ((Only.setCell (S := fun q => q = g ∨ q = gd ∨ w.heap.size ≤ q) (Only.refl _ _) (p := ⟨g, i * 5 + 3, none⟩) (.inl rfl) _).setCell (p := ⟨g, i * 5 + 4, none⟩) (.inl rfl) _)
end
end Go.Proofs.Ytioecnfgliponaa

/-
  Own text: how great a branch is behind a change of a node.
-/
namespace Go.Proofs.Ytioecnfgliponaa
open Go.RowKit

theorem szN_le {l : List NodeD} {m : Nat} (h : ∀ n ∈ l, n.b.length ≤ m) : szN l ≤ l.length * (1 + m) := by
  induction l with
  | nil => simp [szN]
  | cons x l ih =>
    have h1 := h x (by simp)
    have h2 := ih fun n hn => h n (by simp [hn])
    simp only [szN, List.map_cons, List.sum_cons, List.length_cons] at h2 ⊢
    rw [Nat.add_mul]
    omega
theorem szT_le {l : List ByteArray} {m : Nat} (h : ∀ s ∈ l, s.size ≤ m) : szT l ≤ l.length * (1 + m) := by
  induction l with
  | nil => simp [szT]
  | cons x l ih =>
    have h1 := h x (by simp)
    have h2 := ih fun n hn => h n (by simp [hn])
    simp only [szT, List.map_cons, List.sum_cons, List.length_cons] at h2 ⊢
    rw [Nat.add_mul]
    omega
theorem szF_few {F : FsD} (h1 : F.ns.length ≤ 10) (h2 : F.ds.length ≤ 36) (h3 : ∀ n ∈ F.ns, n.b.length ≤ 1000) (h4 : ∀ s ∈ F.ds, s.size ≤ 1000) : szF F ≤ 1048576 := by
  have a := szN_le h3
  have b := szT_le h4
  have c : F.ns.length * (1 + 1000) ≤ 10 * 1001 := Nat.mul_le_mul_right _ h1
  have d : F.ds.length * (1 + 1000) ≤ 36 * 1001 := Nat.mul_le_mul_right _ h2
  unfold szF
  omega
theorem shape_ns {F : FsD} (h : ShapeP F) : F.ns.length ≤ 10 ∧ F.ds.length ≤ 36 ∧ (∀ n ∈ F.ns, n.b.length ≤ 5) ∧ ∀ s ∈ F.ds, s.size ≤ 16 :=
  ⟨h.1.2.1, h.1.2.2.2, fun n hn => (h.2.2.1 n hn).len, h.small⟩
theorem dpD_sz {F : FsD} {i : Int} (h : szF F ≤ 1048576) : szF (dpD F i) ≤ 1048576 := by
  unfold dpD
  split
  · rename_i ho
    have hd : DpP F i := Classical.byContradiction fun hn => absurd ((dpOk_no hn).symm.trans ho) (by decide)
    obtain ⟨h1, h2, h3, h4⟩ := shape_ns hd.1.1
    refine szF_few (by simpa using h1) (by show (clrN _ _ _).length ≤ _; rw [clrN_len]; exact h2) (fun n hn => ?_) ?_
    · rcases List.mem_or_eq_of_mem_set hn with hn | rfl
      · have := h3 n hn; omega
      · simp [zeroN]
    · exact clrN_small (fun s hs => by have := h4 s hs; omega) _
  · exact h
theorem mdD_sz {F : FsD} {kind : Int} (h : szF F ≤ 1048576) : szF (mdD F kind) ≤ 1048576 := by
  unfold mdD
  split
  · rename_i ho
    have hd : MdP F kind := Classical.byContradiction fun hn => absurd ((mdOk_no hn).symm.trans ho) (by decide)
    obtain ⟨h1, h2, h3, h4⟩ := shape_ns hd.1
    refine szF_few (by simpa using h1) h2 (fun n hn => ?_) (fun s hs => by have := h4 s hs; omega)
    rcases List.mem_or_eq_of_mem_set hn with hn | rfl
    · have := h3 n hn; omega
    · simp
  · exact h
theorem wrD_sz {F : FsD} {i : Int} {d : ByteArray} (h : szF F ≤ 1048576) : szF (wrD F i d) ≤ 1048576 := by
  unfold wrD
  split
  · rename_i ho
    have hd : WrP F i d := Classical.byContradiction fun hn => absurd ((wrOk_no hn).symm.trans ho) (by decide)
    obtain ⟨h1, h2, h3, h4⟩ := shape_ns hd.1.1
    have h5 : needN d ≤ 5 := by have := hd.2.1; unfold needN; omega
    refine szF_few (by simpa [wrF] using h1) (by show (heldDs F i d).length ≤ _; unfold heldDs; rw [clrN_len, putN_len]; exact h2) (fun n hn => ?_) ?_
    · rcases List.mem_or_eq_of_mem_set hn with hn | rfl
      · have := h3 n hn; omega
      · simp [wrN]; omega
    · exact clrN_small (putN_small (by omega) (fun s hs => by have := h4 s hs; omega) _) _
  · exact h
end Go.Proofs.Ytioecnfgliponaa

/-
  Own text: which blocks the other program takes for what is written; what is known while it does so.
-/
namespace Go.Proofs.Ytioecnfgliponaa
open Go.RowKit

/-- The blocks that it has, and the free ones below b, as many as are wanted. -/
def blkN (F : FsD) (i : Int) (d : ByteArray) (b : Nat) : List Int := ((ndAt F i).b ++ freeI F.ds b).take (needN d)
theorem blkN_zero (F : FsD) (i : Int) (d : ByteArray) : blkN F i d 0 = (ndAt F i).b.take (needN d) := by unfold blkN; simp [freeI]
theorem blkN_len (F : FsD) (i : Int) (d : ByteArray) (b : Nat) : (blkN F i d b).length ≤ needN d := by unfold blkN; simp; omega
theorem blkN_few {F : FsD} {i : Int} {d : ByteArray} {b : Nat} (h : (blkN F i d b).length < needN d) : blkN F i d b = (ndAt F i).b ++ freeI F.ds b := by
  unfold blkN at *
  rw [List.take_of_length_le]
  rw [List.length_take] at h
  omega
theorem blkN_put {F : FsD} {i : Int} {d : ByteArray} {b : Nat} (h : (blkN F i d b).length < needN d) (h0 : (dsAt F.ds (b : Int)).size = 0) : blkN F i d (b + 1) = blkN F i d b ++ [(b : Int)] := by
  have e := blkN_few h
  have hl : ((ndAt F i).b ++ freeI F.ds b).length < needN d := by rw [← e]; exact h
  rw [e]
  show ((ndAt F i).b ++ (freeI F.ds b ++ (if (dsAt F.ds (b : Int)).size = 0 then [(b : Int)] else []))).take (needN d) = _
  rw [if_pos h0, ← List.append_assoc, List.take_of_length_le]
  rw [List.length_append, List.length_singleton]
  omega
theorem blkN_not {F : FsD} {i : Int} {d : ByteArray} {b : Nat} (h0 : (dsAt F.ds (b : Int)).size ≠ 0) : blkN F i d (b + 1) = blkN F i d b := by
  unfold blkN
  show ((ndAt F i).b ++ (freeI F.ds b ++ (if (dsAt F.ds (b : Int)).size = 0 then [(b : Int)] else []))).take (needN d) = _
  rw [if_neg h0, List.append_nil]
theorem blkN_all (F : FsD) (i : Int) (d : ByteArray) : blkN F i d F.ds.length = (allW F i).take (needN d) := rfl
theorem blkN_full {F : FsD} {i : Int} {d : ByteArray} {b : Nat} (hb : b ≤ F.ds.length) (h : ¬ (blkN F i d b).length < needN d) : blkN F i d b = (allW F i).take (needN d) := by
  obtain ⟨r, hr⟩ := freeI_pre F.ds hb
  unfold blkN at *
  unfold allW
  rw [hr, ← List.append_assoc]
  rw [List.length_take] at h
  have hl : needN d ≤ ((ndAt F i).b ++ freeI F.ds b).length := by omega
  exact (List.take_append_of_le_length hl).symm
theorem blkN_mem {F : FsD} {i : Int} (hu : UsP F i) {d : ByteArray} {b : Nat} (hb : b ≤ F.ds.length) {x : Int} (hx : x ∈ blkN F i d b) : 0 ≤ x ∧ x.toNat < F.ds.length := by
  have h1 := List.mem_of_mem_take hx
  rcases List.mem_append.1 h1 with h1 | h1
  · exact ⟨(hu.blk x h1).1, (hu.blk x h1).2.1⟩
  · exact ⟨(freeI_lt h1).1, by have := (freeI_lt h1).2.1; omega⟩
theorem free_used {F : FsD} (h : ShapeP F) {b : Nat} (hb : b < F.ds.length) : (allB F.ns).count (b : Int) = 0 ↔ (dsAt F.ds (b : Int)).size = 0 := by
  have h1 := h.filled (List.getElem?_eq_getElem hb)
  rw [List.count_eq_zero, h1, dsAt_get (by simpa using hb)]
  simp

/-- What is known while the other program writes: the copy, the counts of the blocks, the row of the blocks that are taken. -/
structure WrInv (w W : World) (a b : Option Addr) (na ca nb cb Q g gd N D ga gb : Nat) (M : List NodeU) (ds : List ByteArray) (uv : Value) (m : Nat) (us : List Int) (B : Nat) (vb : Value) (bl : List Int) : Prop where
  cp : CpM w W a b na ca nb cb Q g gd N D ga gb M ds
  use : W.ownsRow (w.heap.size + 2) 3 1 uv m (us.map (Value.int .i64))
  row : W.ownsRow B 3 1 vb bl.length (bl.map (Value.int .i64))
  low : ∀ z ∈ M, ∀ j, blk z.2 j → j < B
  lowu : ∀ j, blk uv j → j < B
  far : w.heap.size + 2 ≤ B
  siz : B ≤ W.heap.size
section
variable {w W : World} {a b : Option Addr} {na ca nb cb Q g gd N D ga gb : Nat} {M : List NodeU} {ds : List ByteArray} {uv : Value} {m : Nat} {us : List Int} {B : Nat} {vb : Value} {bl : List Int}
theorem WrInv.new {W' : World} (h : WrInv w W a b na ca nb cb Q g gd N D ga gb M ds uv m us B vb bl) (hb : Below W.heap.size W W') : WrInv w W' a b na ca nb cb Q g gd N D ga gb M ds uv m us B vb bl :=
  ⟨h.cp.new hb, ownsRow_below h.use hb (Nat.le_refl _), ownsRow_below h.row hb (Nat.le_refl _), h.low, h.lowu, h.far, Nat.le_trans h.siz hb.size⟩
theorem WrInv.drew (h : WrInv w W a b na ca nb cb Q g gd N D ga gb M ds uv m us B vb bl) : WrInv w W.drew a b na ca nb cb Q g gd N D ga gb M ds uv m us B vb bl := h.new ((Below.refl _ _).drew)
theorem WrInv.text (h : WrInv w W a b na ca nb cb Q g gd N D ga gb M ds uv m us B vb bl) (k : Nat) (p : ByteArray) : WrInv w (W.setCell ⟨gd, k, none⟩ (.string p)) a b na ca nb cb Q g gd N D ga gb M (ds.set k p) uv m us B vb bl := by
  have hO : Only (fun q => q = gd) W (W.setCell ⟨gd, k, none⟩ (.string p)) := Only.setCell (S := fun q => q = gd) (Only.refl _ _) (p := ⟨gd, k, none⟩) rfl _
  exact ⟨h.cp.text k p, own_only h.use hO (fun q hq e => own_apart h.use h.cp.mu.txt (by decide) q hq (by rw [e]; rfl)), own_only h.row hO (fun q hq e => own_apart h.row h.cp.mu.txt (by decide) q hq (by rw [e]; rfl)), h.low, h.lowu, h.far, Nat.le_trans h.siz hO.size⟩
theorem WrInv.app {W' : World} {vb' : Value} {x : Int} (h : WrInv w W a b na ca nb cb Q g gd N D ga gb M ds uv m us B vb bl) (ho : W'.ownsRow B 3 1 vb' (bl.length + 1) (bl.map (Value.int .i64) ++ [.int .i64 x])) (hg : W.grownBy W' vb.ownBlock) : WrInv w W' a b na ca nb cb Q g gd N D ga gb M ds uv m us B vb' (bl ++ [x]) := by
  have hG := Only.of_grown hg
  have hB : ∀ q, vb.ownBlock = some q → B ≤ q := fun q hq => (h.row.lt q hq).1
  have hf := h.far
  have hfr := h.cp.far
  have hmu : MuF W' (w.heap.size + 2) Q g gd N D ga gb M ds := h.cp.mu.only hG (fun e => own_ne_var h.row h.cp.mu.var (by decide) Q e rfl) (fun q hq e => by
    rcases hq with hq | ⟨z, hz, hq⟩
    · exact own_apart h.row h.cp.mu.nod.row (by decide) q e hq
    · have h1 := h.low z hz q hq
      have h2 := hB q e
      omega) (fun e => own_apart h.row h.cp.mu.txt (by decide) gd e rfl)
  refine ⟨⟨h.cp.prm.only hG (fun e => by have := hB _ e; omega), h.cp.res.only hG (fun e => by have := hB _ e; omega), hmu, h.cp.bel.trans (hG.below h.cp.bel.size (fun q e => by have := hB q e; omega)), hfr⟩, own_only h.use hG (fun q hq e => by
    have h1 := h.lowu q hq
    have h2 := hB q e
    omega), ?_, h.low, h.lowu, hf, Nat.le_trans h.siz hG.size⟩
  rw [List.length_append, List.map_append]
  exact ho
end
end Go.Proofs.Ytioecnfgliponaa
