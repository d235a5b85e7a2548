/-
  Own text: the laws' marks on branches, and whether they are still there.
-/
import Derived.Test.YtioecnfgliponaaFsL
namespace Go.Proofs.Ytioecnfgliponaa
open Go.RowKit

/-- A node, all of it marked from k on. -/
def mkU (k : Nat) (n : NodeD) : NodeD := ⟨(k : Nat), ((k + 1 : Nat) : Int), ((k + 2 : Nat) : Int), ((k + 3 : Nat) : Int), marksI (k + 4) n.b.length⟩
def cntU (l : List NodeD) : Nat := (l.map fun n => 4 + n.b.length).sum
def mkNs : Nat → List NodeD → List NodeD
  | _, [] => []
  | k, n :: l => mkU k n :: mkNs (k + (4 + n.b.length)) l
def mkL (k : Nat) (M : List NodeU) : List NodeU := (mkNs k (M.map (·.1))).zip (M.map (·.2))
theorem mkNs_len : ∀ (k : Nat) (l : List NodeD), (mkNs k l).length = l.length
  | _, [] => rfl
  | k, n :: l => by simp [mkNs, mkNs_len]
theorem cntU_cons (n : NodeD) (l : List NodeD) : cntU (n :: l) = 4 + n.b.length + cntU l := by simp [cntU]
theorem cntU_app (l m : List NodeD) : cntU (l ++ m) = cntU l + cntU m := by simp [cntU]
theorem mkNs_app : ∀ (k : Nat) (l m : List NodeD), mkNs k (l ++ m) = mkNs k l ++ mkNs (k + cntU l) m
  | k, [], m => by simp [mkNs, cntU]
  | k, n :: l, m => by
    rw [List.cons_append, mkNs, mkNs, mkNs_app _ l m, cntU_cons, List.cons_append, show k + (4 + n.b.length) + cntU l = k + (4 + n.b.length + cntU l) by omega]
theorem mkL_app (k : Nat) (A B : List NodeU) : mkL k (A ++ B) = mkL k A ++ mkL (k + cntU (A.map (·.1))) B := by
  unfold mkL
  rw [List.map_append, List.map_append, mkNs_app, List.zip_append (by rw [mkNs_len]; simp)]
theorem mkL_one (k : Nat) (x : NodeU) : mkL k [x] = [(mkU k x.1, x.2)] := rfl
theorem mkL_len (k : Nat) (M : List NodeU) : (mkL k M).length = M.length := by unfold mkL; simp [mkNs_len]
theorem mkL_fst (k : Nat) (M : List NodeU) : (mkL k M).map (·.1) = mkNs k (M.map (·.1)) := by
  unfold mkL
  rw [← List.unzip_fst, List.unzip_zip (by rw [mkNs_len]; simp)]
theorem mkL_snd (k : Nat) (M : List NodeU) : (mkL k M).map (·.2) = M.map (·.2) := by
  unfold mkL
  rw [← List.unzip_snd, List.unzip_zip (by rw [mkNs_len]; simp)]
theorem cntU_le (l : List NodeD) : cntU l ≤ 4 * szN l := by
  induction l with
  | nil => simp [cntU]
  | cons n l ih => rw [cntU_cons]; simp only [szN, List.map_cons, List.sum_cons] at ih ⊢; omega
/-- Those ahead of j are marked. -/
def mkTo (k : Nat) (M : List NodeU) (j : Nat) : List NodeU := mkL k (M.take j) ++ M.drop j
theorem mkTo_len (k : Nat) (M : List NodeU) {j : Nat} (h : j ≤ M.length) : (mkTo k M j).length = M.length := by unfold mkTo; simp [mkL_len]; omega
theorem mkTo_at (k : Nat) (M : List NodeU) {j : Nat} (h : j < M.length) : (mkTo k M j)[j]? = some M[j] := by
  unfold mkTo
  rw [List.getElem?_append_right (by rw [mkL_len]; simp; omega), mkL_len, List.length_take, Nat.min_eq_left (by omega), Nat.sub_self]
  simp [h]
theorem mkTo_next (k : Nat) (M : List NodeU) {j : Nat} (h : j < M.length) : (mkTo k M j).set j (mkU (k + cntU ((M.take j).map (·.1))) M[j].1, M[j].2) = mkTo k M (j + 1) := by
  unfold mkTo
  rw [List.set_append_right _ _ (by rw [mkL_len]; simp; omega), mkL_len, List.length_take, Nat.min_eq_left (by omega), Nat.sub_self]
  rw [List.take_succ_eq_append_getElem h, mkL_app, mkL_one, List.append_assoc, List.drop_eq_getElem_cons h, List.set_cons_zero]
  rfl
theorem mkTo_zero (k : Nat) (M : List NodeU) : mkTo k M 0 = M := by simp [mkTo, mkL, mkNs]
theorem mkTo_all (k : Nat) (M : List NodeU) : mkTo k M M.length = mkL k M := by simp [mkTo]

theorem apart_map {M M' : List NodeU} (hp : M'.map (·.2) = M.map (·.2)) (h : M.Pairwise fun x y => ∀ j, blk x.2 j → ¬ blk y.2 j) : M'.Pairwise fun x y => ∀ j, blk x.2 j → ¬ blk y.2 j := by
  have h1 : (M.map (·.2)).Pairwise fun x y => ∀ j, blk x j → ¬ blk y j := List.pairwise_map.2 h
  rw [← hp] at h1
  exact List.pairwise_map.1 h1
/-- One cell of one node of a row is stored anew; its blocks stay. -/
theorem OwnL.set {w : World} {lo hi : Nat} {g c : Nat} {M : List NodeU} (h : OwnL w lo hi (.slice (some ⟨g, 0, none⟩) M.length c) M) {i : Nat} (hi' : i < M.length) (j : Nat) (hj : j < 4) (y : NodeD) (u : Value) (hb : y.b = M[i].1.b) (he : encU (y, M[i].2) = (encU M[i]).set j u) :
    OwnL (w.setCell ⟨g, i * 5 + j, none⟩ u) lo hi (.slice (some ⟨g, 0, none⟩) M.length c) (M.set i (y, M[i].2)) := by
  have hst := (h.row.stored (i * 5 + j) u).1
  rw [flat_set encU_len M i hi' j (y, M[i].2) u (by omega) he] at hst
  have hO : Only (fun k => k = g) w (w.setCell ⟨g, i * 5 + j, none⟩ u) := Only.setCell (S := fun k => k = g) (Only.refl _ _) (p := ⟨g, i * 5 + j, none⟩) rfl u
  have hx : ∀ x ∈ M, ∀ k, blk x.2 k → ¬ k = g := fun x hx k hk e => own_apart (h.inn x hx) h.row (by decide) k hk (by rw [e]; rfl)
  have hmem : ∀ x ∈ M.set i (y, M[i].2), ∃ z ∈ M, z.2 = x.2 ∧ z.1.b = x.1.b := by
    intro x hx
    rcases List.mem_or_eq_of_mem_set hx with hx | rfl
    · exact ⟨x, hx, rfl, rfl⟩
    · exact ⟨M[i], List.getElem_mem hi', rfl, hb.symm⟩
  refine ⟨by rw [List.length_set]; exact hst, ?_, ?_, h.top, ?_⟩
  · intro x hx'
    obtain ⟨z, hz, e1, e2⟩ := hmem x hx'
    rw [← e1, ← e2]
    exact own_only (h.inn z hz) hO (fun k hk => hx z hz k hk)
  · have hp : (M.set i (y, M[i].2)).map (·.2) = M.map (·.2) := by
      apply List.ext_getElem
      · simp
      · intro q h1 h2
        simp only [List.getElem_map, List.getElem_set]
        split
        · subst_vars; rfl
        · rfl
    exact apart_map hp h.apart
  · intro x hx' k hk
    obtain ⟨z, hz, e1, _⟩ := hmem x hx'
    exact h.low z hz k (by rw [e1]; exact hk)
/-- The blocks of one node are written anew. -/
theorem OwnL.inner {w w' : World} {lo hi : Nat} {v : Value} {M : List NodeU} (h : OwnL w lo hi v M) {i : Nat} (hi' : i < M.length) (y : NodeD) (hy : encU (y, M[i].2) = encU M[i])
    (hn : w'.ownsRow lo 3 1 M[i].2 y.b.length (y.b.map (Value.int .i64))) (hg : w.grownBy w' M[i].2.ownBlock) : OwnL w' lo hi v (M.set i (y, M[i].2)) := by
  have hO := Only.of_grown hg
  have hflat : (M.set i (y, M[i].2)).flatMap encU = M.flatMap encU := by
    have := flat_set encU_len M i hi' 4 (y, M[i].2) M[i].2 (by omega) (by rw [hy]; rfl)
    rw [← this]
    apply List.ext_getElem?
    intro q
    by_cases e : i * 5 + 4 = q
    · subst e
      rw [List.getElem?_set_self (by rw [flat_len_c encU_len]; omega), (uCells hi').2.2.2.2]
    · rw [List.getElem?_set_ne e]
  refine ⟨?_, ?_, ?_, h.top, ?_⟩
  · rw [hflat, List.length_set]
    exact own_only h.row hO (fun k hk e => own_apart h.row (h.inn _ (List.getElem_mem hi')) (by decide) k hk e)
  · intro x hx
    obtain ⟨q, hq, rfl⟩ := List.getElem_of_mem hx
    have hq' : q < M.length := by simpa using hq
    by_cases e : i = q
    · subst e
      rw [List.getElem_set_self]
      exact hn
    · rw [List.getElem_set_ne e]
      refine own_only (h.inn _ (List.getElem_mem hq')) hO (fun k hk e2 => ?_)
      have hp := List.pairwise_iff_getElem.1 h.apart
      rcases Nat.lt_or_gt_of_ne e with h1 | h1
      · exact hp i q hi' hq' h1 k e2 hk
      · exact hp q i hq' hi' h1 k hk e2
  · have hp : (M.set i (y, M[i].2)).map (·.2) = M.map (·.2) := by
      apply List.ext_getElem
      · simp
      · intro q h1 h2
        simp only [List.getElem_map, List.getElem_set]
        split
        · subst_vars; rfl
        · rfl
    exact apart_map hp h.apart
  · intro x hx k hk
    rcases List.mem_or_eq_of_mem_set hx with hx | rfl
    · exact h.low x hx k hk
    · exact h.low _ (List.getElem_mem hi') k hk
end Go.Proofs.Ytioecnfgliponaa
