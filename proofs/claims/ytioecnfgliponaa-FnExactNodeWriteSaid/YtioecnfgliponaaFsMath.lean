/-
  Own text, plain: branches: which are right, what their blocks are, which branch some blocks tell.
-/
import Derived.Test.YtioecnfgliponaaNodeMath
namespace Go.Proofs.Ytioecnfgliponaa
open Go.RowKit

structure FsD where
  ns : List NodeD
  ds : List ByteArray
/-- All the blocks that nodes have, in order. -/
def allB (l : List NodeD) : List Int := l.flatMap (·.b)
theorem allB_app (l : List NodeD) (n : NodeD) : allB (l ++ [n]) = allB l ++ n.b := by simp [allB]
theorem allB_take {l : List NodeD} {k : Nat} (h : k < l.length) : allB (l.take (k + 1)) = allB (l.take k) ++ (l[k]).b := by
  rw [List.take_succ_eq_append_getElem h, allB_app]
def longB (s : Int) (k : Nat) : Int := if s - 16 * (k : Int) ≤ 16 then s - 16 * (k : Int) else 16
/-- Each of these blocks is there, with as many bytes as is left over for it. -/
def HoldTo (ds : List ByteArray) (s : Int) (b : List Int) (m : Nat) : Prop := ∀ j x, j < m → b[j]? = some x → 0 ≤ x ∧ ∃ d, ds[x.toNat]? = some d ∧ ((d.size : Nat) : Int) = longB s j
def HoldP (ds : List ByteArray) (n : NodeD) : Prop := HoldTo ds n.s n.b n.b.length
def CountP (F : FsD) : Prop := 2 ≤ F.ns.length ∧ F.ns.length ≤ 10 ∧ 1 ≤ F.ds.length ∧ F.ds.length ≤ 36
def RootP (F : FsD) : Prop := ∃ n, F.ns[0]? = some n ∧ n.k = 2
def ShapeP (F : FsD) : Prop :=
  CountP F ∧ RootP F ∧ (∀ n ∈ F.ns, NodP n) ∧ (allB F.ns).Nodup ∧ (∀ n ∈ F.ns, HoldP F.ds n) ∧ ∀ (k : Nat) (d : ByteArray), F.ds[k]? = some d → (k : Int) ∉ allB F.ns → d.size = 0
noncomputable def shOk (F : FsD) : Bool := @decide (ShapeP F) (Classical.propDecidable _)
theorem shOk_yes {F : FsD} (h : ShapeP F) : shOk F = true := by unfold shOk; exact @decide_eq_true _ (Classical.propDecidable _) h
theorem shOk_no {F : FsD} (h : ¬ ShapeP F) : shOk F = false := by unfold shOk; exact @decide_eq_false _ (Classical.propDecidable _) h
theorem shOk_iff {F : FsD} : shOk F = true ↔ ShapeP F := ⟨fun h => Classical.byContradiction fun h' => absurd ((shOk_no h').symm.trans h) (by decide), shOk_yes⟩
theorem shOk_of {F : FsD} {q : Bool} (h : q = true ↔ ShapeP F) : shOk F = q := by
  cases q
  · exact shOk_no fun h' => by have := h.2 h'; cases this
  · exact shOk_yes (h.1 rfl)

theorem NodP.blk {n : NodeD} (h : NodP n) : ∀ x ∈ n.b, 0 ≤ x ∧ x ≤ 35 := by
  rcases h with rfl | ⟨_, _, h⟩
  · simp [zeroN]
  · exact h.1
theorem NodP.nodup {n : NodeD} (h : NodP n) : n.b.Nodup := by
  rcases h with rfl | ⟨_, _, h⟩
  · simp [zeroN]
  · rw [List.nodup_iff_pairwise_ne, List.pairwise_iff_getElem]
    exact fun i j hi hj hij => h.2 i j hi hj hij
theorem NodP.size {n : NodeD} (h : NodP n) : 0 ≤ n.s ∧ n.s ≤ 80 ∧ (n.b.length : Int) = blksFor n.s := by
  rcases h with rfl | ⟨h, _⟩
  · simp [zeroN, blksFor]
  · unfold NumP at h; omega
/-- No block of a right node is empty. -/
theorem long_pos {n : NodeD} (h : NodP n) {j : Nat} (hj : j < n.b.length) : 1 ≤ longB n.s j ∧ longB n.s j ≤ 16 := by
  have h1 := h.size
  have h2 : ((j : Nat) : Int) < blksFor n.s := by omega
  unfold blksFor at h2
  unfold longB
  split at h2
  · omega
  · split at h2
    · split <;> omega
    · split <;> omega
theorem mem_allB {l : List NodeD} {x : Int} : x ∈ allB l ↔ ∃ n ∈ l, x ∈ n.b := by simp [allB]
theorem all_blk {l : List NodeD} (h : ∀ n ∈ l, NodP n) : ∀ x ∈ allB l, 0 ≤ x ∧ x ≤ 35 := by
  intro x hx
  obtain ⟨n, hn, hx⟩ := mem_allB.1 hx
  exact (h n hn).blk x hx
theorem hold_mem {ds : List ByteArray} {n : NodeD} (hp : NodP n) (h : HoldP ds n) {x : Int} (hx : x ∈ n.b) : 0 ≤ x ∧ ∃ d, ds[x.toNat]? = some d ∧ d.size ≠ 0 ∧ d.size ≤ 16 := by
  obtain ⟨j, hj, rfl⟩ := List.getElem_of_mem hx
  obtain ⟨h0, d, hd, hs⟩ := h j _ hj (List.getElem?_eq_getElem hj)
  have := long_pos hp hj
  exact ⟨h0, d, hd, by omega, by omega⟩
/-- Each block of a right branch has 16 bytes at most. -/
theorem ShapeP.small {F : FsD} (h : ShapeP F) : ∀ d ∈ F.ds, d.size ≤ 16 := by
  intro d hd
  obtain ⟨k, hk, rfl⟩ := List.getElem_of_mem hd
  obtain ⟨_, _, h1, _, h2, h3⟩ := h
  by_cases hm : (k : Int) ∈ allB F.ns
  · obtain ⟨n, hn, hx⟩ := mem_allB.1 hm
    obtain ⟨_, d, hd, _, hs⟩ := hold_mem (h1 n hn) (h2 n hn) hx
    rw [Int.toNat_natCast, List.getElem?_eq_getElem hk] at hd
    injection hd with hd
    rw [hd]; exact hs
  · have := h3 k _ (List.getElem?_eq_getElem hk) hm
    omega
/-- A block is a node's just where it is not empty. -/
theorem ShapeP.filled {F : FsD} (h : ShapeP F) {k : Nat} {d : ByteArray} (hd : F.ds[k]? = some d) : (k : Int) ∈ allB F.ns ↔ d.size ≠ 0 := by
  obtain ⟨_, _, h1, _, h2, h3⟩ := h
  constructor
  · intro hm
    obtain ⟨n, hn, hx⟩ := mem_allB.1 hm
    obtain ⟨_, d', hd', hs, _⟩ := hold_mem (h1 n hn) (h2 n hn) hx
    rw [Int.toNat_natCast, hd] at hd'
    injection hd' with hd'
    rw [hd']; exact hs
  · intro hs
    exact Classical.byContradiction fun hm => hs (h3 k d hd hm)
theorem ShapeP.there {F : FsD} (h : ShapeP F) : ∀ x ∈ allB F.ns, 0 ≤ x ∧ x.toNat < F.ds.length := by
  intro x hx
  obtain ⟨n, hn, hx⟩ := mem_allB.1 hx
  obtain ⟨h0, d, hd, _⟩ := hold_mem (h.2.2.1 n hn) (h.2.2.2.2.1 n hn) hx
  exact ⟨h0, (List.getElem?_eq_some_iff.1 hd).1⟩

/-! ### How often each block is had -/
def outP (m : Nat) (x : Int) : Bool := !(decide (0 ≤ x) && decide (x < (m : Int)))
def usedL (m : Nat) (L : List Int) : List Int := (List.range m).map (fun (k : Nat) => ((L.count (k : Int) : Nat) : Int)) ++ [((L.countP (outP m) : Nat) : Int)]
theorem usedL_len (m : Nat) (L : List Int) : (usedL m L).length = m + 1 := by simp [usedL]
theorem usedL_at {m : Nat} (L : List Int) {k : Nat} (h : k < m) : (usedL m L)[k]? = some (L.count (k : Int) : Int) := by
  unfold usedL
  rw [List.getElem?_append_left (by simpa using h)]
  simp [h]
theorem usedL_end (m : Nat) (L : List Int) : (usedL m L)[m]? = some ((L.countP (outP m) : Nat) : Int) := by
  unfold usedL
  rw [List.getElem?_append_right (by simp)]
  simp
theorem usedL_nil (m : Nat) : usedL m [] = List.replicate (m + 1) 0 := by
  apply List.ext_getElem?
  intro k
  by_cases h : k < m
  · rw [usedL_at _ h]; simp [show k < m + 1 by omega]
  · by_cases h2 : k = m
    · subst h2; rw [usedL_end]; simp
    · rw [List.getElem?_eq_none (by rw [usedL_len]; omega), List.getElem?_eq_none (by simp; omega)]
theorem usedL_in {m : Nat} (L : List Int) {x : Int} (h0 : 0 ≤ x) (h1 : x < m) : (usedL m L).set x.toNat ((L.count x : Int) + 1) = usedL m (L ++ [x]) := by
  apply List.ext_getElem?
  intro k
  by_cases h : k < m
  · rw [usedL_at _ h, List.getElem?_set]
    by_cases e : x.toNat = k
    · subst e
      rw [if_pos rfl, if_pos (by rw [usedL_len]; omega)]
      rw [Int.toNat_of_nonneg h0]
      simp [List.count_append]
    · rw [if_neg e, usedL_at _ h]
      have : ¬ x = (k : Int) := by omega
      simp [List.count_append, this]
  · rw [List.getElem?_set_ne (by omega)]
    by_cases h2 : k = m
    · subst h2; rw [usedL_end, usedL_end]
      have : outP k x = false := by unfold outP; simp [h0, h1]
      rw [List.countP_append, List.countP_cons, this]
      simp
    · rw [List.getElem?_eq_none (by rw [usedL_len]; omega), List.getElem?_eq_none (by rw [usedL_len]; omega)]
theorem usedL_out {m : Nat} (L : List Int) {x : Int} (h : ¬ (0 ≤ x ∧ x < m)) : (usedL m L).set m (((L.countP (outP m) : Nat) : Int) + 1) = usedL m (L ++ [x]) := by
  apply List.ext_getElem?
  intro k
  by_cases hk : k < m
  · rw [usedL_at _ hk, List.getElem?_set_ne (by omega), usedL_at _ hk]
    have : ¬ x = (k : Int) := by omega
    simp [List.count_append, this]
  · by_cases h2 : k = m
    · subst h2
      rw [usedL_end, List.getElem?_set_self (by rw [usedL_len]; omega)]
      have hp : outP k x = true := by
        unfold outP
        rw [Bool.not_eq_true', Bool.and_eq_false_iff]
        by_cases h9 : 0 ≤ x
        · right; exact decide_eq_false fun h8 => h ⟨h9, h8⟩
        · left; exact decide_eq_false h9
      rw [List.countP_append, List.countP_cons, if_pos hp]
      simp
    · rw [List.getElem?_eq_none (by simp [usedL_len]; omega), List.getElem?_eq_none (by rw [usedL_len]; omega)]
theorem count_le (L : List Int) (x : Int) : L.count x ≤ L.length := List.count_le_length

/-! ### Blocks as bits -/
def memB (L : List Int) (k : Nat) : Nat := if (k : Int) ∈ L then 1 else 0
theorem memB_le (L : List Int) (k : Nat) : memB L k ≤ 1 := by unfold memB; split <;> omega
theorem memB_yes {L : List Int} {k : Nat} : memB L k = 1 ↔ (k : Int) ∈ L := by unfold memB; split <;> simp_all
theorem memB_no {L : List Int} {k : Nat} : memB L k = 0 ↔ (k : Int) ∉ L := by unfold memB; split <;> simp_all
def byteAt (L : List Int) (q : Nat) : Nat := memB L (8 * q) + 2 * memB L (8 * q + 1) + 4 * memB L (8 * q + 2) + 8 * memB L (8 * q + 3) + 16 * memB L (8 * q + 4) + 32 * memB L (8 * q + 5) + 64 * memB L (8 * q + 6) + 128 * memB L (8 * q + 7)
theorem byteAt_lt (L : List Int) (q : Nat) : byteAt L q < 256 := by
  unfold byteAt
  have h0 := memB_le L (8 * q); have h1 := memB_le L (8 * q + 1); have h2 := memB_le L (8 * q + 2); have h3 := memB_le L (8 * q + 3)
  have h4 := memB_le L (8 * q + 4); have h5 := memB_le L (8 * q + 5); have h6 := memB_le L (8 * q + 6); have h7 := memB_le L (8 * q + 7)
  omega
theorem byteAt_bit (L : List Int) (q r : Nat) (hr : r < 8) : byteAt L q / 2 ^ r % 2 = memB L (8 * q + r) := by
  unfold byteAt
  have h0 := memB_le L (8 * q); have h1 := memB_le L (8 * q + 1); have h2 := memB_le L (8 * q + 2); have h3 := memB_le L (8 * q + 3)
  have h4 := memB_le L (8 * q + 4); have h5 := memB_le L (8 * q + 5); have h6 := memB_le L (8 * q + 6); have h7 := memB_le L (8 * q + 7)
  match r, hr with
  | 0, _ => simp; omega
  | 1, _ => simp; omega
  | 2, _ => simp; omega
  | 3, _ => simp; omega
  | 4, _ => simp; omega
  | 5, _ => simp; omega
  | 6, _ => simp; omega
  | 7, _ => simp; omega
theorem byteAt_add (L : List Int) (q r : Nat) (hr : r < 8) (h : (((8 * q + r : Nat) : Int)) ∉ L) : byteAt (L ++ [((8 * q + r : Nat) : Int)]) q = byteAt L q + 2 ^ r := by
  have e : ∀ j, j < 8 → memB (L ++ [((8 * q + r : Nat) : Int)]) (8 * q + j) = if j = r then 1 else memB L (8 * q + j) := by
    intro j _
    by_cases hj : j = r
    · subst hj; rw [if_pos rfl]; exact memB_yes.2 (by simp)
    · rw [if_neg hj]
      unfold memB
      have : ¬ ((8 * q + j : Nat) : Int) = ((8 * q + r : Nat) : Int) := by omega
      simp only [List.mem_append, List.mem_singleton, this, or_false]
  have h9 : memB L (8 * q + r) = 0 := memB_no.2 h
  have e0 := e 0 (by omega); have e1 := e 1 (by omega); have e2 := e 2 (by omega); have e3 := e 3 (by omega)
  have e4 := e 4 (by omega); have e5 := e 5 (by omega); have e6 := e 6 (by omega); have e7 := e 7 (by omega)
  rw [Nat.add_zero] at e0
  unfold byteAt
  rw [e0, e1, e2, e3, e4, e5, e6, e7]
  match r, hr with
  | 0, _ => simp at h9 ⊢; omega
  | 1, _ => simp at h9 ⊢; omega
  | 2, _ => simp at h9 ⊢; omega
  | 3, _ => simp at h9 ⊢; omega
  | 4, _ => simp at h9 ⊢; omega
  | 5, _ => simp at h9 ⊢; omega
  | 6, _ => simp at h9 ⊢; omega
  | 7, _ => simp at h9 ⊢; omega
theorem byteAt_same {L M : List Int} {q : Nat} (h : ∀ k, 8 * q ≤ k → k < 8 * q + 8 → ((k : Int) ∈ L ↔ (k : Int) ∈ M)) : byteAt L q = byteAt M q := by
  have e : ∀ j, j < 8 → memB L (8 * q + j) = memB M (8 * q + j) := by
    intro j hj
    unfold memB
    simp only [h (8 * q + j) (by omega) (by omega)]
  have e0 := e 0 (by omega)
  rw [Nat.add_zero] at e0
  unfold byteAt
  rw [e0, e 1 (by omega), e 2 (by omega), e 3 (by omega), e 4 (by omega), e 5 (by omega), e 6 (by omega), e 7 (by omega)]
theorem byteAt_mem {L M : List Int} {q : Nat} (h : byteAt L q = byteAt M q) : ∀ k, 8 * q ≤ k → k < 8 * q + 8 → ((k : Int) ∈ L ↔ (k : Int) ∈ M) := by
  intro k h1 h2
  have e1 := byteAt_bit L q (k - 8 * q) (by omega)
  have e2 := byteAt_bit M q (k - 8 * q) (by omega)
  rw [h, e2, show 8 * q + (k - 8 * q) = k by omega] at e1
  rw [← memB_yes, ← memB_yes, e1]
theorem byteAt_other (L : List Int) {q k : Nat} (h : k / 8 ≠ q) : byteAt (L ++ [(k : Int)]) q = byteAt L q := by
  refine byteAt_same fun j h1 h2 => ?_
  have : ¬ (j : Int) = (k : Int) := by omega
  simp [this]
/-- The bytes of so many blocks. -/
def bitsB (L : List Int) (m : Nat) : List Int := (List.range m).map fun q => (byteAt L q : Int)
theorem bitsB_len (L : List Int) (m : Nat) : (bitsB L m).length = m := by simp [bitsB]
theorem bitsB_at (L : List Int) {m q : Nat} (h : q < m) : (bitsB L m)[q]? = some (byteAt L q : Int) := by simp [bitsB, h]
theorem bitsB_u8 (L : List Int) (m : Nat) : U8 (bitsB L m) := by
  intro x hx
  simp only [bitsB, List.mem_map, List.mem_range] at hx
  obtain ⟨q, _, rfl⟩ := hx
  have := byteAt_lt L q
  omega
theorem bitsB_nil (m : Nat) : bitsB [] m = List.replicate m 0 := by
  apply List.ext_getElem?
  intro k
  by_cases h : k < m
  · rw [bitsB_at _ h]; simp [h, byteAt, memB]
  · rw [List.getElem?_eq_none (by rw [bitsB_len]; omega), List.getElem?_eq_none (by simp; omega)]
theorem bitsB_add (L : List Int) {m k : Nat} (hk : k / 8 < m) (h : (k : Int) ∉ L) : (bitsB L m).set (k / 8) ((byteAt L (k / 8) + 2 ^ (k % 8) : Nat) : Int) = bitsB (L ++ [(k : Int)]) m := by
  apply List.ext_getElem?
  intro q
  by_cases hq : q < m
  · rw [bitsB_at _ hq, List.getElem?_set]
    by_cases e : k / 8 = q
    · rw [if_pos e, if_pos (by rw [bitsB_len]; omega)]
      have h2 : k = 8 * (k / 8) + k % 8 := by omega
      have h3 := byteAt_add L (k / 8) (k % 8) (by omega) (by rw [← h2]; exact h)
      rw [← h2] at h3
      rw [← e, h3]
    · rw [if_neg e, bitsB_at _ hq, byteAt_other L e]
  · rw [List.getElem?_eq_none (by rw [List.length_set, bitsB_len]; omega), List.getElem?_eq_none (by rw [bitsB_len]; omega)]
theorem bitsB_same {L M : List Int} {m : Nat} : bitsB L m = bitsB M m ↔ ∀ k, k < 8 * m → ((k : Int) ∈ L ↔ (k : Int) ∈ M) := by
  constructor
  · intro h k hk
    have h1 := bitsB_at L (m := m) (q := k / 8) (by omega)
    have h2 := bitsB_at M (m := m) (q := k / 8) (by omega)
    rw [h, h2] at h1
    injection h1 with h1
    exact byteAt_mem (q := k / 8) (by omega) k (by omega) (by omega)
  · intro h
    apply List.ext_getElem?
    intro q
    by_cases hq : q < m
    · rw [bitsB_at _ hq, bitsB_at _ hq, byteAt_same (L := L) (M := M) fun k h1 h2 => h k (by omega)]
    · rw [List.getElem?_eq_none (by rw [bitsB_len]; omega), List.getElem?_eq_none (by rw [bitsB_len]; omega)]
/-- The places of texts that are not empty. -/
def fillL : List ByteArray → Nat → List Int
  | _, 0 => []
  | ds, k + 1 => fillL ds k ++ (if (ds[k]?.map (·.size)).getD 0 = 0 then [] else [(k : Int)])
theorem fillL_mem (ds : List ByteArray) (m : Nat) (x : Int) : x ∈ fillL ds m ↔ ∃ k : Nat, x = k ∧ k < m ∧ ∃ d, ds[k]? = some d ∧ d.size ≠ 0 := by
  induction m with
  | zero => simp [fillL]
  | succ m ih =>
    unfold fillL
    rw [List.mem_append, ih]
    constructor
    · rintro (⟨k, h1, h2, h3⟩ | h)
      · exact ⟨k, h1, by omega, h3⟩
      · split at h
        · simp at h
        · simp at h
          rename_i h5
          cases hd : ds[m]? with
          | none => simp [hd] at h5
          | some d => rw [hd] at h5; exact ⟨m, h, by omega, d, hd, h5⟩
    · rintro ⟨k, h1, h2, d, h3, h4⟩
      by_cases e : k = m
      · right
        subst e
        rw [h3]
        simp [h4, h1]
      · left; exact ⟨k, h1, by omega, d, h3, h4⟩
/-- What the program asks at the end: the blocks that nodes have are those that are filled. -/
theorem shape_bits {F : FsD} (hc : CountP F) (hr : RootP F) (h1 : ∀ n ∈ F.ns, NodP n) (h2 : (allB F.ns).Nodup) (h3 : ∀ n ∈ F.ns, HoldP F.ds n) : bitsB (allB F.ns) 5 = bitsB (fillL F.ds F.ds.length) 5 ↔ ShapeP F := by
  rw [bitsB_same]
  constructor
  · intro h
    refine ⟨hc, hr, h1, h2, h3, fun k d hd hm => ?_⟩
    have hk := (List.getElem?_eq_some_iff.1 hd).1
    have := h k (by unfold CountP at hc; omega)
    refine Classical.byContradiction fun hs => hm (this.2 ((fillL_mem _ _ _).2 ⟨k, rfl, hk, d, hd, hs⟩))
  · intro h k _
    constructor
    · intro hm
      have hk := (h.there _ hm).2
      rw [Int.toNat_natCast] at hk
      exact (fillL_mem _ _ _).2 ⟨k, rfl, hk, _, List.getElem?_eq_getElem hk, (h.filled (List.getElem?_eq_getElem hk)).1 hm⟩
    · intro hm
      obtain ⟨j, hj, _, d, hd, hs⟩ := (fillL_mem _ _ _).1 hm
      obtain rfl : k = j := by omega
      exact (h.filled hd).2 hs
theorem shape_fill {F : FsD} (h : ShapeP F) (m : Nat) (hm : m ≤ 5) : bitsB (allB F.ns) m = bitsB (fillL F.ds F.ds.length) m := by
  have := (shape_bits h.1 h.2.1 h.2.2.1 h.2.2.2.1 h.2.2.2.2.1).2 h
  rw [bitsB_same] at this ⊢
  exact fun k hk => this k (by omega)

/-! ### The blocks of a branch -/
def fsHead (F : FsD) : List Int := [66, 65, 83, 78] ++ (putNum F.ns.length ++ putNum F.ds.length)
noncomputable def fsBl (F : FsD) : List ByteArray := if shOk F = true then baOf (fsHead F) :: baOf (bitsB (allB F.ns) ((F.ds.length + 7) / 8)) :: (F.ns.map ndText ++ F.ds) else []
theorem fsBl_len {F : FsD} (h : ShapeP F) : (fsBl F).length = 2 + F.ns.length + F.ds.length := by
  unfold fsBl; rw [if_pos (shOk_yes h)]; simp; omega
theorem fsBl_no {F : FsD} (h : shOk F = false) : fsBl F = [] := by unfold fsBl; rw [h]; rfl
noncomputable def diffL (x y : List ByteArray) : Nat → List (Int × ByteArray)
  | 0 => []
  | k + 1 => diffL x y k ++ (match x[k]?, y[k]? with
    | some a, some b => if a = b then [] else [((k : Int), b)]
    | _, _ => [])
noncomputable def diffF (A B : FsD) : List (Int × ByteArray) := if (fsBl A).length = (fsBl B).length then diffL (fsBl A) (fsBl B) (fsBl A).length else []
def freeL (ds : List ByteArray) : Nat → Nat
  | 0 => 0
  | k + 1 => freeL ds k + (if (ds[k]?.map (·.size)).getD 0 = 0 then 1 else 0)
def newF (n d : Nat) : FsD := ⟨List.replicate n zeroN |>.set 0 ⟨2, 0, 0, 0, []⟩, List.replicate d ⟨#[]⟩⟩
def zeroF : FsD := ⟨[], []⟩
end Go.Proofs.Ytioecnfgliponaa
