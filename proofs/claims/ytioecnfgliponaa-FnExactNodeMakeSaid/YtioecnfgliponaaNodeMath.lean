/-
  Own text, plain: nodes: which are right, what their texts are, which node a text tells.
-/
import Derived.Test.YtioecnfgliponaaJMath
namespace Go.Proofs.Ytioecnfgliponaa
open Go.RowKit

structure NodeD where
  k : Int
  g : Int
  t : Int
  s : Int
  b : List Int
@[ext] theorem NodeD.ext' {m n : NodeD} (h1 : m.k = n.k) (h2 : m.g = n.g) (h3 : m.t = n.t) (h4 : m.s = n.s) (h5 : m.b = n.b) : m = n := by
  cases m; cases n; simp_all
def blksFor (s : Int) : Int := if s ≤ 0 then 0 else if 80 ≤ s then 5 else (s + 15) / 16
theorem blks_le (s : Int) : 0 ≤ blksFor s ∧ blksFor s ≤ 5 := by
  unfold blksFor
  split
  · omega
  · split <;> omega
/-- The numbers of a node that is not free. -/
def NumP (n : NodeD) : Prop := 1 ≤ n.k ∧ n.k ≤ 3 ∧ 0 ≤ n.g ∧ n.g ≤ 1000000 ∧ 0 ≤ n.t ∧ n.t ≤ 100000 ∧ 0 ≤ n.s ∧ n.s ≤ 80 ∧ (n.b.length : Int) = blksFor n.s
def BlkP (b : List Int) : Prop := (∀ x ∈ b, 0 ≤ x ∧ x ≤ 35) ∧ ∀ i j (hi : i < b.length) (hj : j < b.length), i < j → b[i] ≠ b[j]
def zeroN : NodeD := ⟨0, 0, 0, 0, []⟩
def NodP (n : NodeD) : Prop := n = zeroN ∨ (NumP n ∧ (n.k = 2 → n.g = 0 ∧ n.t = 0) ∧ BlkP n.b)
noncomputable def ndOk (n : NodeD) : Bool := @decide (NodP n) (Classical.propDecidable _)
theorem ndOk_yes {n : NodeD} (h : NodP n) : ndOk n = true := by unfold ndOk; exact @decide_eq_true _ (Classical.propDecidable _) h
theorem ndOk_no {n : NodeD} (h : ¬ NodP n) : ndOk n = false := by unfold ndOk; exact @decide_eq_false _ (Classical.propDecidable _) h
theorem ndOk_iff {n : NodeD} : ndOk n = true ↔ NodP n := ⟨fun h => Classical.byContradiction fun h' => absurd ((ndOk_no h').symm.trans h) (by decide), ndOk_yes⟩
theorem NodP.len {n : NodeD} (h : NodP n) : n.b.length ≤ 5 := by
  rcases h with rfl | ⟨h, _⟩
  · simp [zeroN]
  · have h1 := h.2.2.2.2.2.2.2.2; have h2 := blks_le n.s; omega
theorem NodP.kind {n : NodeD} (h : NodP n) : 0 ≤ n.k ∧ n.k ≤ 3 ∧ (n.k = 0 → n = zeroN) := by
  rcases h with rfl | ⟨h, _⟩
  · simp [zeroN]
  · exact ⟨by have := h.1; omega, h.2.1, fun h0 => by have := h.1; omega⟩

/-- The bytes of a node: its kind, and the numbers of one that is not free. -/
def numsN (n : NodeD) : List Int := n.g :: n.t :: n.s :: n.b
def ndB (n : NodeD) : List Int := if n.k = 0 then [0] else n.k :: (numsN n).flatMap putNum
noncomputable def ndText (n : NodeD) : ByteArray := if ndOk n = true then baOf (ndB n) else ⟨#[]⟩
theorem numsN_fit {n : NodeD} (h : NodP n) : ∀ x ∈ numsN n, 0 ≤ x ∧ x ≤ 2147483647 := by
  intro x hx
  unfold numsN at hx
  rcases h with rfl | ⟨h, _, h3⟩
  · simp [zeroN] at hx; omega
  · obtain ⟨h1, h2, h4, h5, h6, h7, h8, h9, _⟩ := h
    simp only [List.mem_cons] at hx
    rcases hx with rfl | rfl | rfl | hx
    · omega
    · omega
    · omega
    · have := h3.1 x hx; omega
theorem ndB_u8 {n : NodeD} (h : NodP n) : U8 (ndB n) := by
  have hk := h.kind
  intro x hx
  unfold ndB at hx
  split at hx
  · simp at hx; omega
  · rcases List.mem_cons.1 hx with rfl | hx
    · omega
    · exact flatNum_u8 _ x hx
theorem ndB_len {n : NodeD} (h : NodP n) : 1 ≤ (ndB n).length ∧ (ndB n).length ≤ 41 := by
  unfold ndB
  split
  · simp
  · have h1 := h.len
    have h2 : ((numsN n).flatMap putNum).length ≤ (numsN n).length * 5 := by
      generalize numsN n = l
      induction l with
      | nil => simp
      | cons x l ih => simp only [List.flatMap_cons, List.length_append, List.length_cons]; have := putNum_len x; omega
    have h3 : (numsN n).length = n.b.length + 3 := by simp [numsN]
    simp only [List.length_cons]
    omega
/-- The text tells the node. -/
def OfP (b : List Int) (n : NodeD) : Prop := NodP n ∧ b = ndB n
theorem nums_from {n : NodeD} (h : NodP n) (hk : n.k ≠ 0) : AtsFrom (ndB n) 1 (numsN n) (ndB n).length := by
  have h1 := ats_mid [] (numsN n) [n.k] (numsN_fit h)
  unfold ndB
  rw [if_neg hk]
  simp only [List.append_nil, List.length_cons, List.length_nil, List.singleton_append] at h1
  rw [show (n.k :: (numsN n).flatMap putNum).length = 0 + 1 + ((numsN n).flatMap putNum).length by simp; omega]
  exact h1
theorem Good.up {l : List Int} {p n next : Nat} (h : Good l (p : Int) n next) : p < next := by
  obtain ⟨p', k, hp, _, _, _, _, h3⟩ := h
  omega
theorem AtsFrom.up {b : List Int} : ∀ {xs : List Int} {a p : Nat}, AtsFrom b a xs p → a + xs.length ≤ p
  | [], a, p, h => by cases h; simp
  | x :: xs, a, p, ⟨n, nx, hg, _, hr⟩ => by
    have h1 := hr.up
    have h2 := hg.up
    simp only [List.length_cons]
    omega
theorem AtsFrom.same {b : List Int} : ∀ {xs ys : List Int} {p q : Nat}, AtsFrom b p xs q → AtsFrom b p ys q → xs = ys
  | [], [], _, _, _, _ => rfl
  | [], y :: ys, p, q, h, ⟨n, nx, hg, _, hr⟩ => by
    cases h
    exfalso
    have h1 := hg.up
    have h2 := hr.up
    omega
  | x :: xs, [], p, q, ⟨n, nx, hg, _, hr⟩, h => by
    cases h
    exfalso
    have h1 := hg.up
    have h2 := hr.up
    omega
  | x :: xs, y :: ys, p, q, ⟨n, nx, hg, hx, hr⟩, ⟨n', nx', hg', hy, hr'⟩ => by
    obtain ⟨rfl, rfl⟩ := hg.unique hg'
    rw [hx, hy, hr.same hr']
end Go.Proofs.Ytioecnfgliponaa
