/-
  Own text, plain: which node is read from a text by its numbers alone, and which node the text tells.
-/
import Derived.Test.YtgndkdoefmjdhaaDoorOfMath
namespace Go.Proofs.YtgndkdoefmjdhaaDoor
open Go.RowKit

/-- By its numbers alone the text begins with this node. -/
def ReadP (b : List Int) (n : NodeD) : Prop :=
  ∃ at1 : Nat, Good b ((0 : Nat) : Int) n.k.toNat at1 ∧ 0 ≤ n.k ∧ (n.k = 0 → n = zeroN) ∧ (n.k ≠ 0 → (n.b.length : Int) = blksFor n.s ∧ ∃ p, AtsFrom b at1 (numsN n) p)
theorem AtsFrom.pre {b : List Int} : ∀ {xs ys : List Int} {a p q : Nat}, AtsFrom b a xs p → AtsFrom b a ys q → xs.length ≤ ys.length → xs = ys.take xs.length ∧ (xs.length < ys.length → ∃ m x, Good b (p : Int) m x)
  | [], ys, a, p, q, h, h', _ => by
    cases h
    refine ⟨by simp, fun hl => ?_⟩
    cases ys with
    | nil => simp at hl
    | cons y ys => obtain ⟨n, nx, hg, _⟩ := h'; exact ⟨n, nx, hg⟩
  | x :: xs, [], a, p, q, _, _, hl => by simp at hl
  | x :: xs, y :: ys, a, p, q, ⟨n, nx, hg, hx, hr⟩, ⟨n', nx', hg', hy, hr'⟩, hl => by
    obtain ⟨rfl, rfl⟩ := hg.unique hg'
    obtain ⟨h1, h2⟩ := hr.pre hr' (by simpa using hl)
    refine ⟨?_, fun hlt => h2 (by simpa using hlt)⟩
    rw [List.length_cons, List.take_succ_cons, ← h1, hx, hy]
theorem read_unique {b : List Int} {m n : NodeD} (h : ReadP b m) (h' : ReadP b n) : m = n := by
  obtain ⟨a1, g1, p1, z1, r1⟩ := h
  obtain ⟨a2, g2, p2, z2, r2⟩ := h'
  obtain ⟨hk, rfl⟩ := g1.unique g2
  have hkk : m.k = n.k := by omega
  by_cases h0 : m.k = 0
  · rw [z1 h0, z2 (by omega)]
  · obtain ⟨l1, q1, t1⟩ := r1 h0
    obtain ⟨l2, q2, t2⟩ := r2 (by omega)
    have hs : m.g = n.g ∧ m.t = n.t ∧ m.s = n.s := by
      rcases Nat.le_total (numsN m).length (numsN n).length with hl | hl
      · have := (t1.pre t2 hl).1
        unfold numsN at this
        simp at this
        exact ⟨this.1, this.2.1, this.2.2.1⟩
      · have := (t2.pre t1 hl).1
        unfold numsN at this
        simp at this
        exact ⟨this.1.symm, this.2.1.symm, this.2.2.1.symm⟩
    have hl : m.b.length = n.b.length := by rw [hs.2.2] at l1; omega
    have := (t1.unique t2 (by simp [numsN, hl])).1
    unfold numsN at this
    simp only [List.cons.injEq] at this
    exact NodeD.ext' hkk this.1 this.2.1 this.2.2.1 this.2.2.2
theorem of_read {b : List Int} {n : NodeD} (h : OfP b n) : ReadP b n := by
  have hk := h.1.kind
  obtain ⟨h1, h2, h3, h4⟩ := of_kind h
  refine ⟨1, ?_, hk.1, hk.2.2, fun h0 => ⟨?_, _, h4 h0⟩⟩
  · refine ⟨0, 0, rfl, ⟨by omega, by omega, by rw [Nat.add_zero, h2]; omega, fun j hj => by omega⟩, .inl rfl, ?_, by omega, rfl⟩
    simp only [valTo, Nat.add_zero, h2, Nat.pow_zero, Nat.mul_one, Nat.zero_add]
    omega
  · rcases h.1 with rfl | ⟨h5, _⟩
    · exact absurd rfl h0
    · exact h5.2.2.2.2.2.2.2.2
theorem no_read {b : List Int} (h : ∀ n, ¬ ReadP b n) : ∀ n, ¬ OfP b n := fun n hn => h n (of_read hn)
/-- What is read is what the text tells, or the text tells nothing. -/
theorem read_of {s : ByteArray} {n : NodeD} (h : ReadP (bytesOf s) n) : (ndText n = s → ofN s = n ∧ ofOk s = true) ∧ (ndText n ≠ s → ofN s = zeroN ∧ ofOk s = false) := by
  constructor
  · intro ht
    refine of_yes ?_
    unfold ndText at ht
    by_cases hn : ndOk n = true
    · rw [if_pos hn] at ht
      have hp := ndOk_iff.1 hn
      exact ⟨hp, by rw [← ht, bytesOf_S (ndB_u8 hp)]⟩
    · rw [if_neg hn] at ht
      exfalso
      obtain ⟨a1, g1, _⟩ := h
      rw [← ht] at g1
      obtain ⟨p, k, hp, ⟨_, h2, _⟩, _⟩ := g1
      simp [bytesOf] at h2
  · intro ht
    refine of_no fun m hm => ht ?_
    have := read_unique h (of_read hm)
    rw [this]
    obtain ⟨hp, hb⟩ := hm
    unfold ndText
    rw [if_pos (ndOk_yes hp), ← hb, baOf_bytes]
/-- A number lacks: nothing is read. -/
theorem lack0 {b : List Int} (h : ∀ m x, ¬ Good b ((0 : Nat) : Int) m x) : ∀ n, ¬ ReadP b n := fun _ ⟨_, g, _⟩ => h _ _ g
theorem lackN {b xs : List Int} {k at1 p : Nat} (hk : k ≠ 0) (hg : Good b ((0 : Nat) : Int) k at1) (hx : AtsFrom b at1 xs p) (hl : xs.length < 3 ∨ ∃ g t s ys, xs = g :: t :: s :: ys ∧ (ys.length : Int) < blksFor s) (h : ∀ m x, ¬ Good b (p : Int) m x) : ∀ n, ¬ ReadP b n := by
  rintro n ⟨a, g1, p1, z1, r1⟩
  obtain ⟨hkk, rfl⟩ := hg.unique g1
  have hn0 : n.k ≠ 0 := by clear hl; omega
  obtain ⟨l1, q1, t1⟩ := r1 hn0
  have hnl : (numsN n).length = n.b.length + 3 := by simp [numsN]
  have hlt : xs.length < (numsN n).length := by
    rcases hl with hl | ⟨g, t, s, ys, rfl, hy⟩
    · omega
    · rcases Nat.le_total (numsN n).length (g :: t :: s :: ys).length with hl | hl
      · have := (t1.pre hx hl).1
        unfold numsN at this
        simp at this
        rw [this.2.2.1] at l1
        simp only [List.length_cons] at hl ⊢
        omega
      · have := (hx.pre t1 hl).1
        unfold numsN at this
        simp at this
        rw [← this.2.2.1] at l1
        simp only [List.length_cons] at hl ⊢
        omega
  obtain ⟨m, x, hm⟩ := (hx.pre t1 (Nat.le_of_lt hlt)).2 hlt
  exact h m x hm
end Go.Proofs.YtgndkdoefmjdhaaDoor
