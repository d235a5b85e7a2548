/-
  Own text, plain: which node a text tells, by the numbers that it is made of.
-/
import Derived.Test.YtgndkdoefmjdhaaDoorNodeMath
import Derived.Test.YtgndkdoefmjdhaaDoorAtW

namespace Go.Proofs.YtgndkdoefmjdhaaDoor
open Go.RowKit

theorem good_bytes {b : List Int} (hu : U8 b) {p n next : Nat} (h : Good b (p : Int) n next) : b.drop p = putNum (n : Int) ++ b.drop next := by
  obtain ⟨p', k, hp, hs, h1, h2, h3, h4⟩ := h
  obtain rfl : p = p' := by omega
  have he := (good_iff hu hs).2 ⟨h1, by omega⟩
  rw [← h2] at he
  rw [he, h4]
  unfold cut
  rw [show b.drop (p + k + 1) = (b.drop p).drop (k + 1) by rw [List.drop_drop, Nat.add_assoc]]
  exact (List.take_append_drop _ _).symm
theorem ats_bytes {b : List Int} (hu : U8 b) : ∀ {xs : List Int} {p q : Nat}, AtsFrom b p xs q → b.drop p = xs.flatMap putNum ++ b.drop q
  | [], p, q, h => by cases h; simp
  | x :: xs, p, q, ⟨n, nx, hg, hx, hr⟩ => by
    rw [good_bytes hu hg, ats_bytes hu hr, hx]
    simp
/-- A text that begins with a kind that is not free, and goes on in numbers to its end. -/
theorem of_nums {b : List Int} (hu : U8 b) {n : NodeD} (hk : n.k ≠ 0) (h0 : 0 < b.length) (hb : b.getD 0 0 = n.k) (ha : AtsFrom b 1 (numsN n) b.length) (hn : NodP n) : OfP b n := by
  refine ⟨hn, ?_⟩
  have h1 := ats_bytes hu ha
  rw [List.drop_length, List.append_nil] at h1
  unfold ndB
  rw [if_neg hk]
  cases b with
  | nil => simp at h0
  | cons c b =>
    simp at hb h1
    rw [hb, h1]
theorem of_kind {b : List Int} {n : NodeD} (h : OfP b n) : 0 < b.length ∧ b.getD 0 0 = n.k ∧ (n.k = 0 → b.length = 1) ∧ (n.k ≠ 0 → AtsFrom b 1 (numsN n) b.length) := by
  obtain ⟨hn, rfl⟩ := h
  refine ⟨by have := ndB_len hn; omega, ?_, ?_, nums_from hn⟩
  · unfold ndB
    split
    · rename_i h; simp [h]
    · simp
  · intro h
    unfold ndB
    rw [if_pos h]
    rfl
theorem of_unique {b : List Int} {m n : NodeD} (h : OfP b m) (h' : OfP b n) : m = n := by
  obtain ⟨_, h2, h3, h4⟩ := of_kind h
  obtain ⟨_, h2', h3', h4'⟩ := of_kind h'
  have hk : m.k = n.k := by rw [← h2, ← h2']
  by_cases h0 : m.k = 0
  · rw [h.1.kind.2.2 h0, h'.1.kind.2.2 (by omega)]
  · have := (h4 h0).same (h4' (by omega))
    unfold numsN at this
    simp only [List.cons.injEq] at this
    exact NodeD.ext' hk this.1 this.2.1 this.2.2.1 this.2.2.2
open Classical in
noncomputable def ofO (s : ByteArray) : Option NodeD := if h : ∃ n, OfP (bytesOf s) n then some h.choose else none
theorem ofO_some {s : ByteArray} {n : NodeD} (h : OfP (bytesOf s) n) : ofO s = some n := by
  unfold ofO
  have h' : ∃ n, OfP (bytesOf s) n := ⟨n, h⟩
  rw [dif_pos h']
  exact congrArg some (of_unique h'.choose_spec h)
theorem ofO_none {s : ByteArray} (h : ∀ n, ¬ OfP (bytesOf s) n) : ofO s = none := by
  unfold ofO
  rw [dif_neg (fun ⟨n, hn⟩ => h n hn)]
theorem ofO_spec {s : ByteArray} {n : NodeD} (h : ofO s = some n) : OfP (bytesOf s) n := by
  unfold ofO at h
  split at h
  · rename_i h'
    injection h with h
    rw [← h]
    exact h'.choose_spec
  · cases h
noncomputable def ofN (s : ByteArray) : NodeD := (ofO s).getD zeroN
noncomputable def ofOk (s : ByteArray) : Bool := (ofO s).isSome
theorem of_yes {s : ByteArray} {n : NodeD} (h : OfP (bytesOf s) n) : ofN s = n ∧ ofOk s = true := by
  unfold ofN ofOk
  rw [ofO_some h]
  exact ⟨rfl, rfl⟩
theorem of_no {s : ByteArray} (h : ∀ n, ¬ OfP (bytesOf s) n) : ofN s = zeroN ∧ ofOk s = false := by
  unfold ofN ofOk
  rw [ofO_none h]
  exact ⟨rfl, rfl⟩
theorem ofN_len (s : ByteArray) : (ofN s).b.length ≤ 5 := by
  unfold ofN
  cases h : ofO s with
  | none => simp [zeroN]
  | some n => exact (ofO_spec h).1.len
theorem baOf_bytes (s : ByteArray) : baOf (bytesOf s) = s := by
  unfold baOf bytesOf
  rw [List.map_map]
  have : ((fun x : Int => UInt8.ofNat x.toNat) ∘ fun b : UInt8 => (b.toNat : Int)) = id := by
    funext b
    simp
  first
    | (simp [this]; done)
    | (rw [this]; simp)
/-- A node is read from its text as it was. -/
theorem of_text {n : NodeD} (h : NodP n) : ofN (ndText n) = n ∧ ofOk (ndText n) = true := by
  refine of_yes ⟨h, ?_⟩
  unfold ndText
  rw [if_pos (ndOk_yes h), bytesOf_S (ndB_u8 h)]
/-- A text that is read is that node's text. -/
theorem text_of {s : ByteArray} (h : ofOk s = true) : ndText (ofN s) = s ∧ NodP (ofN s) := by
  unfold ofOk at h
  unfold ofN
  cases ho : ofO s with
  | none => rw [ho] at h; cases h
  | some n =>
    obtain ⟨h1, h2⟩ := ofO_spec ho
    refine ⟨?_, h1⟩
    show ndText n = s
    unfold ndText
    rw [if_pos (ndOk_yes h1), ← h2, baOf_bytes]
theorem of_empty : ofOk ⟨#[]⟩ = false := (of_no fun n h => by have := (of_kind h).1; simp [bytesOf] at this).2
/-- Texts that tell no node. -/
theorem no_kind {b : List Int} (h : b.length = 0) : ∀ n, ¬ OfP b n := fun n hn => by have := (of_kind hn).1; omega
theorem no_free {b : List Int} (h0 : b.getD 0 0 = 0) (h : b.length ≠ 1) : ∀ n, ¬ OfP b n := fun n hn => by
  obtain ⟨_, h2, h3, _⟩ := of_kind hn
  exact h (h3 (by omega))
theorem no_nums {b xs : List Int} {p : Nat} (hk : b.getD 0 0 ≠ 0) (hx : AtsFrom b 1 xs p) (hp : p < b.length) (h : ∀ m x, ¬ Good b (p : Int) m x) : ∀ n, ¬ OfP b n := fun n hn => by
  obtain ⟨_, h2, _, h4⟩ := of_kind hn
  have ha := h4 (by omega)
  obtain ⟨m, x, hg⟩ : ∃ m x, Good b (p : Int) m x := by
    clear hk h2 h4 hn h
    generalize numsN n = ys at ha
    generalize (1 : Nat) = a at hx ha
    induction xs generalizing a ys with
    | nil =>
      cases hx
      cases ys with
      | nil => cases ha; omega
      | cons y ys => obtain ⟨n, nx, hg, _⟩ := ha; exact ⟨n, nx, hg⟩
    | cons x xs ih =>
      obtain ⟨m, nx, hg, _, hr⟩ := hx
      cases ys with
      | nil =>
        cases ha
        have := hg.up
        have := hr.up
        omega
      | cons y ys =>
        obtain ⟨n, nx', hg', _, hr'⟩ := ha
        obtain ⟨rfl, rfl⟩ := hg.unique hg'
        exact ih ys _ hr hr'
  exact h m x hg
theorem no_other {b xs : List Int} (hx : AtsFrom b 1 xs b.length) (hk : b.getD 0 0 ≠ 0) (h : ∀ n : NodeD, n.k = b.getD 0 0 → numsN n = xs → ¬ NodP n) : ∀ n, ¬ OfP b n := fun n hn => by
  obtain ⟨_, h2, _, h4⟩ := of_kind hn
  exact h n h2.symm ((h4 (by omega)).same hx) hn.1
end Go.Proofs.YtgndkdoefmjdhaaDoor
