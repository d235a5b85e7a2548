/-
  Own text, plain: decimal digits, rows of texts, the marks that the laws lay into them.
-/
import Derived.Test.YtmnngfaelanbcaaBase
import Derived.Laws.IdiomStrings
namespace Go.Proofs.Ytmnngfaelanbcaa
open Go.RowKit

def dec : Nat → Nat → List UInt8
  | 0, _ => []
  | f + 1, k => if k = 0 then [] else dec f (k / 10) ++ [UInt8.ofNat (48 + k % 10)]
theorem dec_len (f k : Nat) : (dec f k).length ≤ f := by
  induction f generalizing k with
  | zero => simp [dec]
  | succ f ih =>
    unfold dec; split
    · simp
    · have := ih (k / 10); simp; omega
theorem dec_zero (f : Nat) : dec f 0 = [] := by cases f <;> simp [dec]
theorem dec_succ (f k : Nat) (h : 0 < k) : dec (f + 1) k = dec f (k / 10) ++ [UInt8.ofNat (48 + k % 10)] := by
  rw [dec, if_neg (by omega)]

/-- What a loop that writes digits has done so far: m is left, l is written. -/
def DecPart (K m : Nat) (l : List UInt8) : Prop := ∃ f, m < 10 ^ f ∧ dec f m ++ l = dec 20 K
theorem DecPart.start (K : Nat) (h : K < 10 ^ 20) : DecPart K K [] := ⟨20, h, by simp⟩
theorem DecPart.len {K m : Nat} {l : List UInt8} (h : DecPart K m l) : l.length ≤ 20 := by
  obtain ⟨f, _, h⟩ := h
  have := dec_len 20 K; rw [← h] at this; simp at this; omega
theorem DecPart.step {K m : Nat} {l : List UInt8} (h : DecPart K m l) (hm : 0 < m) : DecPart K (m / 10) (UInt8.ofNat (48 + m % 10) :: l) := by
  obtain ⟨f, hf, h⟩ := h
  cases f with
  | zero => simp at hf; omega
  | succ f =>
    refine ⟨f, by rw [Nat.pow_succ] at hf; omega, ?_⟩
    rw [dec_succ f m hm] at h
    rw [← h]; simp
theorem DecPart.last {K : Nat} {l : List UInt8} (h : DecPart K 0 l) : l = dec 20 K := by
  obtain ⟨f, _, h⟩ := h
  rw [dec_zero] at h; simpa using h

/-- The k-th mark. -/
def markS (k : Nat) : ByteArray := ⟨(109 :: (if k = 0 then [48] else dec 20 k)).toArray⟩
theorem markS_size (k : Nat) : (markS k).size ≤ 21 := by
  have := dec_len 20 k
  unfold markS; split <;> simp [ByteArray.size]; omega

def marksS (k n : Nat) : List ByteArray := (List.range n).map fun i => markS (k + i)
def markToS (l : List ByteArray) (k i : Nat) : List ByteArray := marksS k i ++ l.drop i
theorem marksS_len (k n : Nat) : (marksS k n).length = n := by simp [marksS]
theorem markToS_zero (l : List ByteArray) (k : Nat) : markToS l k 0 = l := by simp [markToS, marksS]
theorem markToS_all (l : List ByteArray) (k : Nat) : markToS l k l.length = marksS k l.length := by simp [markToS]
theorem markToS_len (l : List ByteArray) (k i : Nat) (h : i ≤ l.length) : (markToS l k i).length = l.length := by simp [markToS, marksS_len]; omega
theorem markToS_set (l : List ByteArray) (k i : Nat) (h : i < l.length) : (markToS l k i).set i (markS (k + i)) = markToS l k (i + 1) := by
  unfold markToS
  rw [List.set_append_right _ _ (by rw [marksS_len]; exact Nat.le_refl _), marksS_len, Nat.sub_self]
  have e : marksS k (i + 1) = marksS k i ++ [markS (k + i)] := by unfold marksS; rw [List.range_succ, List.map_append]; rfl
  rw [e, List.append_assoc, List.drop_eq_getElem_cons h]; rfl
theorem marksS_at (k n i : Nat) (h : i < n) : (marksS k n)[i]? = some (markS (k + i)) := by simp [marksS, h]

/-- The texts l lie from the address a on. -/
def RdS (w : World) (a : Option Addr) (l : List ByteArray) : Prop :=
  l = [] ∨ ∃ b off, a = some ⟨b, off, none⟩ ∧ b < w.heap.size ∧ ∀ i (h : i < l.length), w.cell? ⟨b, off + i, none⟩ = some (.string l[i])
theorem RdS.below {B : Nat} {w w' : World} {a : Option Addr} {l : List ByteArray} (h : RdS w a l) (hb : Below B w w') (hB : w.heap.size ≤ B) : RdS w' a l := by
  rcases h with h | ⟨b, off, ha, hlt, hc⟩
  · exact .inl h
  · exact .inr ⟨b, off, ha, by have := hb.size; omega, fun i hi => (hb.cell (by exact Nat.lt_of_lt_of_le hlt hB)).trans (hc i hi)⟩
theorem own_rdS {w : World} {base : Nat} {e : TypeId} {v : Value} {n : Nat} {l : List ByteArray} (h : w.ownsRow base e 1 v n (l.map Value.string)) :
    ∃ a cap, v = .slice a l.length cap ∧ n = l.length ∧ RdS w a l := by
  have hl : l.length = n := by have := h.1; simpa using this
  rcases h.2 with ⟨rfl, h0⟩ | ⟨g, cap, cur, rfl, _⟩
  · subst h0
    obtain rfl : l = [] := List.eq_nil_of_length_eq_zero hl
    exact ⟨none, 0, rfl, rfl, .inl rfl⟩
  · subst hl
    refine ⟨some ⟨g, 0, none⟩, cap, rfl, rfl, .inr ⟨g, 0, rfl, (h.lt g rfl).2, fun i hi => ?_⟩⟩
    rw [Nat.zero_add, h.cellAt i (by omega)]
    simp [hi]
end Go.Proofs.Ytmnngfaelanbcaa
