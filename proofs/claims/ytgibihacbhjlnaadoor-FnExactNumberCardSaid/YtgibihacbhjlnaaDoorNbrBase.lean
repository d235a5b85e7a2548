/-
  Own text, plain: which texts are numbers from 0 to 999999, as Digits writes them.
-/
import Derived.Test.YtgibihacbhjlnaaDoorDigW
import Derived.Lib.AtoiAll
namespace Go.Proofs.YtgibihacbhjlnaaDoor
open Go.RowKit

def val10 (l : List UInt8) : Nat := l.foldl (fun a c => a * 10 + (c.toNat - 48)) 0
def AllDig (l : List UInt8) : Prop := ∀ c ∈ l, 48 ≤ c.toNat ∧ c.toNat ≤ 57
theorem val10_snoc (l : List UInt8) (c : UInt8) : val10 (l ++ [c]) = val10 l * 10 + (c.toNat - 48) := by simp [val10, List.foldl_append]
theorem allDig_snoc {l : List UInt8} {c : UInt8} (h : AllDig l) (hc : 48 ≤ c.toNat ∧ c.toNat ≤ 57) : AllDig (l ++ [c]) := by
  intro x hx
  rcases List.mem_append.1 hx with h' | h'
  · exact h x h'
  · rw [List.mem_singleton.1 h']; exact hc
theorem decDigits_all (f : Nat) : ∀ u, u < 10 ^ f → AllDig (Lib.decDigits u) ∧ val10 (Lib.decDigits u) = u ∧ Lib.decDigits u ≠ [] := by
  induction f with
  | zero =>
    intro u hu
    obtain rfl : u = 0 := by simpa using hu
    rw [Lib.decDigits_one (by omega)]
    exact ⟨by intro c hc; rw [List.mem_singleton.1 hc]; decide, by decide, by simp⟩
  | succ f ih =>
    intro u hu
    by_cases h : u < 10
    · rw [Lib.decDigits_one h]
      have e : (UInt8.ofNat (48 + u)).toNat = 48 + u := by rw [UInt8.toNat_ofNat']; omega
      refine ⟨by intro c hc; rw [List.mem_singleton.1 hc, e]; omega, ?_, by simp⟩
      simp [val10]; omega
    · have e : (UInt8.ofNat (48 + u % 10)).toNat = 48 + u % 10 := by rw [UInt8.toNat_ofNat']; omega
      obtain ⟨h1, h2, _⟩ := ih (u / 10) (by rw [Nat.pow_succ] at hu; omega)
      rw [Lib.decDigits, dif_neg h]
      refine ⟨allDig_snoc h1 (by rw [e]; omega), ?_, by simp⟩
      rw [val10_snoc, h2, e]; omega
theorem decDigits_len (u : Nat) (h : u ≤ 999999) : (Lib.decDigits u).length ≤ 6 := by
  rcases Nat.eq_zero_or_pos u with rfl | h0
  · rw [Lib.decDigits_one (by omega)]; simp
  · rw [← dec_decDigits 6 u h0 (by omega)]; exact dec_len 6 u

/-- s is Digits of n, and n is from 0 to 999999. -/
def IsNum (s : ByteArray) (n : Nat) : Prop := s.data.toList = Lib.itoa (n : Int) ∧ n ≤ 999999
theorem itoa_dec (n : Nat) : Lib.itoa (n : Int) = Lib.decDigits n := by rw [Lib.itoa, if_neg (by omega)]; rfl
theorem IsNum.facts {s : ByteArray} {n : Nat} (h : IsNum s n) : AllDig s.data.toList ∧ val10 s.data.toList = n ∧ 1 ≤ s.size ∧ s.size ≤ 6 := by
  obtain ⟨h1, h2⟩ := h
  rw [itoa_dec] at h1
  obtain ⟨a1, a2, a3⟩ := decDigits_all 6 n (by omega)
  have a4 := decDigits_len n h2
  rw [← h1] at a1 a2 a3 a4
  have hs : s.data.toList.length = s.size := by simp
  refine ⟨a1, a2, ?_, by omega⟩
  rcases Nat.eq_zero_or_pos s.size with h0 | h0
  · exact absurd (List.eq_nil_of_length_eq_zero (by omega)) a3
  · exact h0
theorem IsNum.unique {s : ByteArray} {n m : Nat} (h : IsNum s n) (h' : IsNum s m) : n = m := by rw [← h.facts.2.1, ← h'.facts.2.1]

theorem val10_lt (l : List UInt8) (h : AllDig l) : val10 l < 10 ^ l.length := by
  suffices H : ∀ (l : List UInt8) (a b : Nat), AllDig l → a < b → l.foldl (fun a c => a * 10 + (c.toNat - 48)) a < b * 10 ^ l.length by
    have := H l 0 1 h (by omega); simpa [val10] using this
  intro l
  induction l with
  | nil => intro a b _ h; simpa using h
  | cons c r ih =>
    intro a b h hab
    have hc := h c (by simp)
    have := ih (a * 10 + (c.toNat - 48)) (b * 10) (fun x hx => h x (by simp [hx])) (by omega)
    simpa [Nat.pow_succ, Nat.mul_assoc, Nat.mul_comm, Nat.mul_left_comm] using this

theorem parse_dig : ∀ (l : List UInt8) (acc : Nat), AllDig l → (acc + 1) * 10 ^ l.length ≤ 1000000000000000000 → Lib.parseUint10 acc l = .ok (l.foldl (fun a c => a * 10 + (c.toNat - 48)) acc)
  | [], acc, _, _ => rfl
  | c :: r, acc, h, hb => by
    have hc := h c (by simp)
    have hp : 1 ≤ 10 ^ r.length := Nat.one_le_pow _ _ (by omega)
    have hb2 : (acc + 1) * 10 * 10 ^ r.length ≤ 1000000000000000000 := by
      simpa [Nat.pow_succ, Nat.mul_assoc, Nat.mul_comm, Nat.mul_left_comm] using hb
    have hsm : (acc + 1) * 10 ≤ 1000000000000000000 := Nat.le_trans (Nat.le_mul_of_pos_right _ hp) hb2
    have hnx : (acc * 10 + (c.toNat - 48) + 1) * 10 ^ r.length ≤ 1000000000000000000 :=
      Nat.le_trans (Nat.mul_le_mul_right _ (by omega)) hb2
    rw [Lib.parseUint10, if_pos hc, if_neg (by omega), if_neg (by omega), parse_dig r _ (fun x hx => h x (by simp [hx])) hnx]
    rfl

theorem IsNum.atoi {s : ByteArray} {n : Nat} (h : IsNum s n) : Lib.atoiAll s.data.toList = .ok (n : Int) := by
  obtain ⟨h1, h2, h3, h4⟩ := h.facts
  have hs : s.data.toList.length = s.size := by simp
  generalize s.data.toList = l at *
  cases l with
  | nil => simp at hs; omega
  | cons c r =>
    have hc := h1 c (by simp)
    have hv := val10_lt _ h1
    have hp : Lib.parseUint10 0 (c :: r) = .ok n := by
      rw [parse_dig _ 0 h1 ?_]
      · rw [← h2]; rfl
      · have : 10 ^ (c :: r).length ≤ 10 ^ 6 := Nat.pow_le_pow_right (by omega) (by omega)
        omega
    have hn := h.2
    have hm : Lib.parseMag (if c.toNat = 43 ∨ c.toNat = 45 then r else c :: r) = .ok n := by
      rw [if_neg (by omega), Lib.parseMag, if_neg (by simp)]
      exact hp
    unfold Lib.atoiAll
    simp only [hm]
    rw [if_neg (by omega), if_neg (by omega), if_neg (by omega)]
end Go.Proofs.YtgibihacbhjlnaaDoor
