/-
  Own text, plain: which number stands at a place of a row of bytes.
-/
import Derived.Test.YtioecnfgliponaaNumBase
namespace Go.Proofs.Ytioecnfgliponaa
open Go.RowKit

/-- The number that begins at place p ends with its k-th byte. -/
def Stop (l : List Int) (p k : Nat) : Prop := k < 5 ∧ p + k < l.length ∧ l.getD (p + k) 0 < 128 ∧ ∀ j, j < k → 128 ≤ l.getD (p + j) 0
/-- What the first k bytes from p on come to. -/
def valTo (l : List Int) (p : Nat) : Nat → Nat
  | 0 => 0
  | k + 1 => valTo l p k + (l.getD (p + k) 0).toNat % 128 * 128 ^ k
/-- There is a number at this place: n, and 'next' is the place behind it. -/
def Good (l : List Int) (at' : Int) (n next : Nat) : Prop :=
  ∃ p k : Nat, at' = (p : Int) ∧ Stop l p k ∧ (k = 0 ∨ l.getD (p + k) 0 ≠ 0) ∧ n = valTo l p (k + 1) ∧ n ≤ 2147483647 ∧ next = p + k + 1

theorem Stop.unique {l : List Int} {p k k' : Nat} (h : Stop l p k) (h' : Stop l p k') : k = k' := by
  obtain ⟨_, _, h1, h2⟩ := h
  obtain ⟨_, _, h3, h4⟩ := h'
  rcases Nat.lt_trichotomy k k' with hl | hl | hl
  · have := h4 k hl; omega
  · exact hl
  · have := h2 k' hl; omega
theorem Good.unique {l : List Int} {at' : Int} {n next n' next' : Nat} (h : Good l at' n next) (h' : Good l at' n' next') : n = n' ∧ next = next' := by
  obtain ⟨p, k, hp, hs, _, hn, _, hx⟩ := h
  obtain ⟨p', k', hp', hs', _, hn', _, hx'⟩ := h'
  obtain rfl : p = p' := by omega
  obtain rfl := hs.unique hs'
  exact ⟨by rw [hn, hn'], by rw [hx, hx']⟩
theorem valTo_lt (l : List Int) (p : Nat) : ∀ k, valTo l p k < 128 ^ k
  | 0 => by simp [valTo]
  | k + 1 => by
    have := valTo_lt l p k
    have h2 : (l.getD (p + k) 0).toNat % 128 ≤ 127 := by omega
    have h3 : (l.getD (p + k) 0).toNat % 128 * 128 ^ k ≤ 127 * 128 ^ k := Nat.mul_le_mul_right _ h2
    rw [valTo, Nat.pow_succ]; omega

/-- The bytes from p on, up to the k-th. -/
def cut (l : List Int) (p k : Nat) : List Int := (l.drop p).take (k + 1)

theorem getD_drop (l : List Int) (p j : Nat) : (l.drop p).getD j 0 = l.getD (p + j) 0 := by simp [List.getD]

/-- What the bytes ds come to. -/
def valL : List Int → Nat
  | [] => 0
  | d :: r => d.toNat % 128 + 128 * valL r

theorem valL_snoc (l : List Int) (d : Int) : valL (l ++ [d]) = valL l + d.toNat % 128 * 128 ^ l.length := by
  induction l with
  | nil => simp [valL]
  | cons x r ih => simp [valL, ih, Nat.pow_succ, Nat.mul_add, Nat.mul_comm, Nat.mul_left_comm]; omega

theorem valL_take (l : List Int) (p k : Nat) (h : p + k ≤ l.length) : valL ((l.drop p).take k) = valTo l p k := by
  induction k with
  | zero => simp [valL, valTo]
  | succ k ih =>
    have hk : k < (l.drop p).length := by simp; omega
    rw [List.take_succ_eq_append_getElem hk, valL_snoc, ih (by omega), valTo]
    have e1 : (l.drop p)[k] = l.getD (p + k) 0 := by
      rw [← getD_drop]; simp [List.getD, show p + k < l.length by omega]
    have e2 : ((l.drop p).take k).length = k := by simp; omega
    rw [e1, e2]

/-- A row of bytes, each but the last one from 128 on, the last one below and (if not alone) not 0, is how its number is written. -/
theorem vlq_valL (ds : List Int) (hu : U8 ds) (d : Int) (hd0 : 0 ≤ d) (hd : d < 128) (hhi : ∀ x ∈ ds, 128 ≤ x) (hz : ds = [] ∨ d ≠ 0) :
    ∀ f, ds.length ≤ f → vlq f (valL (ds ++ [d])) = ds ++ [d] := by
  induction ds with
  | nil =>
    intro f _
    simp only [List.nil_append, valL]
    rw [vlq_small _ _ (by omega)]
    simp; omega
  | cons x r ih =>
    intro f hf
    cases f with
    | zero => simp at hf
    | succ f =>
      have hx := hu x (by simp)
      have hx2 := hhi x (by simp)
      have hz' : d ≠ 0 := by rcases hz with h | h; simp at h; exact h
      have hv : 0 < valL (r ++ [d]) := by
        rw [valL_snoc]
        have hp : 0 < 128 ^ r.length := Nat.pow_pos (by omega)
        have : 0 < d.toNat % 128 := by omega
        have := Nat.mul_pos this hp
        omega
      simp only [List.cons_append, valL]
      rw [vlq_big _ _ (by omega)]
      have e1 : (x.toNat % 128 + 128 * valL (r ++ [d])) / 128 = valL (r ++ [d]) := by omega
      have e2 : (((x.toNat % 128 + 128 * valL (r ++ [d])) % 128 + 128 : Nat) : Int) = x := by omega
      rw [e1, e2, ih (fun y hy => hu y (by simp [hy])) (fun y hy => hhi y (by simp [hy])) (.inr hz') f (by simpa using hf)]

/-- Where the last one of several is 0 it is not how the number is written. -/
theorem vlq_last (f n : Nat) (ds : List Int) (h : vlq f n = ds ++ [0]) (hne : ds ≠ []) : False := by
  induction f generalizing n ds with
  | zero =>
    cases ds with
    | nil => exact hne rfl
    | cons x r => simp [vlq] at h
  | succ f ih =>
    cases ds with
    | nil => exact hne rfl
    | cons x r =>
      by_cases hn : n < 128
      · rw [vlq_small _ _ hn] at h; simp at h
      · rw [vlq_big _ _ (by omega)] at h
        simp only [List.cons_append, List.cons.injEq] at h
        cases r with
        | nil =>
          simp at h
          have hq : 0 < n / 128 := by omega
          cases f with
          | zero => simp [vlq] at h; omega
          | succ f =>
            by_cases h2 : n / 128 < 128
            · rw [vlq_small _ _ h2] at h; simp at h; omega
            · rw [vlq_big _ _ (by omega)] at h
              have := h.2
              simp at this
              have hl := this.2
              cases f <;> simp [vlq] at hl
              split at hl <;> simp at hl
        | cons y r => exact ih (n / 128) (y :: r) h.2 (by simp)
end Go.Proofs.Ytioecnfgliponaa
