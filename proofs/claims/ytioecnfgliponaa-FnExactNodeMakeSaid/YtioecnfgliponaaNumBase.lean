/-
  Own text, plain: a number as bytes, seven bits each, the low ones first.
-/
import Derived.Test.YtioecnfgliponaaBase
namespace Go.Proofs.Ytioecnfgliponaa
open Go.RowKit

def vlq : Nat → Nat → List Int
  | 0, n => [(n : Int)]
  | f + 1, n => if n < 128 then [(n : Int)] else ((n % 128 + 128 : Nat) : Int) :: vlq f (n / 128)

/-- The bytes of a number, as many as there are; nothing outside its range. -/
def putNum (n : Int) : List Int := if 0 ≤ n ∧ n ≤ 2147483647 then vlq 4 n.toNat else []

theorem vlq_small (f n : Nat) (h : n < 128) : vlq f n = [(n : Int)] := by cases f <;> simp [vlq, h]
theorem vlq_big (f n : Nat) (h : 128 ≤ n) : vlq (f + 1) n = ((n % 128 + 128 : Nat) : Int) :: vlq f (n / 128) := by simp [vlq, show ¬ n < 128 by omega]
theorem vlq_len (f n : Nat) : (vlq f n).length ≤ f + 1 := by
  induction f generalizing n with
  | zero => simp [vlq]
  | succ f ih =>
    by_cases h : n < 128
    · rw [vlq_small _ _ h]; simp
    · rw [vlq_big _ _ (by omega)]; have := ih (n / 128); simp; omega
theorem vlq_u8 (f n : Nat) (h : n < 128 ^ (f + 1)) : U8 (vlq f n) := by
  induction f generalizing n with
  | zero => intro x hx; simp [vlq] at hx h; omega
  | succ f ih =>
    by_cases hn : n < 128
    · rw [vlq_small _ _ hn]; intro x hx; simp at hx; omega
    · rw [vlq_big _ _ (by omega)]
      intro x hx
      rcases List.mem_cons.1 hx with rfl | hx
      · omega
      · refine ih (n / 128) ?_ x hx
        rw [Nat.pow_succ] at h; omega
theorem putNum_len (n : Int) : (putNum n).length ≤ 5 := by unfold putNum; split; exact vlq_len 4 _; simp
theorem putNum_u8 (n : Int) : U8 (putNum n) := by
  unfold putNum; split
  · exact vlq_u8 4 _ (by omega)
  · intro x hx; simp at hx

/-- What a loop that writes a number down has done so far: 'pre' is written, m is left. -/
def Part (N m : Nat) (pre : List Int) : Prop := ∃ f, m < 128 ^ (f + 1) ∧ pre ++ vlq f m = vlq 4 N
theorem Part.start (N : Nat) (h : N ≤ 2147483647) : Part N N [] := ⟨4, by omega, rfl⟩
theorem Part.len {N m : Nat} {pre : List Int} (h : Part N m pre) : pre.length ≤ 5 := by
  obtain ⟨f, _, h⟩ := h
  have := vlq_len 4 N; rw [← h] at this; simp at this; omega
theorem Part.step {N m : Nat} {pre : List Int} (h : Part N m pre) (hm : 128 ≤ m) : Part N (m / 128) (pre ++ [((m : Int) % 128 + 128)]) := by
  obtain ⟨f, hf, h⟩ := h
  cases f with
  | zero => omega
  | succ f =>
    refine ⟨f, by rw [Nat.pow_succ] at hf; omega, ?_⟩
    rw [vlq_big f m hm] at h
    rw [← h]; simp
theorem Part.last {N m : Nat} {pre : List Int} (h : Part N m pre) (hm : m < 128) : pre ++ [(m : Int)] = vlq 4 N := by
  obtain ⟨f, _, h⟩ := h
  rw [vlq_small f m hm] at h; exact h

/-- The marks that the laws lay: k, k + 1, .. as bytes. -/
def marks (k n : Nat) : List Int := (List.range n).map fun i => (((k + i) % 256 : Nat) : Int)
def markTo (l : List Int) (k i : Nat) : List Int := marks k i ++ l.drop i
theorem marks_len (k n : Nat) : (marks k n).length = n := by simp [marks]
theorem markTo_zero (l : List Int) (k : Nat) : markTo l k 0 = l := by simp [markTo, marks]
theorem markTo_all (l : List Int) (k : Nat) : markTo l k l.length = marks k l.length := by simp [markTo]
theorem markTo_len (l : List Int) (k i : Nat) (h : i ≤ l.length) : (markTo l k i).length = l.length := by simp [markTo, marks_len]; omega
theorem markTo_set (l : List Int) (k i : Nat) (h : i < l.length) : (markTo l k i).set i (((k + i) % 256 : Nat) : Int) = markTo l k (i + 1) := by
  unfold markTo
  rw [List.set_append_right _ _ (by rw [marks_len]; exact Nat.le_refl _), marks_len, Nat.sub_self]
  have e : marks k (i + 1) = marks k i ++ [(((k + i) % 256 : Nat) : Int)] := by unfold marks; rw [List.range_succ, List.map_append]; rfl
  rw [e, List.append_assoc, List.drop_eq_getElem_cons h]; rfl
theorem marks_at (k n i : Nat) (h : i < n) : (marks k n).getD i 0 = (((k + i) % 256 : Nat) : Int) := by simp [marks, List.getD, h]
theorem wrap_mark (k i : Nat) : IntKind.u8.wrap ((k : Int) + (i : Int)) = (((k + i) % 256 : Nat) : Int) := by rw [IntKind.wrap_u8]; omega
end Go.Proofs.Ytioecnfgliponaa
