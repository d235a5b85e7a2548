/-
  Own text, plain: a number that was written is read as it was, wherever it stands; bytes as a text.
-/
import Derived.Test.YtioecnfgliponaaGetBase
namespace Go.Proofs.Ytioecnfgliponaa
open Go.RowKit

/-- The bytes l as a text. -/
def baOf (l : List Int) : ByteArray := ⟨(l.map fun x => UInt8.ofNat x.toNat).toArray⟩
theorem vlq_shapeP (f n : Nat) (h : n < 128 ^ (f + 1)) : ∃ ds d, vlq f n = ds ++ [d] ∧ (∀ x ∈ ds, 128 ≤ x) ∧ 0 ≤ d ∧ d < 128 ∧ (ds = [] ∨ d ≠ 0) ∧ valL (ds ++ [d]) = n ∧ ds.length ≤ f := by
  induction f generalizing n with
  | zero =>
    refine ⟨[], (n : Int), by simp [vlq], by simp, by omega, by simp at h; omega, .inl rfl, ?_, by simp⟩
    simp at h
    simp [valL]; omega
  | succ f ih =>
    by_cases hn : n < 128
    · refine ⟨[], (n : Int), by rw [vlq_small _ _ hn]; rfl, by simp, by omega, by omega, .inl rfl, ?_, by simp⟩
      simp [valL]; omega
    · obtain ⟨ds, d, h1, h2, h3, h4, h5, h6, h7⟩ := ih (n / 128) (by rw [Nat.pow_succ] at h; omega)
      refine ⟨((n % 128 + 128 : Nat) : Int) :: ds, d, by rw [vlq_big _ _ (by omega), h1]; rfl, ?_, h3, h4, .inr ?_, ?_, by simp; omega⟩
      · intro x hx
        rcases List.mem_cons.1 hx with rfl | hx
        · omega
        · exact h2 x hx
      · rcases h5 with rfl | h5
        · simp [valL] at h6; omega
        · exact h5
      · simp only [List.cons_append, valL, h6]
        omega

theorem getD_midP (pre ds : List Int) (suf : List Int) (j : Nat) (hj : j < ds.length) : (pre ++ ds ++ suf).getD (pre.length + j) 0 = ds.getD j 0 := by
  simp only [List.getD, List.append_assoc]
  rw [List.getElem?_append_right (by omega), List.getElem?_append_left (by omega)]
  congr 2
  omega

theorem good_midP (pre suf : List Int) (n : Nat) (hn : n ≤ 2147483647) : Good (pre ++ putNum n ++ suf) pre.length n (pre.length + (putNum n).length) := by
  have hp : putNum (n : Int) = vlq 4 n := by rw [putNum, if_pos (by omega)]; rfl
  obtain ⟨ds, d, h1, h2, h3, h4, h5, h6, h7⟩ := vlq_shapeP 4 n (by omega)
  rw [hp, h1]
  have hlen : (ds ++ [d]).length = ds.length + 1 := by simp
  have hd : (pre ++ (ds ++ [d]) ++ suf).getD (pre.length + ds.length) 0 = d := by
    rw [getD_midP _ _ _ _ (by omega)]; simp [List.getD]
  have hstop : Stop (pre ++ (ds ++ [d]) ++ suf) pre.length ds.length := by
    refine ⟨by omega, by simp, by rw [hd]; exact h4, fun j hj => ?_⟩
    rw [getD_midP _ _ _ _ (by omega)]
    have e : (ds ++ [d]).getD j 0 = ds[j] := by simp [List.getD, List.getElem?_append_left hj, hj]
    rw [e]; exact h2 _ (List.getElem_mem hj)
  refine ⟨pre.length, ds.length, rfl, hstop, ?_, ?_, hn, by rw [hlen]; omega⟩
  · rw [hd]
    rcases h5 with rfl | h5
    · exact .inl rfl
    · exact .inr h5
  · rw [← valL_take _ _ _ (by simp)]
    have e : ((pre ++ (ds ++ [d]) ++ suf).drop pre.length).take (ds.length + 1) = ds ++ [d] := by
      rw [List.append_assoc, List.drop_left, ← hlen, List.take_left]
    rw [e, h6]

end Go.Proofs.Ytioecnfgliponaa
