/-
  Own text, plain: a number or a text that was written is read as it was, wherever it stands; a byte that is turned turns the check sum.
-/
import Derived.Test.YtogpgocldgdeaaaDoorBunN
import Derived.Test.YtogpgocldgdeaaaDoorTextW
namespace Go.Proofs.YtogpgocldgdeaaaDoor
open Go.RowKit

theorem vlq_shape (f n : Nat) (h : n < 128 ^ (f + 1)) : ∃ ds d, vlq f n = ds ++ [d] ∧ (∀ x ∈ ds, 128 ≤ x) ∧ 0 ≤ d ∧ d < 128 ∧ (ds = [] ∨ d ≠ 0) ∧ valL (ds ++ [d]) = n ∧ ds.length ≤ f := by
  induction f generalizing n with
  | zero =>
    refine ⟨[], (n : Int), by simp [vlq], by simp, by omega, by simp at h; omega, .inl rfl, ?_, by simp⟩
    simp at h
    simp [valL]; omega
  | succ f ih =>
    by_cases hn : n < 128
    · refine ⟨[], (n : Int), by rw [vlq_small _ _ hn]; rfl, by simp, by omega, by omega, .inl rfl, ?_, by simp⟩
      simp [valL]; omega
    · obtain ⟨ds, d, h1, h2, h3, h4, h5, h6, h7⟩ := ih (n / 128) (by rw [Nat.pow_succ] at h; omega)
      refine ⟨((n % 128 + 128 : Nat) : Int) :: ds, d, by rw [vlq_big _ _ (by omega), h1]; rfl, ?_, h3, h4, .inr ?_, ?_, by simp; omega⟩
      · intro x hx
        rcases List.mem_cons.1 hx with rfl | hx
        · omega
        · exact h2 x hx
      · rcases h5 with rfl | h5
        · simp [valL] at h6; omega
        · exact h5
      · simp only [List.cons_append, valL, h6]
        omega

theorem getD_mid (pre ds : List Int) (suf : List Int) (j : Nat) (hj : j < ds.length) : (pre ++ ds ++ suf).getD (pre.length + j) 0 = ds.getD j 0 := by
  simp only [List.getD, List.append_assoc]
  rw [List.getElem?_append_right (by omega), List.getElem?_append_left (by omega)]
  congr 2
  omega

theorem good_mid (pre suf : List Int) (n : Nat) (hn : n ≤ 2147483647) : Good (pre ++ putNum n ++ suf) pre.length n (pre.length + (putNum n).length) := by
  have hp : putNum (n : Int) = vlq 4 n := by rw [putNum, if_pos (by omega)]; rfl
  obtain ⟨ds, d, h1, h2, h3, h4, h5, h6, h7⟩ := vlq_shape 4 n (by omega)
  rw [hp, h1]
  have hlen : (ds ++ [d]).length = ds.length + 1 := by simp
  have hd : (pre ++ (ds ++ [d]) ++ suf).getD (pre.length + ds.length) 0 = d := by
    rw [getD_mid _ _ _ _ (by omega)]; simp [List.getD]
  have hstop : Stop (pre ++ (ds ++ [d]) ++ suf) pre.length ds.length := by
    refine ⟨by omega, by simp, by rw [hd]; exact h4, fun j hj => ?_⟩
    rw [getD_mid _ _ _ _ (by omega)]
    have e : (ds ++ [d]).getD j 0 = ds[j] := by simp [List.getD, List.getElem?_append_left hj, hj]
    rw [e]; exact h2 _ (List.getElem_mem hj)
  refine ⟨pre.length, ds.length, rfl, hstop, ?_, ?_, hn, by rw [hlen]; omega⟩
  · rw [hd]
    rcases h5 with rfl | h5
    · exact .inl rfl
    · exact .inr h5
  · rw [← valL_take _ _ _ (by simp)]
    have e : ((pre ++ (ds ++ [d]) ++ suf).drop pre.length).take (ds.length + 1) = ds ++ [d] := by
      rw [List.append_assoc, List.drop_left, ← hlen, List.take_left]
    rw [e, h6]

theorem bytesS_of (s : ByteArray) : bytesS (bytesOf s) = s := by
  apply ByteArray.ext
  simp only [bytesS, bytesOf, List.map_map]
  have e : s.data.toList.map ((fun x : Int => UInt8.ofNat x.toNat) ∘ fun b : UInt8 => (b.toNat : Int)) = s.data.toList := by
    conv => rhs; rw [← List.map_id s.data.toList]
    apply List.map_congr_left
    intro b _
    simp
  rw [e]

theorem goodT_mid (pre suf : List Int) (s : ByteArray) (hs : s.size ≤ 1048576) : GoodT (pre ++ putText s ++ suf) pre.length s (pre.length + (putText s).length) := by
  have hg := good_mid pre (bytesOf s ++ suf) s.size (by omega)
  have e : pre ++ putNum (s.size : Int) ++ (bytesOf s ++ suf) = pre ++ putText s ++ suf := by simp [putText]
  rw [e] at hg
  refine ⟨s.size, _, hg, ?_, ?_, ?_⟩
  · simp [putText, bytesOf_len]; omega
  · unfold subT
    have e2 : ((pre ++ putText s ++ suf).drop (pre.length + (putNum (s.size : Int)).length)).take s.size = bytesOf s := by
      rw [← e, ← List.length_append, List.drop_left, ← bytesOf_len, List.take_left]
    rw [e2, bytesS_of]
  · simp [putText, bytesOf_len]; omega

/-! ### The check sum -/
theorem xor_cancel {a b c : Nat} (h : a ^^^ c = b ^^^ c) : a = b := by
  have := congrArg (· ^^^ c) h
  simpa [Nat.xor_assoc] using this
theorem top_bit (a : Nat) (h : a < 2147483648) : 2147483648 ≤ a ^^^ 3988292384 := by
  have h1 : (a ^^^ 3988292384).testBit 31 = true := by
    rw [Nat.testBit_xor, Nat.testBit_lt_two_pow (show a < 2 ^ 31 by omega)]
    decide
  exact Nat.ge_two_pow_of_testBit h1
theorem cstep_inj {x y : Nat} (hx : x < 4294967296) (hy : y < 4294967296) (h : cstep x = cstep y) : x = y := by
  unfold cstep at h
  have tx := top_bit (x / 2) (by omega)
  have ty := top_bit (y / 2) (by omega)
  split at h <;> split at h
  · have := xor_cancel h; omega
  · omega
  · omega
  · omega
theorem csteps_inj {x y : Nat} (hx : x < 4294967296) (hy : y < 4294967296) : ∀ n, csteps n x = csteps n y → x = y
  | 0, h => h
  | n + 1, h => csteps_inj hx hy n (cstep_inj (csteps_lt hx n) (csteps_lt hy n) h)

theorem crc_turn {l : List Int} (hu : U8 l) (i : Nat) (v : Int) (hi : i < l.length) (hv : 0 ≤ v ∧ v < 256) (hne : v ≠ l.getD i 0) : ∀ k, i < k → crcTo (l.set i v) k ≠ crcTo l k := by
  have hu' : U8 (l.set i v) := by
    intro n hn
    rcases List.mem_or_eq_of_mem_set hn with h | h
    · exact hu n h
    · rw [h]; exact hv
  have hsame : ∀ j, j ≠ i → (l.set i v).getD j 0 = l.getD j 0 := by
    intro j hj
    simp [List.getD, List.getElem?_set_ne (Ne.symm hj)]
  have hat : (l.set i v).getD i 0 = v := by simp [List.getD, hi]
  have hlow : ∀ k, k ≤ i → crcTo (l.set i v) k = crcTo l k := by
    intro k
    induction k with
    | zero => intro _; rfl
    | succ k ih => intro hk; rw [crcTo, crcTo, ih (by omega), hsame k (by omega)]
  intro k
  induction k with
  | zero => omega
  | succ k ih =>
    intro hk h
    have b1 := hu'.at k
    have b2 := hu.at k
    have c1 := crcTo_lt hu' k
    have c2 := crcTo_lt hu k
    rw [crcTo, crcTo] at h
    have h2 := csteps_inj (xor_lt c1 (by omega)) (xor_lt c2 (by omega)) 8 h
    by_cases hki : k = i
    · subst hki
      rw [hlow k (Nat.le_refl _), hat, Nat.xor_comm, Nat.xor_comm (crcTo l k)] at h2
      have := xor_cancel h2
      have b3 := hu.at k
      exact hne (by omega)
    · rw [hsame k hki] at h2
      exact ih (by omega) (xor_cancel h2)
end Go.Proofs.YtogpgocldgdeaaaDoor
