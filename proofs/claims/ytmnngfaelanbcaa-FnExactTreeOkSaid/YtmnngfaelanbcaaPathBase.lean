/-
  Own text: texts as lists of bytes, and the parts of a text as what is cut at its slashes.
-/
import Derived.Test.YtmnngfaelanbcaaPartsW
import Derived.Test.YtmnngfaelanbcaaPathMath
import Derived.Test.YtmnngfaelanbcaaBtB
namespace Go.Proofs.Ytmnngfaelanbcaa
open Go.RowKit

def glue (x : List UInt8) : List (List UInt8) → List (List UInt8)
  | [] => [x]
  | h :: r => (x ++ h) :: r

theorem pst_cut (s : ByteArray) : ∀ n k, k + n = s.size → (parts s 47).map bt = (pst s 47 k).1.map bt ++ glue (bt (s.extract (pst s 47 k).2 k)) (cutL ((bt s).drop k))
  | 0, k, h => by
    obtain rfl : k = s.size := by omega
    unfold parts
    rw [pst_hit (hit_end s 47), List.drop_of_length_le (by rw [bt_len]; exact Nat.le_refl _)]
    simp [cutL, glue]
  | n + 1, k, h => by
    have hk : k < s.size := by omega
    rw [pst_cut s n (k + 1) (by omega)]
    have hd : (bt s).drop k = s[k] :: (bt s).drop (k + 1) := by
      rw [List.drop_eq_getElem_cons (by rw [bt_len]; exact hk), bt_get s k hk]
    have hple := (pst_le s 47 k).1
    by_cases hh : hit s 47 k = true
    · rw [pst_hit hh]
      rw [hit_in hk] at hh
      have e47 : s[k] = 47 := by
        have h1 : s[k].toNat = 47 := by have h2 := of_decide_eq_true hh; omega
        exact UInt8.toNat_inj.1 (h1.trans (by decide))
      rw [hd, e47, cutL_slash]
      obtain ⟨h', r', e⟩ := cutL_cons ((bt s).drop (k + 1))
      simp [glue, e, bt_empty]
    · have hh' : hit s 47 k = false := by simpa using hh
      rw [pst_not hh']
      rw [hit_in hk] at hh'
      have e47 : s[k] ≠ 47 := by
        intro e
        rw [e] at hh'
        simp at hh'
      obtain ⟨h', r', e⟩ := cutL_cons ((bt s).drop (k + 1))
      rw [hd, cutL_step e47 e, e]
      have e1 : bt (s.extract (pst s 47 k).2 (k + 1)) = bt (s.extract (pst s 47 k).2 k) ++ [s[k]] := by
        rw [bt_extract, bt_extract, List.take_succ_eq_append_getElem (by rw [bt_len]; exact hk), bt_get s k hk]
        rw [List.drop_append_of_le_length (by simp [bt_len]; omega)]
      simp [glue, e1]
theorem parts_cut (s : ByteArray) : (parts s 47).map bt = cutL (bt s) := by
  rw [pst_cut s s.size 0 (by omega)]
  obtain ⟨h, r, e⟩ := cutL_cons (bt s)
  simp [pst, glue, e, bt_empty]
theorem parts_tx (s : ByteArray) : parts s 47 = (cutL (bt s)).map tx := by
  rw [← parts_cut, List.map_map]
  have : (tx ∘ bt) = id := funext tx_bt
  rw [this, List.map_id]
theorem parts_len (s : ByteArray) : (parts s 47).length = (cutL (bt s)).length := by rw [parts_tx, List.length_map]
end Go.Proofs.Ytmnngfaelanbcaa
