/-
  Own text: texts as lists of bytes.
-/
import Derived.Test.YtmnngfaelanbcaaRows
import Derived.Test.YtmnngfaelanbcaaPathMath
import Derived.WalkKit
namespace Go.Proofs.Ytmnngfaelanbcaa
open Go.RowKit

/-- The bytes of a text. -/
def bt (s : ByteArray) : List UInt8 := s.data.toList
/-- The text of bytes. -/
def tx (l : List UInt8) : ByteArray := ⟨l.toArray⟩
theorem bt_tx (l : List UInt8) : bt (tx l) = l := by simp [bt, tx]
theorem tx_bt (s : ByteArray) : tx (bt s) = s := rfl
theorem bt_inj {a b : ByteArray} (h : bt a = bt b) : a = b := by rw [← tx_bt a, ← tx_bt b, h]
theorem bt_len (s : ByteArray) : (bt s).length = s.size := by unfold bt; rw [Array.length_toList]; rfl
theorem tx_size (l : List UInt8) : (tx l).size = l.length := by simp [tx, ByteArray.size]
theorem bt_get (s : ByteArray) (k : Nat) (h : k < s.size) : (bt s)[k]'(by rw [bt_len]; exact h) = s[k] := by simp [bt]; rfl
theorem bt_app (a b : ByteArray) : bt (a ++ b) = bt a ++ bt b := by unfold bt; rw [ByteArray.data_append, Array.toList_append]
theorem bt_empty : bt ByteArray.empty = [] := rfl
theorem bt_extract (s : ByteArray) (a b : Nat) : bt (s.extract a b) = ((bt s).take b).drop a := by
  rw [List.drop_take]
  simp [bt]
theorem str_eq (a b : ByteArray) : (a.toList == b.toList) = (bt a == bt b) := by
  rw [ByteArray.toList_eq, ByteArray.toList_eq]; rfl
theorem lit_same {a : ByteArray} {l : List UInt8} (h : bt a = l) : (a.toList == l) = true := by rw [ByteArray.toList_eq, ← h]; simp [bt]
theorem lit_other {a : ByteArray} {l : List UInt8} (h : ¬ bt a = l) : (a.toList == l) = false := by rw [ByteArray.toList_eq]; simpa [bt] using h
theorem str_same {a b : ByteArray} (h : bt a = bt b) : (a.toList == b.toList) = true := by rw [str_eq, h]; simp
theorem str_other {a b : ByteArray} (h : ¬ bt a = bt b) : (a.toList == b.toList) = false := by rw [str_eq]; simpa using h
end Go.Proofs.Ytmnngfaelanbcaa
