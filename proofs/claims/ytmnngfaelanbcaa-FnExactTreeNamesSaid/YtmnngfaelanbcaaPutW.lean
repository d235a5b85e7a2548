/-
  Own text: the laws' helpers over one write (a place and a text): a copy, its size, alike.
-/
import Derived.Test.YtmnngfaelanbcaaRows
import Derived.Test.YtmnngfaelanbcaaRowC
import Derived.Handy
import Derived.Deep.RegionWith
namespace Go.Proofs.Ytmnngfaelanbcaa
open Go.RowKit

/-- A write: a place and a text. -/
abbrev PutD := Int × ByteArray
def encP (p : PutD) : List Value := [.int .i64 p.1, .string p.2]
def aggP (p : PutD) : Value := .agg #[.int .i64 p.1, .string p.2]
theorem encP_len (p : PutD) : (encP p).length = 2 := rfl

theorem putAt (l : List PutD) (i : Nat) (h : i < l.length) (n : Int) : (l.flatMap encP).set (i * 2) (.int .i64 n) = (l.set i (n, l[i].2)).flatMap encP := by
  have := flat_set encP_len l i h 0 (n, l[i].2) (.int .i64 n) (by omega) rfl
  simpa using this
theorem putData (l : List PutD) (i : Nat) (h : i < l.length) (s : ByteArray) : (l.flatMap encP).set (i * 2 + 1) (.string s) = (l.set i (l[i].1, s)).flatMap encP :=
  flat_set encP_len l i h 1 (l[i].1, s) (.string s) (by omega) rfl
theorem putBoth (l : List PutD) (i : Nat) (h : i < l.length) (n : Int) (s : ByteArray) : ((l.flatMap encP).set (i * 2) (.int .i64 n)).set (i * 2 + 1) (.string s) = (l.set i (n, s)).flatMap encP := by
  rw [putAt l i h, putData _ i (by simpa using h)]
  simp
theorem putCells {l : List PutD} {i : Nat} (h : i < l.length) : (l.flatMap encP)[i * 2]? = some (.int .i64 l[i].1) ∧ (l.flatMap encP)[i * 2 + 1]? = some (.string l[i].2) := by
  have e0 := flat_get encP_len l i h 0 (by omega)
  have e1 := flat_get encP_len l i h 1 (by omega)
  exact ⟨by simpa [encP] using e0, by simpa [encP] using e1⟩

theorem made_flat {α : Type} {enc : α → List Value} {sz : Nat} (hsz : ∀ x, (enc x).length = sz) (z : α) (zc : Array Value) (hz : zc.toList = enc z) (hpos : 0 < sz) (n : Nat) : (madeCells zc (n * sz)).toList = (List.replicate n z).flatMap enc := by
  have hzs : zc.size = sz := by rw [← Array.length_toList, hz, hsz]
  apply List.ext_getElem?
  intro k
  by_cases hk : k < n * sz
  · have hq : k / sz < n := Nat.div_lt_of_lt_mul (by rw [Nat.mul_comm]; exact hk)
    have e := flat_get hsz (List.replicate n z) (k / sz) (by simpa using hq) (k % sz) (Nat.mod_lt _ hpos)
    rw [show k / sz * sz + k % sz = k by rw [Nat.mul_comm]; exact Nat.div_add_mod k sz] at e
    rw [e]
    simp only [List.getElem_replicate]
    rw [← hz]
    simp [madeCells, hzs, hk, Nat.mod_lt _ hpos]
  · rw [List.getElem?_eq_none (by rw [Array.length_toList, size_madeCells]; omega), List.getElem?_eq_none (by rw [flat_len_c hsz, List.length_replicate]; omega)]
/-- The first k of l, then z. -/
def fillF {α : Type} (z : α) (l : List α) (k : Nat) : List α := l.take k ++ List.replicate (l.length - k) z
theorem fillF_set {α : Type} (z : α) (l : List α) (k : Nat) (h : k < l.length) : (fillF z l k).set k l[k] = fillF z l (k + 1) := by
  unfold fillF
  apply List.ext_getElem
  · simp; omega
  · intro i h1 h2
    simp only [List.getElem_set, List.getElem_append, List.length_take, List.getElem_take, List.getElem_replicate]
    by_cases hi : k = i
    · subst hi
      simp
      omega
    · by_cases h3 : i < k
      · simp [hi, show i < min k l.length by omega, show i < min (k + 1) l.length by omega]
      · simp [hi, show ¬ i < min k l.length by omega, show ¬ i < min (k + 1) l.length by omega]
theorem fillF_len {α : Type} (z : α) (l : List α) (k : Nat) (h : k ≤ l.length) : (fillF z l k).length = l.length := by unfold fillF; simp; omega
theorem fillF_all {α : Type} (z : α) (l : List α) : fillF z l l.length = l := by simp [fillF]
theorem fillF_zero {α : Type} (z : α) (l : List α) : fillF z l 0 = List.replicate l.length z := by simp [fillF]

/-- How great writes are. -/
def szP (l : List PutD) : Nat := (l.map fun p => 1 + p.2.size).sum
theorem szP_take {l : List PutD} {k : Nat} (h : k < l.length) : szP (l.take (k + 1)) = szP (l.take k) + 1 + (l[k]).2.size := by
  unfold szP
  rw [List.take_succ_eq_append_getElem h, List.map_append, List.sum_append]
  simp
  omega

end Go.Proofs.Ytmnngfaelanbcaa
