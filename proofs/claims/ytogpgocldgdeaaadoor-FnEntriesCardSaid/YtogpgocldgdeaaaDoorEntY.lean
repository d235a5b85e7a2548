/-
  Own text: the contracts of adding and dropping, in the make of the laws' frames.
-/
import Derived.Test.YtogpgocldgdeaaaDoorEntX
import Derived.Test.YtogpgocldgdeaaaDoorSDropW
import Derived.Test.YtogpgocldgdeaaaDoorBunM
namespace Go.Proofs.YtogpgocldgdeaaaDoor
open Go.RowKit

theorem enDropped_len (l : List EntD) (s : ByteArray) : (enDropped l s).length ≤ l.length := by
  unfold enDropped
  split
  · rw [List.length_eraseIdx]; split <;> omega
  · exact Nat.le_refl _
theorem enDropped_small {l : List EntD} {s : ByteArray} (h : szEn l ≤ 1048576) : (enDropped l s).length ≤ 2097153 := by
  have h1 := enDropped_len l s
  have h2 := szEn_len l
  omega
theorem addD_len (l : List EntD) (s : ByteArray) (n : Int) : (addD l s n).length ≤ l.length + 1 := by
  unfold addD
  split
  · rw [enAdded_ins, insE_len (enAt_le l s)]
    exact Nat.le_refl _
  · omega
theorem addD_small {l : List EntD} {s : ByteArray} {n : Int} (h : szEn l ≤ 1048576) : (addD l s n).length ≤ 2097153 := by
  have h1 := addD_len l s n
  have h2 := szEn_len l
  omega
theorem dirDropX_impl (v : Value) (l : List EntD) (s : ByteArray) (w : World) (hl : szEn l ≤ 1048576) (hr : RdEn w v l) : Calls Tryd.prog 11 #[v, .string s] w fun e w' => ∃ v, e = .returned (.tuple #[v, .bool (enHas l s)]) ∧ OwnEn w' w.heap.size w'.heap.size v (enDropped l s) ∧ Below w.heap.size w w' := by
  obtain ⟨a, c, rfl, _, hr⟩ := hr
  exact implDirDrop a c l s w (smE_of hl).sh hr
theorem dirAddX_spec (v : Value) (l : List EntD) (s : ByteArray) (n : Int) (w : World) (hl : szEn l ≤ 1048576) (hs : s.size ≤ 1048576) (hr : RdEn w v l) : Calls Tryd.prog 8 #[v, .string s, .int .i64 n] w fun e w' => ∃ v, e = .returned (.tuple #[v, .bool (addOk l s n)]) ∧ OwnEn w' w.heap.size w'.heap.size v (addD l s n) ∧ Below w.heap.size w w' := by
  obtain ⟨a, c, rfl, hc, hr⟩ := hr
  exact specDirAdd a c l s n w hl hs hc hr
theorem dirAddX_impl (v : Value) (l : List EntD) (s : ByteArray) (n : Int) (w : World) (hl : szEn l ≤ 1048576) (hs : s.size ≤ 1048576) (hr : RdEn w v l) : Calls Tryd.prog 7 #[v, .string s, .int .i64 n] w fun e w' => ∃ v, e = .returned (.tuple #[v, .bool (addOk l s n)]) ∧ OwnEn w' w.heap.size w'.heap.size v (addD l s n) ∧ Below w.heap.size w w' := by
  obtain ⟨a, c, rfl, _, hr⟩ := hr
  exact implDirAdd a c l s n w hl hs hr
end Go.Proofs.YtogpgocldgdeaaaDoor
