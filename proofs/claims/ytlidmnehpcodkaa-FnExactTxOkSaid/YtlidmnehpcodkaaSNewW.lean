/-
  Own text: a new disk, as the other program makes it.
-/
import Derived.Test.YtlidmnehpcodkaaSWriteW
namespace Go.Proofs.Ytlidmnehpcodkaa
open Go.RowKit

def newOk (n : Int) : Bool := decide (1 ≤ n) && decide (n ≤ 120)
def newD' (n : Int) : DiskD := if newOk n = true then (List.replicate n.toNat ⟨#[]⟩, []) else ([], [])
theorem new_no {n : Int} (h : newOk n = false) : newD' n = ([], []) := by simp [newD', h]
theorem new_yes {n : Int} (h : newOk n = true) : newD' n = (List.replicate n.toNat ⟨#[]⟩, []) := by simp [newD', h]

theorem len_new (n : Int) : (newD' n).1.length ≤ 4194304 ∧ (newD' n).2.length ≤ 4194304 := by
  unfold newD'
  split
  · rename_i h
    have : 1 ≤ n ∧ n ≤ 120 := by simpa [newOk] using h
    exact ⟨by show (List.replicate n.toNat _).length ≤ _; rw [List.length_replicate]; omega, by simp⟩
  · simp

end Go.Proofs.Ytlidmnehpcodkaa
