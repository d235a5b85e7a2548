/-
  Own text: whether what came in is too great for a law; how long a node's text is; what is read from it.
-/
import Derived.Test.YtgndkdoefmjdhaaDoorOfMath
import Derived.Test.YtgndkdoefmjdhaaDoorSNodeSW
namespace Go.Proofs.YtgndkdoefmjdhaaDoor
open Go.RowKit

theorem bigN (x : Option Addr) (n cap : Nat) (w : World) : Calls Tryd.prog 5 #[.slice x n cap] w fun e w' => e = .returned (.bool (decide ((1048576 : Int) < (n : Int)))) ∧ w' = w := by
  go_enter Tryd.func5, Tryd.ntmps5
  go_wp2
  go_ret
  exact ⟨rfl, rfl⟩
theorem ndText_small (n : NodeD) : (ndText n).size ≤ 1048576 := by
  unfold ndText
  split
  · rename_i h
    have h1 := ndB_len (ndOk_iff.1 h)
    have h2 : (baOf (ndB n)).size = (ndB n).length := by simp [baOf, ByteArray.size]
    omega
  · exact Nat.zero_le _
theorem of_ndText (n : NodeD) : ofOk (ndText n) = ndOk n ∧ (ndOk n = true → ofN (ndText n) = n) := by
  cases h : ndOk n with
  | true =>
    have := of_text (ndOk_iff.1 h)
    exact ⟨this.2, fun _ => this.1⟩
  | false =>
    refine ⟨?_, fun h => by cases h⟩
    have e : ndText n = ⟨#[]⟩ := by unfold ndText; rw [h]; rfl
    rw [e]
    exact of_empty
end Go.Proofs.YtgndkdoefmjdhaaDoor
