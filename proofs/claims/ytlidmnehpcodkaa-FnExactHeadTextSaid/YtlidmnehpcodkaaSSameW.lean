/-
  Own text: whether two disks are the same, and a new one: the other program's.
-/
import Derived.Test.YtlidmnehpcodkaaSDiskW
namespace Go.Proofs.Ytlidmnehpcodkaa
open Go.RowKit

theorem bytes_ne {a b : ByteArray} (h : ¬ a = b) : (a.toList == b.toList) = false := by
  rw [beq_eq_false_iff_ne]
  intro e
  rw [ByteArray.toList_eq, ByteArray.toList_eq] at e
  exact h (Go.WideShapes.bytes_inj e)

/-- Are two disks the same? -/
def dkSame (d e : DiskD) : Bool := decide (d.1 = e.1) && decide (d.2 = e.2)
theorem dkSame_refl (d : DiskD) : dkSame d d = true := by simp [dkSame]

end Go.Proofs.Ytlidmnehpcodkaa
