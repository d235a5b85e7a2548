/-
  Own text, plain: how many events a commit has.
-/
import Derived.Test.YtlidmnehpcodkaaDoorEvBase
namespace Go.Proofs.YtlidmnehpcodkaaDoor

theorem commitE_len (n : Int) (l : List PutD) : (commitE n l).length ≤ 2 * l.length + 6 := by
  unfold commitE
  split
  · simp; omega
  · simp
theorem commitE_len_yes {n : Int} {l : List PutD} (h : jtx n l = true) : (commitE n l).length = 2 * l.length + 6 := by
  unfold commitE
  rw [if_pos h]
  simp; omega
end Go.Proofs.YtlidmnehpcodkaaDoor
