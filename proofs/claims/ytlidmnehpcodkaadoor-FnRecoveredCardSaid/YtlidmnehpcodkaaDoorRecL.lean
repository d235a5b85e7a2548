/-
  Own text: how great a recovered disk is.
-/
import Derived.Test.YtlidmnehpcodkaaDoorSRecW
import Derived.Test.YtlidmnehpcodkaaDoorBunA
namespace Go.Proofs.YtlidmnehpcodkaaDoor

theorem len_rec {d : DiskD} {n : Int} (h : d.1.length ≤ 4194303 ∧ d.2.length ≤ 4194303) : (recD d n).1.length ≤ 4194304 ∧ (recD d n).2.length ≤ 4194304 := by
  unfold recD
  split
  · exact ⟨by show (recS d.1 n).length ≤ _; rw [recS_len]; omega, by simp⟩
  · omega
end Go.Proofs.YtlidmnehpcodkaaDoor
