/-
  Own text: how many home blocks there are at most; a row of texts of the call's own can be read.
-/
import Derived.Test.YtlidmnehpcodkaaSHomeW
import Derived.Test.YtlidmnehpcodkaaBunA
namespace Go.Proofs.Ytlidmnehpcodkaa
open Go.RowKit

theorem homeD_le (d : DkD) (n : Int) : (homeD d n).length ≤ 48 := by
  cases h : okJ d n with
  | false => rw [homeD_no h]; simp
  | true =>
    rw [homeD_len h]
    have := (okJ_iff.1 h).2.2.1
    omega
theorem rdS_own {w : World} {base : Nat} {e : TypeId} {a : Option Addr} {cap n : Nat} {l : List ByteArray} (h : w.ownsRow base e 1 (.slice a n cap) n (l.map Value.string)) : RdS w a l := by
  obtain ⟨x, c, he, _, hr⟩ := own_rdS h
  cases he
  exact hr
end Go.Proofs.Ytlidmnehpcodkaa
