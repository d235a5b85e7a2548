/-
  Own text: whether a number lies between two.
-/
import Derived.Test.YtmnngfaelanbcaaRows
import Derived.Test.YtmnngfaelanbcaaBase
namespace Go.Proofs.Ytmnngfaelanbcaa
open Go.RowKit

theorem inW (x lo hi : Int) (w : World) :
    Calls Try.prog 25 #[.int .i64 x, .int .i64 lo, .int .i64 hi] w fun e w' => e = .returned (.bool (decide (lo ≤ x) && decide (x ≤ hi))) ∧ w' = w := by
  by_cases h1 : lo ≤ x <;> by_cases h2 : x ≤ hi
  all_goals
    go_enter Try.func25, Try.ntmps25
    go_wp2
    go_ret
    exact ⟨by simp [h1, h2], rfl⟩

end Go.Proofs.Ytmnngfaelanbcaa
