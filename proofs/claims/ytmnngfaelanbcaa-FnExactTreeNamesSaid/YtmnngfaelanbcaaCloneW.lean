/-
  Own text: strings.Clone answers the same text.
-/
import Derived.Test.YtmnngfaelanbcaaShelf
import Derived.WalkKit
import Derived.ProofKit
namespace Go.Proofs.Ytmnngfaelanbcaa
open Go.RowKit

theorem cloneT (s : ByteArray) (w : World) (hs : s.size ≤ 281474976710656) :
    Calls Try.prog 50 #[.string s] w fun e w' => e = .returned (.string s) ∧ Below w.heap.size w w' := by
  go_enter Try.func50, Try.ntmps50
  go_wp2_with (go_at_call 60; refine (Try.stringslite_Clone s _ hs).mono ?_; rintro e w' ⟨rfl, hb⟩)
  go_ret
  exact ⟨rfl, hb⟩
end Go.Proofs.Ytmnngfaelanbcaa
