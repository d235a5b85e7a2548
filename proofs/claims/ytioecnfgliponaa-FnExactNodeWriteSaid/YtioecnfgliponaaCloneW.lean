/-
  Own text: strings.Clone answers the same text.
-/
import Derived.Test.YtioecnfgliponaaShelf
import Derived.WalkKit
import Derived.ProofKit
namespace Go.Proofs.Ytioecnfgliponaa
open Go.RowKit

theorem cloneT (s : ByteArray) (w : World) (hs : s.size ≤ 281474976710656) :
    Calls Try.prog 60 #[.string s] w fun e w' => e = .returned (.string s) ∧ Below w.heap.size w w' := by
  go_enter Try.func60, Try.ntmps60
  go_wp2_with (go_at_call 74; refine (Try.stringslite_Clone s _ hs).mono ?_; rintro e w' ⟨rfl, hb⟩)
  go_ret
  exact ⟨rfl, hb⟩
end Go.Proofs.Ytioecnfgliponaa
