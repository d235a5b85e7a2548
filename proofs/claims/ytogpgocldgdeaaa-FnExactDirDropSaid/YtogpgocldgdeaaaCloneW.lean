/-
  Own text: strings.Clone answers the same text.
-/
import Derived.Test.YtogpgocldgdeaaaShelf
import Derived.WalkKit
import Derived.ProofKit
namespace Go.Proofs.Ytogpgocldgdeaaa
open Go.RowKit

theorem cloneT (s : ByteArray) (w : World) (hs : s.size ≤ 281474976710656) :
    Calls Try.prog 69 #[.string s] w fun e w' => e = .returned (.string s) ∧ Below w.heap.size w w' := by
  go_enter Try.func69, Try.ntmps69
  go_wp2_with (go_at_call 70; refine (Try.stringslite_Clone s _ hs).mono ?_; rintro e w' ⟨rfl, hb⟩)
  go_ret
  exact ⟨rfl, hb⟩
end Go.Proofs.Ytogpgocldgdeaaa
