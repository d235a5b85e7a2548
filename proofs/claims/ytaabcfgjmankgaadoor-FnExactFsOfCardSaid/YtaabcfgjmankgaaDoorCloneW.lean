/-
  Own text: strings.Clone answers the same text.
-/
import Derived.Test.YtaabcfgjmankgaaDoorShelf
import Derived.WalkKit
import Derived.ProofKit
namespace Go.Proofs.YtaabcfgjmankgaaDoor
open Go.RowKit

theorem cloneT (s : ByteArray) (w : World) (hs : s.size ≤ 281474976710656) :
    Calls Tryd.prog 36 #[.string s] w fun e w' => e = .returned (.string s) ∧ Below w.heap.size w w' := by
  go_enter Tryd.func36, Tryd.ntmps36
  go_wp2_with (go_at_call 55; refine (Tryd.stringslite_Clone s _ hs).mono ?_; rintro e w' ⟨rfl, hb⟩)
  go_ret
  exact ⟨rfl, hb⟩
end Go.Proofs.YtaabcfgjmankgaaDoor
