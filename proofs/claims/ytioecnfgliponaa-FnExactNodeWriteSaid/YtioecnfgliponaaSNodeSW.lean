/-
  Own text: whether two nodes are the same, as the other program tells it.
-/
import Derived.Test.YtioecnfgliponaaNodeF
import Derived.Test.YtioecnfgliponaaRowC
import Derived.BigQuiet
import Derived.Deep.QuietTactic
namespace Go.Proofs.Ytioecnfgliponaa
open Go.RowKit

def ndSame (m n : NodeD) : Bool := decide (m.k = n.k) && decide (m.g = n.g) && decide (m.t = n.t) && decide (m.s = n.s) && decide (m.b = n.b)
theorem ndSame_refl (n : NodeD) : ndSame n n = true := by simp [ndSame]

end Go.Proofs.Ytioecnfgliponaa
