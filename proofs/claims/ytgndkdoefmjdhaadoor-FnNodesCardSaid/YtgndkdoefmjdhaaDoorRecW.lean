/-
  Own text: the deferred closures that recover: called of a frame that panics, they mark the panic as recovered; of one that returns, they do nothing.
-/
import Derived.Test.YtgndkdoefmjdhaaDoorRows
import Derived.Test.YtgndkdoefmjdhaaDoorErrW
import Derived.Defers
import Derived.Recover
namespace Go.Proofs.YtgndkdoefmjdhaaDoor
open Go.RowKit

end Go.Proofs.YtgndkdoefmjdhaaDoor
