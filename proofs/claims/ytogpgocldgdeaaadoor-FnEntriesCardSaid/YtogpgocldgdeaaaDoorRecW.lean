/-
  Own text: the deferred closures that recover: called of a frame that panics, they mark the panic as recovered; of one that returns, they do nothing.
-/
import Derived.Test.YtogpgocldgdeaaaDoorRows
import Derived.Test.YtogpgocldgdeaaaDoorBunN
import Derived.Defers
import Derived.Recover
namespace Go.Proofs.YtogpgocldgdeaaaDoor
open Go.RowKit

end Go.Proofs.YtogpgocldgdeaaaDoor
