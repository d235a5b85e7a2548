/-
  Own text: the laws' marks on rows of texts and of writes, with what they leave alone; whether they are still there.
-/
import Derived.Test.YtogpgocldgdeaaaDoorPutW
import Derived.Test.YtogpgocldgdeaaaDoorHeldW
namespace Go.Proofs.YtogpgocldgdeaaaDoor
open Go.RowKit

/-- The blocks of a row. -/
def blk (v : Value) (j : Nat) : Prop := v.ownBlock = some j

end Go.Proofs.YtogpgocldgdeaaaDoor
