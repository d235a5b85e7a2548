/-
  Own text: a new disk, as the program makes it.
-/
import Derived.Test.YtlidmnehpcodkaaDoorBunS
namespace Go.Proofs.YtlidmnehpcodkaaDoor
open Go.RowKit

end Go.Proofs.YtlidmnehpcodkaaDoor
