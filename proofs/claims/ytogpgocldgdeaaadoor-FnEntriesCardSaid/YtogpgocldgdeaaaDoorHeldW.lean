/-
  Own text: the laws' helper that looks whether a row of texts still bears its marks.
-/
import Derived.Test.YtogpgocldgdeaaaDoorStrW
import Derived.Deep.RegionWith
namespace Go.Proofs.YtogpgocldgdeaaaDoor
open Go.RowKit

end Go.Proofs.YtogpgocldgdeaaaDoor
