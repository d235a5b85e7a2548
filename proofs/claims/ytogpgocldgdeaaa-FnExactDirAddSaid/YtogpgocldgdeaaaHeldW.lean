/-
  Own text: the laws' helper that looks whether a row of texts still bears its marks.
-/
import Derived.Test.YtogpgocldgdeaaaStrW
import Derived.Deep.RegionWith
namespace Go.Proofs.Ytogpgocldgdeaaa
open Go.RowKit

end Go.Proofs.Ytogpgocldgdeaaa
