/-
  Own text: the program's GetNum answers as 'Good' says.
-/
import Derived.Test.YtogpgocldgdeaaaDoorBunN
import Derived.Test.YtogpgocldgdeaaaDoorRecW
namespace Go.Proofs.YtogpgocldgdeaaaDoor
open Go.RowKit

/-- What is known of a slice of bytes that GetNum is handed. -/
structure Came (w : World) (x : Option Addr) (cap : Nat) (l : List Int) : Prop where
  hsmall : l.length ≤ 1048581
  hu8 : U8 l
  hcap : l.length ≤ cap
  hmax : cap ≤ maxLen
  hrd : Rd .u8 w x l

end Go.Proofs.YtogpgocldgdeaaaDoor
