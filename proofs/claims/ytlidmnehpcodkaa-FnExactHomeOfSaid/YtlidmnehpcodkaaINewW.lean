/-
  Own text: a new disk, as the program makes it.
-/
import Derived.Test.YtlidmnehpcodkaaSNewW
namespace Go.Proofs.Ytlidmnehpcodkaa
open Go.RowKit

end Go.Proofs.Ytlidmnehpcodkaa
