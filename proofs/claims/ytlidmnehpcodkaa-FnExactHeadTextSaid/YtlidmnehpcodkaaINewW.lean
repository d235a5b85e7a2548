/-
  Own text: a new disk, as the program makes it.
-/
import Derived.Test.YtlidmnehpcodkaaBunS
namespace Go.Proofs.Ytlidmnehpcodkaa
open Go.RowKit

end Go.Proofs.Ytlidmnehpcodkaa
