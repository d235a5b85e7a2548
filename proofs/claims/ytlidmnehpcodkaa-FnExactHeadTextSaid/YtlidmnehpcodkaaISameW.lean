/-
  Own text: whether two disks are the same, as the program tells it.
-/
import Derived.Test.YtlidmnehpcodkaaBunS
namespace Go.Proofs.Ytlidmnehpcodkaa
open Go.RowKit

end Go.Proofs.Ytlidmnehpcodkaa
