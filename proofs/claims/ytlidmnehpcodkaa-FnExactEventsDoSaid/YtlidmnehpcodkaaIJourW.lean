/-
  Own text: the journal's functions, as the program does them, together.
-/
import Derived.Test.YtlidmnehpcodkaaITxW
import Derived.Test.YtlidmnehpcodkaaIHeadTW
import Derived.Test.YtlidmnehpcodkaaIHomeW
import Derived.Test.YtlidmnehpcodkaaIEvDoW
