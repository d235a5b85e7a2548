/-
  Own text: the journal's functions that read heads, as the program does them, together.
-/
import Derived.Test.YtlidmnehpcodkaaDoorIHeadOfW
import Derived.Test.YtlidmnehpcodkaaDoorIRecW
