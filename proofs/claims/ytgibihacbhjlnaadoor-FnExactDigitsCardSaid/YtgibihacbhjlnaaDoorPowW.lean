/-
  Own text: what the row's list gives of the library's table of powers of ten.
-/
import Derived.Test.YtgibihacbhjlnaaDoorRows
import Derived.Test.YtgibihacbhjlnaaDoorBase
import Derived.Lib.LaidTab
import Derived.Lib.ItoaNum
import Derived.LaidMore
import Derived.Stop.Joined
import Derived.Stop.LaidErr
namespace Go.Proofs.YtgibihacbhjlnaaDoor
open Go.RowKit
theorem gPow : Tryd.prog.globalNamed "internal/strconv.uint64pow10" = some 1 := by kernel_rfl
theorem tPow : (Tryd.prog.globals[1]?).map (·.type) = some 79 := by kernel_rfl
theorem dPow : (Rows.laid_internal_strconv_uint64pow10 : DataW Unit) = Lib.tabData .u64 Lib.pow10Tab := by rfl
theorem powTab {W : World} {r : List (String × DataW Unit)} (h : laidMet Tryd.prog (("internal/strconv.uint64pow10", Rows.laid_internal_strconv_uint64pow10) :: r) W) : Lib.TabIs Tryd.prog W "internal/strconv.uint64pow10" .u64 Lib.pow10Tab := by
  rw [dPow] at h
  exact Lib.tabIs_of_head gPow tPow Tryd.underlying79 Tryd.underlying66 (by kernel_rfl) (by kernel_rfl) h
end Go.Proofs.YtgibihacbhjlnaaDoor
