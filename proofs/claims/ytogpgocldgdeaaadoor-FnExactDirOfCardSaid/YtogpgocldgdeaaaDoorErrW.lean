/-
  Own text: what the row's list gives of the program's own error variable: it holds an error that is not nil.
-/
import Derived.Test.YtogpgocldgdeaaaDoorRows
import Derived.Test.YtogpgocldgdeaaaDoorBase
import Derived.LaidMore
import Derived.Stop.Joined
import Derived.Stop.LaidErr
namespace Go.Proofs.YtogpgocldgdeaaaDoor
open Go.RowKit
def errG : Nat := 0
theorem gErr : Tryd.prog.globalNamed "loop.example/g00483/impl.errNoNum" = some errG := by kernel_rfl
theorem tErr : (Tryd.prog.globals[errG]?).map (·.type) = some 83 := by kernel_rfl
theorem nErr : Tryd.prog.typeName? 3 86 = some "*errors.errorString" := by kernel_rfl
theorem starErr : "*" ++ "errors.errorString" = "*errors.errorString" := by decide
theorem rowErr (u : TypeId) (h : Tryd.prog.typeName? 3 u = some "*errors.errorString") : u = 86 :=
  typeName_ptr_named (nm := "errors.errorString") (by rw [starErr]; kernel_rfl) (by kernel_rfl) (by decide) u (by rw [starErr]; exact h)
theorem errVar (l : List (String × DataW Unit)) {W : World} (hl : l = [("loop.example/g00483/impl.errNoNum", Rows.laid_loop_example_g00483_impl_errNoNum)]) (h : laidMetH Tryd.prog l W) :
    ∃ a : Addr, W.var? Tryd.prog "loop.example/g00483/impl.errNoNum" = some #[.iface 86 (.pointer (some a))] := by
  subst hl
  rw [MakeChecks.laidMetH_plain _ _ _ (by kernel_rfl)] at h
  obtain ⟨a, s, hv, _⟩ := laid_sentinel h gErr tErr Tryd.underlying83 rowErr Tryd.underlying86 Tryd.underlying104 rfl rfl Tryd.underlying9 (by kernel_rfl) (by kernel_rfl)
  exact ⟨a, hv⟩
end Go.Proofs.YtogpgocldgdeaaaDoor
