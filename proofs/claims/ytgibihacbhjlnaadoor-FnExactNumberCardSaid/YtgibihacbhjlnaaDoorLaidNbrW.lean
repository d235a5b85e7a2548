/-
  Own text: what the row of FnExactNumber lists, as its walk asks it.
-/
import Derived.Test.YtgibihacbhjlnaaDoorShownW
namespace Go.Proofs.YtgibihacbhjlnaaDoor
open Go.RowKit
theorem gSyn : Tryd.prog.globalNamed "strconv.ErrSyntax" = some 2 := by kernel_rfl
theorem tSyn : (Tryd.prog.globals[2]?).map (·.type) = some 59 := by kernel_rfl
theorem gRng : Tryd.prog.globalNamed "strconv.ErrRange" = some 3 := by kernel_rfl
theorem tRng : (Tryd.prog.globals[3]?).map (·.type) = some 59 := by kernel_rfl
theorem varsOf {W : World} (h : laidMetH Tryd.prog Rows.fnExactNumberRow.laid W) :
    ∃ a : Addr, W.var? Tryd.prog "loop.example/g00483/impl.errNoNum" = some #[.iface 91 (.pointer (some a))] ∧ Vars W a := by
  rw [MakeChecks.laidMetH_plain _ _ _ (by kernel_rfl)] at h
  have h3 := h.tail.tail
  have h4 := h3.tail
  have h5 := h4.tail
  have h6 := h5.tail
  obtain ⟨x3, _, hv3, _⟩ := laid_sentinel h4 gRng tRng Tryd.underlying59 rowErr Tryd.underlying91 Tryd.underlying93 rfl rfl Tryd.underlying9 (by kernel_rfl) (by kernel_rfl)
  obtain ⟨x2, _, hv2, _⟩ := laid_sentinel h5 gSyn tSyn Tryd.underlying59 rowErr Tryd.underlying91 Tryd.underlying93 rfl rfl Tryd.underlying9 (by kernel_rfl) (by kernel_rfl)
  obtain ⟨a, _, hv, _⟩ := laid_sentinel h6 gErr tErr Tryd.underlying59 rowErr Tryd.underlying91 Tryd.underlying93 rfl rfl Tryd.underlying9 (by kernel_rfl) (by kernel_rfl)
  have hc : W.cell? ⟨errG, 0, none⟩ = some (.iface 91 (.pointer (some a))) := by simpa using World.var?_cell gErr hv 0
  exact ⟨a, hv, powTab h3, World.block_lt_of_cell? W _ hc, hc, ⟨x2, by simpa using World.var?_cell gSyn hv2 0⟩, ⟨x3, by simpa using World.var?_cell gRng hv3 0⟩⟩
theorem errVarOfFnExactNumber (l : List (String × DataW Unit)) {W : World} (hl : l = Rows.fnExactNumberRow.laid) (h : laidMetH Tryd.prog l W) :
    ∃ a : Addr, W.var? Tryd.prog "loop.example/g00483/impl.errNoNum" = some #[.iface 91 (.pointer (some a))] := by
  subst hl
  obtain ⟨a, h, _⟩ := varsOf h
  exact ⟨a, h⟩
end Go.Proofs.YtgibihacbhjlnaaDoor
