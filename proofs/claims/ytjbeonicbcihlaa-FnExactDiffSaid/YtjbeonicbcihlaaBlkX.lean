/-
  Own text: the blocks of a branch, as both programs give them, with bounds.
-/
import Derived.Test.YtjbeonicbcihlaaAnsW
import Derived.Test.YtjbeonicbcihlaaSBlkW
import Derived.Test.YtjbeonicbcihlaaIBlkW
namespace Go.Proofs.Ytjbeonicbcihlaa
open Go.RowKit

theorem fsBl_small (F : FsD) : (fsBl F).length ≤ 1048576 := by
  by_cases h : ShapeP F
  · rw [fsBl_len h]
    have := h.1
    unfold CountP at this
    omega
  · rw [fsBl_no (shOk_no h)]; simp
theorem specFsBlocksX (v : Value) (F : FsD) (W : World) (hs : szF F ≤ 1048576) (hr : RdFs W v F) :
    Calls Try.prog 19 #[v] W fun e w' => ∃ u, e = .returned u ∧ OwnTx w' W.heap.size w'.heap.size u (fsBl F) ∧ Below W.heap.size W w' := by
  refine (specFsBlocks v F W (smF_sz hs) hr).mono ?_
  rintro e w' ⟨u, rfl, ho, hb⟩
  exact ⟨u, rfl, OwnTx.of ho, hb⟩
theorem implFsBlocksX (v : Value) (F : FsD) (W : World) (hs : szF F ≤ 1048576) (hr : RdFs W v F) :
    Calls Try.prog 20 #[v] W fun e w' => ∃ u, e = .returned u ∧ OwnTx w' W.heap.size w'.heap.size u (fsBl F) ∧ Below W.heap.size W w' := by
  refine (implFsBlocks v F W (smF_sz hs) hr).mono ?_
  rintro e w' ⟨u, rfl, ho, hb⟩
  exact ⟨u, rfl, OwnTx.of ho, hb⟩
end Go.Proofs.Ytjbeonicbcihlaa
