/-
  Own text: answers that are rows of texts.
-/
import Derived.Test.YtmnngfaelanbcaaTxtW
namespace Go.Proofs.Ytmnngfaelanbcaa
open Go.RowKit

def RdTx (w : World) (v : Value) (l : List ByteArray) : Prop := ∃ a c, v = .slice a l.length c ∧ RdS w a l
def OwnTx (w : World) (lo hi : Nat) (v : Value) (l : List ByteArray) : Prop := w.ownsRow lo 9 1 v l.length (l.map Value.string) ∧ ∀ j, blk v j → j < hi
theorem OwnTx.rd {w : World} {lo hi : Nat} {v : Value} {l : List ByteArray} (h : OwnTx w lo hi v l) : RdTx w v l := by
  obtain ⟨a, c, rfl, _, hr⟩ := own_rdS h.1
  exact ⟨a, c, rfl, hr⟩
theorem OwnTx.below {w w' : World} {lo hi : Nat} {v : Value} {l : List ByteArray} (h : OwnTx w lo hi v l) (hb : Below w.heap.size w w') : OwnTx w' lo hi v l := ⟨ownsRow_below h.1 hb (Nat.le_refl _), h.2⟩
theorem OwnTx.only {S : Nat → Prop} {w w' : World} {lo hi : Nat} {v : Value} {l : List ByteArray} (h : OwnTx w lo hi v l) (ho : Only S w w') (hs : ∀ k, lo ≤ k → k < hi → ¬ S k) : OwnTx w' lo hi v l := ⟨own_only h.1 ho (fun k hk => hs k (h.1.lt k hk).1 (h.2 k hk)), h.2⟩
theorem OwnTx.of {w : World} {lo : Nat} {v : Value} {l : List ByteArray} (h : w.ownsRow lo 9 1 v l.length (l.map Value.string)) : OwnTx w lo w.heap.size v l := ⟨h, fun j hj => (h.lt j hj).2⟩
theorem eqTxX (v u : Value) (l : List ByteArray) (w : World) (hl : l.length ≤ 4194304) (hr : RdTx w v l) (hs : RdTx w u l) : Calls Try.prog 17 #[v, u] w fun e w' => e = .returned (.bool true) ∧ Below w.heap.size w w' := by
  obtain ⟨a, c, rfl, hr⟩ := hr
  obtain ⟨a', c', rfl, hs⟩ := hs
  exact eqS _ _ _ _ l w hl hr hs
theorem markTxX (v : Value) (lo hi k : Nat) (l : List ByteArray) (w : World) (hl : l.length ≤ 4194304) (hk : k ≤ 67108864) (_ : hi ≤ w.heap.size) (ho : OwnTx w lo hi v l) : Calls Try.prog 19 #[v, .int .i64 k] w fun e w' => e = .returned (.int .i64 ((k + l.length : Nat) : Int)) ∧ OwnTx w' lo hi v (marksS k l.length) ∧ Only (fun j => lo ≤ j ∧ j < hi) w w' := by
  refine (markStrO v l.length k lo l w (by omega) (by omega) ho.1).mono ?_
  rintro e w' ⟨rfl, h1, h2⟩
  refine ⟨rfl, ⟨by rw [marksS_len]; exact h1, ho.2⟩, h2.mono fun j _ hj => ⟨(ho.1.lt j hj).1, ho.2 j hj⟩⟩
theorem heldTxX (v : Value) (lo hi k : Nat) (l : List ByteArray) (w : World) (hl : l.length ≤ 4194304) (hk : k ≤ 67108864) (ho : OwnTx w lo hi v (marksS k l.length)) : Calls Try.prog 20 #[v, .int .i64 k] w fun e w' => e = .returned (.int .i64 ((k + l.length : Nat) : Int)) ∧ Below w.heap.size w w' := by
  obtain ⟨a, c, rfl, hr⟩ := ho.rd
  rw [marksS_len]
  exact heldStrs a c l.length k w (by omega) (by omega) hr
end Go.Proofs.Ytmnngfaelanbcaa
