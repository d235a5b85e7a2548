/-
  Own text: the laws' marks on rows of events, with what they leave alone; whether they are still there.
-/
import Derived.Test.YtlidmnehpcodkaaDoorEvW
namespace Go.Proofs.YtlidmnehpcodkaaDoor
open Go.RowKit

/-- The marks of n events, from k on. -/
def marksE (k n : Nat) : List EvD := (List.range n).map fun i => (((k + 3 * i : Nat) : Int), ((k + 3 * i + 1 : Nat) : Int), markS (k + 3 * i + 2))
def markToE (l : List EvD) (k i : Nat) : List EvD := marksE k i ++ l.drop i
theorem marksE_len (k n : Nat) : (marksE k n).length = n := by simp [marksE]
theorem markToE_zero (l : List EvD) (k : Nat) : markToE l k 0 = l := by simp [markToE, marksE]
theorem markToE_all (l : List EvD) (k : Nat) : markToE l k l.length = marksE k l.length := by simp [markToE]
theorem markToE_len (l : List EvD) (k i : Nat) (h : i ≤ l.length) : (markToE l k i).length = l.length := by simp [markToE, marksE_len]; omega
theorem markToE_set (l : List EvD) (k i : Nat) (h : i < l.length) : (markToE l k i).set i (((k + 3 * i : Nat) : Int), ((k + 3 * i + 1 : Nat) : Int), markS (k + 3 * i + 2)) = markToE l k (i + 1) := by
  unfold markToE
  rw [List.set_append_right _ _ (by rw [marksE_len]; exact Nat.le_refl _), marksE_len, Nat.sub_self]
  have e : marksE k (i + 1) = marksE k i ++ [(((k + 3 * i : Nat) : Int), ((k + 3 * i + 1 : Nat) : Int), markS (k + 3 * i + 2))] := by unfold marksE; rw [List.range_succ, List.map_append]; rfl
  rw [e, List.append_assoc, List.drop_eq_getElem_cons h]; rfl
theorem marksE_at (k n i : Nat) (h : i < n) : (marksE k n)[i]'(by rw [marksE_len]; exact h) = (((k + 3 * i : Nat) : Int), ((k + 3 * i + 1 : Nat) : Int), markS (k + 3 * i + 2)) := by simp [marksE]

end Go.Proofs.YtlidmnehpcodkaaDoor
