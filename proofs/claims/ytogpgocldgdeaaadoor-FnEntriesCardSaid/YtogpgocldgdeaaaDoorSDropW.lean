/-
  Own text: an entry is dropped, by the other program (written by dropgen.py).
-/
import Derived.Test.YtogpgocldgdeaaaDoorSAddB
import Derived.Test.YtogpgocldgdeaaaDoorAppAt
namespace Go.Proofs.YtogpgocldgdeaaaDoor
open Go.RowKit

theorem enDropped_at {l : List EntD} {s : ByteArray} {k : Nat} (hk : k < l.length) (h0 : (l[k]).1 = s) (h : ∀ j (hj : j < l.length), j < k → (l[j]).1 ≠ s) : enDropped l s = l.take k ++ l.drop (k + 1) ∧ enHas l s = true := by
  have e := enIdx_at hk h0 h
  unfold enDropped enHas
  rw [e, if_pos hk]
  exact ⟨List.eraseIdx_eq_take_drop_succ _ _, decide_eq_true hk⟩
theorem enDropped_none {l : List EntD} {s : ByteArray} (h : ∀ j (hj : j < l.length), (l[j]).1 ≠ s) : enDropped l s = l ∧ enHas l s = false := by
  have e := enIdx_none h
  unfold enDropped enHas
  rw [if_neg e]
  exact ⟨rfl, decide_eq_false e⟩

end Go.Proofs.YtogpgocldgdeaaaDoor
