/-
  Own text: how many entries a text tells.
-/
import Derived.Test.YtogpgocldgdeaaaDoorIDirOfW
namespace Go.Proofs.YtogpgocldgdeaaaDoor
open Go.RowKit

theorem ReadsE.size {l : List Int} {p : Nat} {es : List EntD} (h : ReadsE l p es) : es.length + p ≤ l.length ∨ es = [] := by
  induction h with
  | nil _ => exact .inr rfl
  | cons h1 h2 h3 _ ih =>
    left
    have g1 := goodT_next h2
    have g2 := good_nextE h3
    rcases ih with h | rfl
    · rw [List.length_cons]; omega
    · simp; omega
theorem dirL_small {s : ByteArray} (hs : s.size ≤ 1048576) : (dirL s).length ≤ 2097153 := by
  unfold dirL
  split
  · rename_i h
    have h1 := (Classical.choose_spec h).1.size
    rw [bytesOf_len] at h1
    rcases h1 with h2 | h2
    · omega
    · rw [h2]; simp
  · simp
end Go.Proofs.YtogpgocldgdeaaaDoor
