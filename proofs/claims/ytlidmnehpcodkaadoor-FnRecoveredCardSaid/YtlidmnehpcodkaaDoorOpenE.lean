/-
  Own text: what the frame tells of a row of writes, of a row of events that came in.
-/
import Derived.Test.YtlidmnehpcodkaaDoorBunA
import Derived.Test.YtlidmnehpcodkaaDoorEvBase
import Derived.Deep.Strs
namespace Go.Proofs.YtlidmnehpcodkaaDoor
open Go.ChangeShapes Go.WideShapes Go.ChangeAt Go.RowKit

def FitP (l : List PutD) : Prop := l.length ≤ maxLen ∧ ∀ p ∈ l, p.2.size ≤ maxLen
def FitE (l : List EvD) : Prop := l.length ≤ maxLen ∧ ∀ p ∈ l, p.2.2.size ≤ maxLen
section
variable {H : Type} {enc : TypeId × Value → H} {w : World} {spare : Nat → Bool} {held : Bool}

set_option maxRecDepth 100000 in
theorem open_Puts {r : Reach} {b0 : Nat} {v : Value} {d : DataW H} {p : List MemPlace} (hv : Value.okWide Tryd.prog w r b0 56 v) (h : DataW.Trod enc Tryd.prog w 0 (fun _ => true) held 56 v d p) :
    ∃ (a : Option Addr) (cap : Nat) (l : List PutD), v = .slice a l.length cap ∧ FitP l ∧ RdF encP 2 w a l := by
  obtain ⟨a0, len0, cap0, rfl⟩ := okWide_slice Tryd.underlying56 hv
  obtain ⟨fuel, hf⟩ := h
  obtain ⟨a, cap, l, h1, h2, h3, h4⟩ := puts_of_trod hf
  exact ⟨a, cap, l, h1, ⟨h2, fun p hp => (h3 p hp).1⟩, h4⟩

end
end Go.Proofs.YtlidmnehpcodkaaDoor
