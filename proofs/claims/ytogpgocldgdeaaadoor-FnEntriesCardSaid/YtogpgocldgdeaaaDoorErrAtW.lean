/-
  Own text: the program's error variable holds what its text lays; a row of bytes stays where it was.
-/
import Derived.Test.YtogpgocldgdeaaaDoorGetNumW
namespace Go.Proofs.YtogpgocldgdeaaaDoor
open Go.RowKit

/-- The program's error variable holds what its text lays. -/
structure ErrAt (a : Addr) (w : World) : Prop where
  lt : errG < w.heap.size
  cell : w.cell? ⟨errG, 0, none⟩ = some (.iface 86 (.pointer (some a)))
theorem ErrAt.below {a : Addr} {w w' : World} (h : ErrAt a w) (hb : Below w.heap.size w w') : ErrAt a w' := ⟨Nat.lt_of_lt_of_le h.lt hb.size, (hb.cell h.lt).trans h.cell⟩

theorem Came.below {w w' : World} {x : Option Addr} {cap : Nat} {l : List Int} (h : Came w x cap l) (hb : Below w.heap.size w w') : Came w' x cap l := ⟨h.hsmall, h.hu8, h.hcap, h.hmax, h.hrd.below hb (Nat.le_refl _)⟩
end Go.Proofs.YtogpgocldgdeaaaDoor
