/-
  DERIVED. GIVEN WITH THE SEED: THE CARDS: each row of YtaabcfgjmankgaaDoorRows.lean that lists a variable, with what it lists TIED to the program's text (the seventh form; the later family's looks); each row that meets fmt, with fmt's text TOLD by the authors' own Lean function (tested against real Go, not proved from fmt's source: count such statements apart). THE CARD IS WHAT COUNTS. Prove the row's statement (the work); the ties are given (YtaabcfgjmankgaaDoorTie.lean); close each card by the builder's one call (the guide's Derived/Test/ToyasCard.lean, 'card_holds'). Laid BY PROGRAM, IN A SANDBOX (cutbox-door.mjs). By AI agents, Wed Nov 11 2026. No macro, syntax, notation, axiom, sorry.
-/
import Derived.Test.YtaabcfgjmankgaaDoorRows
import GoSem.ClaimSeven
namespace Go.Proofs.YtaabcfgjmankgaaDoor
namespace Rows

/-- THE TIED CARD OF 'laws.FnExactFsOf'. -/
def fnExactFsOfCard : Claim7 := { stood := { row := fnExactFsOfRow, standIns := [], harness := (true, "b042ff0a2a3ead16322b0253089507e16a910d255fd189c6a4747232e1044584"), looks := false }, kinds := [], alts := [], laidByText := true, laidKinds := [.sentinel], laidTests := true, laidLooks := .later }
def FnExactFsOfCardSaid : Prop := Claim7.holds Tryd.pinned (.plain (OpenSpec.ofChange fnExactFsOfSpec)) fnExactFsOfCard

/-- THE SECOND FORM's CARD OF 'laws.FnExactFsOf'. -/
def fnExactFsOfUptoCard : Claim7 := { stood := { row := fnExactFsOfUptoRow, standIns := [], harness := (true, "b042ff0a2a3ead16322b0253089507e16a910d255fd189c6a4747232e1044584"), looks := false }, kinds := [], alts := [], laidByText := true, laidKinds := [.sentinel], laidTests := true, laidLooks := .later }
def FnExactFsOfUptoCardSaid : Prop := Claim7.holds Tryd.pinned (.plain (OpenSpec.upto fnExactFsOfSpec)) fnExactFsOfUptoCard
end Rows
end Go.Proofs.YtaabcfgjmankgaaDoor
