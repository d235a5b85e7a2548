/-
  DERIVED. GIVEN WITH THE SEED: THE CARDS: each row of YtogpgocldgdeaaaDoorRows.lean that lists a variable, with what it lists TIED to the program's text (the seventh form; the later family's looks); each row that meets fmt, with fmt's text TOLD by the authors' own Lean function (tested against real Go, not proved from fmt's source: count such statements apart). THE CARD IS WHAT COUNTS. Prove the row's statement (the work); the ties are given (YtogpgocldgdeaaaDoorTie.lean); close each card by the builder's one call (the guide's Derived/Test/ToyasCard.lean, 'card_holds'). Laid BY PROGRAM, IN A SANDBOX (cutbox-door.mjs). By AI agents, Wed Nov 11 2026. No macro, syntax, notation, axiom, sorry.
-/
import Derived.Test.YtogpgocldgdeaaaDoorRows
import GoSem.ClaimSeven
namespace Go.Proofs.YtogpgocldgdeaaaDoor
namespace Rows

/-- THE TIED CARD OF 'laws.FnEntries'. -/
def fnEntriesCard : Claim7 := { stood := { row := fnEntriesRow, standIns := [], harness := (true, "dfb1beac2dcdd0492a11870fa4cb8c180095ee9047a91adfbf4fa1449613dd3b"), looks := false }, kinds := [], alts := [], laidByText := true, laidKinds := [.sentinel], laidTests := true, laidLooks := .later }
def FnEntriesCardSaid : Prop := Claim7.holds Tryd.pinned (.plain (OpenSpec.ofChange fnEntriesSpec)) fnEntriesCard

/-- THE TIED CARD OF 'laws.FnExactDirOf'. -/
def fnExactDirOfCard : Claim7 := { stood := { row := fnExactDirOfRow, standIns := [], harness := (true, "dfb1beac2dcdd0492a11870fa4cb8c180095ee9047a91adfbf4fa1449613dd3b"), looks := false }, kinds := [], alts := [], laidByText := true, laidKinds := [.sentinel], laidTests := true, laidLooks := .later }
def FnExactDirOfCardSaid : Prop := Claim7.holds Tryd.pinned (.plain (OpenSpec.ofChange fnExactDirOfSpec)) fnExactDirOfCard

/-- THE SECOND FORM's CARD OF 'laws.FnEntries'. -/
def fnEntriesUptoCard : Claim7 := { stood := { row := fnEntriesUptoRow, standIns := [], harness := (true, "dfb1beac2dcdd0492a11870fa4cb8c180095ee9047a91adfbf4fa1449613dd3b"), looks := false }, kinds := [], alts := [], laidByText := true, laidKinds := [.sentinel], laidTests := true, laidLooks := .later }
def FnEntriesUptoCardSaid : Prop := Claim7.holds Tryd.pinned (.plain (OpenSpec.upto fnEntriesSpec)) fnEntriesUptoCard

/-- THE SECOND FORM's CARD OF 'laws.FnExactDirOf'. -/
def fnExactDirOfUptoCard : Claim7 := { stood := { row := fnExactDirOfUptoRow, standIns := [], harness := (true, "dfb1beac2dcdd0492a11870fa4cb8c180095ee9047a91adfbf4fa1449613dd3b"), looks := false }, kinds := [], alts := [], laidByText := true, laidKinds := [.sentinel], laidTests := true, laidLooks := .later }
def FnExactDirOfUptoCardSaid : Prop := Claim7.holds Tryd.pinned (.plain (OpenSpec.upto fnExactDirOfSpec)) fnExactDirOfUptoCard
end Rows
end Go.Proofs.YtogpgocldgdeaaaDoor
