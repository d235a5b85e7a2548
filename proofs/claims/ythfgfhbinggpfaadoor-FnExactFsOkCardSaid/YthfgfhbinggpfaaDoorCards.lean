/-
  DERIVED. GIVEN WITH THE SEED: THE CARDS: each row of YthfgfhbinggpfaaDoorRows.lean that lists a variable, with what it lists TIED to the program's text (the seventh form; the later family's looks); each row that meets fmt, with fmt's text TOLD by the authors' own Lean function (tested against real Go, not proved from fmt's source: count such statements apart). THE CARD IS WHAT COUNTS. Prove the row's statement (the work); the ties are given (YthfgfhbinggpfaaDoorTie.lean); close each card by the builder's one call (the guide's Derived/Test/ToyasCard.lean, 'card_holds'). Laid BY PROGRAM, IN A SANDBOX (cutbox-door.mjs). By AI agents, Wed Nov 11 2026. No macro, syntax, notation, axiom, sorry.
-/
import Derived.Test.YthfgfhbinggpfaaDoorRows
import GoSem.ClaimSeven
namespace Go.Proofs.YthfgfhbinggpfaaDoor
namespace Rows

/-- THE TIED CARD OF 'laws.FnExactFsOk'. -/
def fnExactFsOkCard : Claim7 := { stood := { row := fnExactFsOkRow, standIns := [], harness := (true, "a0085d486652df01226d257daeee21983d8fd3d1066916d43b6d502a5f42397a"), looks := false }, kinds := [], alts := [], laidByText := true, laidKinds := [.sentinel], laidTests := true, laidLooks := .later }
def FnExactFsOkCardSaid : Prop := Claim7.holds Tryd.pinned (.plain (OpenSpec.ofChange fnExactFsOkSpec)) fnExactFsOkCard

/-- THE TIED CARD OF 'laws.FnExactWalk'. -/
def fnExactWalkCard : Claim7 := { stood := { row := fnExactWalkRow, standIns := [], harness := (true, "a0085d486652df01226d257daeee21983d8fd3d1066916d43b6d502a5f42397a"), looks := false }, kinds := [], alts := [], laidByText := true, laidKinds := [.sentinel], laidTests := true, laidLooks := .later }
def FnExactWalkCardSaid : Prop := Claim7.holds Tryd.pinned (.plain (OpenSpec.ofChange fnExactWalkSpec)) fnExactWalkCard

/-- THE TIED CARD OF 'laws.FnExactKindAt'. -/
def fnExactKindAtCard : Claim7 := { stood := { row := fnExactKindAtRow, standIns := [], harness := (true, "a0085d486652df01226d257daeee21983d8fd3d1066916d43b6d502a5f42397a"), looks := false }, kinds := [], alts := [], laidByText := true, laidKinds := [.sentinel], laidTests := true, laidLooks := .later }
def FnExactKindAtCardSaid : Prop := Claim7.holds Tryd.pinned (.plain (OpenSpec.ofChange fnExactKindAtSpec)) fnExactKindAtCard

/-- THE TIED CARD OF 'laws.FnExactHiddenOf'. -/
def fnExactHiddenOfCard : Claim7 := { stood := { row := fnExactHiddenOfRow, standIns := [], harness := (true, "a0085d486652df01226d257daeee21983d8fd3d1066916d43b6d502a5f42397a"), looks := false }, kinds := [], alts := [], laidByText := true, laidKinds := [.sentinel], laidTests := true, laidLooks := .later }
def FnExactHiddenOfCardSaid : Prop := Claim7.holds Tryd.pinned (.plain (OpenSpec.ofChange fnExactHiddenOfSpec)) fnExactHiddenOfCard

/-- THE SECOND FORM's CARD OF 'laws.FnExactFsOk'. -/
def fnExactFsOkUptoCard : Claim7 := { stood := { row := fnExactFsOkUptoRow, standIns := [], harness := (true, "a0085d486652df01226d257daeee21983d8fd3d1066916d43b6d502a5f42397a"), looks := false }, kinds := [], alts := [], laidByText := true, laidKinds := [.sentinel], laidTests := true, laidLooks := .later }
def FnExactFsOkUptoCardSaid : Prop := Claim7.holds Tryd.pinned (.plain (OpenSpec.upto fnExactFsOkSpec)) fnExactFsOkUptoCard

/-- THE SECOND FORM's CARD OF 'laws.FnExactWalk'. -/
def fnExactWalkUptoCard : Claim7 := { stood := { row := fnExactWalkUptoRow, standIns := [], harness := (true, "a0085d486652df01226d257daeee21983d8fd3d1066916d43b6d502a5f42397a"), looks := false }, kinds := [], alts := [], laidByText := true, laidKinds := [.sentinel], laidTests := true, laidLooks := .later }
def FnExactWalkUptoCardSaid : Prop := Claim7.holds Tryd.pinned (.plain (OpenSpec.upto fnExactWalkSpec)) fnExactWalkUptoCard

/-- THE SECOND FORM's CARD OF 'laws.FnExactKindAt'. -/
def fnExactKindAtUptoCard : Claim7 := { stood := { row := fnExactKindAtUptoRow, standIns := [], harness := (true, "a0085d486652df01226d257daeee21983d8fd3d1066916d43b6d502a5f42397a"), looks := false }, kinds := [], alts := [], laidByText := true, laidKinds := [.sentinel], laidTests := true, laidLooks := .later }
def FnExactKindAtUptoCardSaid : Prop := Claim7.holds Tryd.pinned (.plain (OpenSpec.upto fnExactKindAtSpec)) fnExactKindAtUptoCard

/-- THE SECOND FORM's CARD OF 'laws.FnExactHiddenOf'. -/
def fnExactHiddenOfUptoCard : Claim7 := { stood := { row := fnExactHiddenOfUptoRow, standIns := [], harness := (true, "a0085d486652df01226d257daeee21983d8fd3d1066916d43b6d502a5f42397a"), looks := false }, kinds := [], alts := [], laidByText := true, laidKinds := [.sentinel], laidTests := true, laidLooks := .later }
def FnExactHiddenOfUptoCardSaid : Prop := Claim7.holds Tryd.pinned (.plain (OpenSpec.upto fnExactHiddenOfSpec)) fnExactHiddenOfUptoCard
end Rows
end Go.Proofs.YthfgfhbinggpfaaDoor
