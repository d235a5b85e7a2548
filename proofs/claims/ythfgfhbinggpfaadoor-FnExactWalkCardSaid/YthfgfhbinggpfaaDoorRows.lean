/-
  NARROWER THAN 'FOR EVERY INPUT', by the rows' own cells (each row's printed sentence says how): FnExactFsOk: ifaces, laid · FnExactWalk: ifaces, laid · FnExactKindAt: ifaces, laid · FnExactHiddenOf: ifaces, laid.
  DERIVED. THE GIVEN ROWS OF THIS SEAT. 4 by the template 'for every input the law returns true; each argument reads behind the call as it read before'; 0 by the template 'total and deterministic' (their statements: YthfgfhbinggpfaaDoorTotals.lean).
  GIVEN WITH THE SEED: the statements are not yours to turn. If you find one false, say at which input.
  Laid BY PROGRAM, IN A SANDBOX (cutbox-rows.mjs): the forced cells as the released guide's own fill.sh prints them over the translation 0ac1f25c2301920f… (all of the seat's roots in one cut). By AI agents, Wed Nov 11 2026. No macro, syntax, notation, axiom, sorry.
-/
import Derived.Test.YthfgfhbinggpfaaDoorChecked
import GoSem.Claim
import GoSem.ClaimJoined
import GoSem.ClaimMapViews
import Derived.JoinedTies
import Derived.KernelRfl
namespace Go.Proofs.YthfgfhbinggpfaaDoor
/- THE CELL 'sum', in the pinned program and in every row, IS THE sha256 OF THE DUMP (.gsa) THAT YthfgfhbinggpfaaDoorProg.lean LOADS. Nothing in Lean hashes anything: it is a label: what it is worth is what the hold of that sum in a sandbox is worth. -/
noncomputable def Tryd.pinned : Pinned := { name := "ythfgfhbinggpfaadoor", sum := "0ac1f25c2301920f8c45f94a0542b13b4db3c9efd8e1ba18eb8f4e1122e70562", checked := Tryd.checked }
namespace Rows
def none {H : Type} : Left H := { results := [], args := [] }

/- WHAT THE LISTED PACKAGE-LEVEL VARIABLES READ AS WHEN THE CALL BEGINS. Each datum BY PROGRAM (the guide's laid-datum.mjs) off the statement by which the dump's own 'gosem.cut.vars' lays the variable. In a bare row this is a premise. The card (YthfgfhbinggpfaaDoorCards.lean) ties it to the program's text. -/
def laid_loop_example_g00483_impl_errNoNum {H : Type} : DataW H := .iface "*errors.errorString" (.ptr (.agg [.lit (.string [110, 111, 32, 110, 117, 109, 98, 101, 114])]))

/-- 'laws.FnExactFsOk': WHATEVER THE INPUT: true; the input reads as it did. -/
def fnExactFsOkSpec : ChangeSpec := { name := "fnExactFsOk", vars := ["loop.example/g00483/impl.errNoNum"], fn := fun _ => fun
  | [d, g1] => { results := [.lit (.bool true)], args := [d], vars := [g1] }
  | _ => none }
def fnExactFsOkRow : OpenClaim := { program := "ythfgfhbinggpfaadoor", sum := "0ac1f25c2301920f8c45f94a0542b13b4db3c9efd8e1ba18eb8f4e1122e70562", func := "loop.example/g00483/laws.FnExactFsOk", spec := "fnExactFsOk", inPlace := ["internal/abi.NoEscape"], unfollowed := true, recurses := true, named := ["loop.example/g00483/impl.errNoNum"], ifaces := true, apart := false, laid := [("loop.example/g00483/impl.errNoNum", laid_loop_example_g00483_impl_errNoNum)] }
def FnExactFsOkSaid : Prop := fnExactFsOkRow.holds Tryd.pinned (OpenSpec.ofChange fnExactFsOkSpec)

/-- ITS FALSE NEIGHBOUR: 'it returns false'. Refute it at one input. -/
def fnExactFsOkWrong : ChangeSpec := { name := "fnExactFsOk", vars := ["loop.example/g00483/impl.errNoNum"], fn := fun _ => fun
  | [d, g1] => { results := [.lit (.bool false)], args := [d], vars := [g1] }
  | _ => none }
def FnExactFsOkWrongFalsely : Prop := fnExactFsOkRow.holds Tryd.pinned (OpenSpec.ofChange fnExactFsOkWrong)

/-- 'laws.FnExactWalk': WHATEVER THE INPUT: true; the input reads as it did. -/
def fnExactWalkSpec : ChangeSpec := { name := "fnExactWalk", vars := ["loop.example/g00483/impl.errNoNum"], fn := fun _ => fun
  | [d1, d2, g1] => { results := [.lit (.bool true)], args := [d1, d2], vars := [g1] }
  | _ => none }
def fnExactWalkRow : OpenClaim := { program := "ythfgfhbinggpfaadoor", sum := "0ac1f25c2301920f8c45f94a0542b13b4db3c9efd8e1ba18eb8f4e1122e70562", func := "loop.example/g00483/laws.FnExactWalk", spec := "fnExactWalk", inPlace := ["internal/abi.NoEscape"], unfollowed := true, recurses := true, named := ["loop.example/g00483/impl.errNoNum"], ifaces := true, apart := false, laid := [("loop.example/g00483/impl.errNoNum", laid_loop_example_g00483_impl_errNoNum)] }
def FnExactWalkSaid : Prop := fnExactWalkRow.holds Tryd.pinned (OpenSpec.ofChange fnExactWalkSpec)

/-- ITS FALSE NEIGHBOUR: 'it returns false'. Refute it at one input. -/
def fnExactWalkWrong : ChangeSpec := { name := "fnExactWalk", vars := ["loop.example/g00483/impl.errNoNum"], fn := fun _ => fun
  | [d1, d2, g1] => { results := [.lit (.bool false)], args := [d1, d2], vars := [g1] }
  | _ => none }
def FnExactWalkWrongFalsely : Prop := fnExactWalkRow.holds Tryd.pinned (OpenSpec.ofChange fnExactWalkWrong)

/-- 'laws.FnExactKindAt': WHATEVER THE INPUT: true; the input reads as it did. -/
def fnExactKindAtSpec : ChangeSpec := { name := "fnExactKindAt", vars := ["loop.example/g00483/impl.errNoNum"], fn := fun _ => fun
  | [d1, d2, g1] => { results := [.lit (.bool true)], args := [d1, d2], vars := [g1] }
  | _ => none }
def fnExactKindAtRow : OpenClaim := { program := "ythfgfhbinggpfaadoor", sum := "0ac1f25c2301920f8c45f94a0542b13b4db3c9efd8e1ba18eb8f4e1122e70562", func := "loop.example/g00483/laws.FnExactKindAt", spec := "fnExactKindAt", inPlace := ["internal/abi.NoEscape"], unfollowed := true, recurses := true, named := ["loop.example/g00483/impl.errNoNum"], ifaces := true, apart := false, laid := [("loop.example/g00483/impl.errNoNum", laid_loop_example_g00483_impl_errNoNum)] }
def FnExactKindAtSaid : Prop := fnExactKindAtRow.holds Tryd.pinned (OpenSpec.ofChange fnExactKindAtSpec)

/-- ITS FALSE NEIGHBOUR: 'it returns false'. Refute it at one input. -/
def fnExactKindAtWrong : ChangeSpec := { name := "fnExactKindAt", vars := ["loop.example/g00483/impl.errNoNum"], fn := fun _ => fun
  | [d1, d2, g1] => { results := [.lit (.bool false)], args := [d1, d2], vars := [g1] }
  | _ => none }
def FnExactKindAtWrongFalsely : Prop := fnExactKindAtRow.holds Tryd.pinned (OpenSpec.ofChange fnExactKindAtWrong)

/-- 'laws.FnExactHiddenOf': WHATEVER THE INPUT: true; the input reads as it did. -/
def fnExactHiddenOfSpec : ChangeSpec := { name := "fnExactHiddenOf", vars := ["loop.example/g00483/impl.errNoNum"], fn := fun _ => fun
  | [d, g1] => { results := [.lit (.bool true)], args := [d], vars := [g1] }
  | _ => none }
def fnExactHiddenOfRow : OpenClaim := { program := "ythfgfhbinggpfaadoor", sum := "0ac1f25c2301920f8c45f94a0542b13b4db3c9efd8e1ba18eb8f4e1122e70562", func := "loop.example/g00483/laws.FnExactHiddenOf", spec := "fnExactHiddenOf", inPlace := ["internal/abi.NoEscape"], unfollowed := true, recurses := true, named := ["loop.example/g00483/impl.errNoNum"], ifaces := true, apart := false, laid := [("loop.example/g00483/impl.errNoNum", laid_loop_example_g00483_impl_errNoNum)] }
def FnExactHiddenOfSaid : Prop := fnExactHiddenOfRow.holds Tryd.pinned (OpenSpec.ofChange fnExactHiddenOfSpec)

/-- ITS FALSE NEIGHBOUR: 'it returns false'. Refute it at one input. -/
def fnExactHiddenOfWrong : ChangeSpec := { name := "fnExactHiddenOf", vars := ["loop.example/g00483/impl.errNoNum"], fn := fun _ => fun
  | [d, g1] => { results := [.lit (.bool false)], args := [d], vars := [g1] }
  | _ => none }
def FnExactHiddenOfWrongFalsely : Prop := fnExactHiddenOfRow.holds Tryd.pinned (OpenSpec.ofChange fnExactHiddenOfWrong)

/- THE SECOND FORM. 'bulk': how many values and letters a reading holds, each counted each time it is reached (what is shared counts as often as it is met; a slice's spare places count too). A statement '..UptoSaid' is the law's where the arguments, and the package variables that the reading takes, are together of bulk at most 1048576: NARROWER than '..Said'. Prove '..Said' where nothing that the law and all that it calls make is longer than what came in: it says more and counts as full. Else prove '..UptoSaid'. A law counts once. -/
mutual
def uptoBulk {H : Type} : DataW H → Nat
  | .lit (.string bytes) => bytes.length + 1
  | .lit _ => 1
  | .nil => 1
  | .ptr d => uptoBulk d + 1
  | .slice elems spare => uptoBulkAll elems + uptoBulkAll spare + 1
  | .agg parts => uptoBulkAll parts + 1
  | .iface _ d => uptoBulk d + 1
  | .map entries => uptoBulkEntries entries + 1
  | .held _ => 1
def uptoBulkAll {H : Type} : List (DataW H) → Nat
  | [] => 0
  | d :: r => uptoBulk d + uptoBulkAll r
def uptoBulkEntries {H : Type} : List (Lit × DataW H) → Nat
  | [] => 0
  | x :: r => uptoBulkEntry x + uptoBulkEntries r
def uptoBulkEntry {H : Type} : Lit × DataW H → Nat
  | (.string bytes, d) => bytes.length + uptoBulk d + 1
  | (_, d) => uptoBulk d + 1
 end
def uptoSmall : (H : Type) → List (DataW H) → Bool := fun _ ds => decide (uptoBulkAll ds ≤ 1048576)
def OpenSpec.upto (s : _root_.Go.ChangeSpec) : _root_.Go.OpenSpec := { _root_.Go.OpenSpec.ofChange s with cond := some uptoSmall }

/-- 'laws.FnExactFsOk', WHERE WHAT IT READS IS OF BULK AT MOST 1048576: true; the input reads as it did. -/
def fnExactFsOkUptoRow : OpenClaim := { program := "ythfgfhbinggpfaadoor", sum := "0ac1f25c2301920f8c45f94a0542b13b4db3c9efd8e1ba18eb8f4e1122e70562", func := "loop.example/g00483/laws.FnExactFsOk", spec := "fnExactFsOk", inPlace := ["internal/abi.NoEscape"], unfollowed := true, recurses := true, named := ["loop.example/g00483/impl.errNoNum"], ifaces := true, apart := false, laid := [("loop.example/g00483/impl.errNoNum", laid_loop_example_g00483_impl_errNoNum)], narrowed := true }
def FnExactFsOkUptoSaid : Prop := fnExactFsOkUptoRow.holds Tryd.pinned (OpenSpec.upto fnExactFsOkSpec)

/-- 'laws.FnExactWalk', WHERE WHAT IT READS IS OF BULK AT MOST 1048576: true; the input reads as it did. -/
def fnExactWalkUptoRow : OpenClaim := { program := "ythfgfhbinggpfaadoor", sum := "0ac1f25c2301920f8c45f94a0542b13b4db3c9efd8e1ba18eb8f4e1122e70562", func := "loop.example/g00483/laws.FnExactWalk", spec := "fnExactWalk", inPlace := ["internal/abi.NoEscape"], unfollowed := true, recurses := true, named := ["loop.example/g00483/impl.errNoNum"], ifaces := true, apart := false, laid := [("loop.example/g00483/impl.errNoNum", laid_loop_example_g00483_impl_errNoNum)], narrowed := true }
def FnExactWalkUptoSaid : Prop := fnExactWalkUptoRow.holds Tryd.pinned (OpenSpec.upto fnExactWalkSpec)

/-- 'laws.FnExactKindAt', WHERE WHAT IT READS IS OF BULK AT MOST 1048576: true; the input reads as it did. -/
def fnExactKindAtUptoRow : OpenClaim := { program := "ythfgfhbinggpfaadoor", sum := "0ac1f25c2301920f8c45f94a0542b13b4db3c9efd8e1ba18eb8f4e1122e70562", func := "loop.example/g00483/laws.FnExactKindAt", spec := "fnExactKindAt", inPlace := ["internal/abi.NoEscape"], unfollowed := true, recurses := true, named := ["loop.example/g00483/impl.errNoNum"], ifaces := true, apart := false, laid := [("loop.example/g00483/impl.errNoNum", laid_loop_example_g00483_impl_errNoNum)], narrowed := true }
def FnExactKindAtUptoSaid : Prop := fnExactKindAtUptoRow.holds Tryd.pinned (OpenSpec.upto fnExactKindAtSpec)

/-- 'laws.FnExactHiddenOf', WHERE WHAT IT READS IS OF BULK AT MOST 1048576: true; the input reads as it did. -/
def fnExactHiddenOfUptoRow : OpenClaim := { program := "ythfgfhbinggpfaadoor", sum := "0ac1f25c2301920f8c45f94a0542b13b4db3c9efd8e1ba18eb8f4e1122e70562", func := "loop.example/g00483/laws.FnExactHiddenOf", spec := "fnExactHiddenOf", inPlace := ["internal/abi.NoEscape"], unfollowed := true, recurses := true, named := ["loop.example/g00483/impl.errNoNum"], ifaces := true, apart := false, laid := [("loop.example/g00483/impl.errNoNum", laid_loop_example_g00483_impl_errNoNum)], narrowed := true }
def FnExactHiddenOfUptoSaid : Prop := fnExactHiddenOfUptoRow.holds Tryd.pinned (OpenSpec.upto fnExactHiddenOfSpec)

end Rows
end Go.Proofs.YthfgfhbinggpfaaDoor
