/-
  NARROWER THAN 'FOR EVERY INPUT', by the rows' own cells (each row's printed sentence says how): FnAtomic: ifaces, laid · FnRecovered: ifaces, laid · FnHeads: ifaces, laid · FnExactHeadOf: ifaces, laid · FnExactRecover: ifaces, laid.
  DERIVED. THE GIVEN ROWS OF THIS SEAT. 5 by the template 'for every input the law returns true; each argument reads behind the call as it read before'; 0 by the template 'total and deterministic' (their statements: YtlidmnehpcodkaaDoorTotals.lean).
  GIVEN WITH THE SEED: the statements are not yours to turn. If you find one false, say at which input.
  Laid BY PROGRAM, IN A SANDBOX (cutbox-rows.mjs): the forced cells as the released guide's own fill.sh prints them over the translation 12263ec64a9ef28d… (all of the seat's roots in one cut). By AI agents, Wed Nov 11 2026. No macro, syntax, notation, axiom, sorry.
-/
import Derived.Test.YtlidmnehpcodkaaDoorChecked
import GoSem.Claim
import GoSem.ClaimJoined
import GoSem.ClaimMapViews
import Derived.JoinedTies
import Derived.KernelRfl
namespace Go.Proofs.YtlidmnehpcodkaaDoor
/- THE CELL 'sum', in the pinned program and in every row, IS THE sha256 OF THE DUMP (.gsa) THAT YtlidmnehpcodkaaDoorProg.lean LOADS. Nothing in Lean hashes anything: it is a label: what it is worth is what the hold of that sum in a sandbox is worth. -/
noncomputable def Tryd.pinned : Pinned := { name := "ytlidmnehpcodkaadoor", sum := "12263ec64a9ef28d8102e832ae1d56041e46eb04f86cf39ab58d7c3194338fea", checked := Tryd.checked }
namespace Rows
def none {H : Type} : Left H := { results := [], args := [] }

/- WHAT THE LISTED PACKAGE-LEVEL VARIABLES READ AS WHEN THE CALL BEGINS. Each datum BY PROGRAM (the guide's laid-datum.mjs) off the statement by which the dump's own 'gosem.cut.vars' lays the variable. In a bare row this is a premise. The card (YtlidmnehpcodkaaDoorCards.lean) ties it to the program's text. -/
def laid_loop_example_g00483_impl_errNoNum {H : Type} : DataW H := .iface "*errors.errorString" (.ptr (.agg [.lit (.string [110, 111, 32, 110, 117, 109, 98, 101, 114])]))

/-- 'laws.FnAtomic': WHATEVER THE INPUT: true; the input reads as it did. -/
def fnAtomicSpec : ChangeSpec := { name := "fnAtomic", vars := ["loop.example/g00483/impl.errNoNum"], fn := fun _ => fun
  | [d, g1] => { results := [.lit (.bool true)], args := [d], vars := [g1] }
  | _ => none }
def fnAtomicRow : OpenClaim := { program := "ytlidmnehpcodkaadoor", sum := "12263ec64a9ef28d8102e832ae1d56041e46eb04f86cf39ab58d7c3194338fea", func := "loop.example/g00483/laws.FnAtomic", spec := "fnAtomic", named := ["loop.example/g00483/impl.errNoNum"], ifaces := true, leaving := true, apart := false, laid := [("loop.example/g00483/impl.errNoNum", laid_loop_example_g00483_impl_errNoNum)] }
def FnAtomicSaid : Prop := fnAtomicRow.holds Tryd.pinned (OpenSpec.ofChange fnAtomicSpec)

/-- ITS FALSE NEIGHBOUR: 'it returns false'. Refute it at one input. -/
def fnAtomicWrong : ChangeSpec := { name := "fnAtomic", vars := ["loop.example/g00483/impl.errNoNum"], fn := fun _ => fun
  | [d, g1] => { results := [.lit (.bool false)], args := [d], vars := [g1] }
  | _ => none }
def FnAtomicWrongFalsely : Prop := fnAtomicRow.holds Tryd.pinned (OpenSpec.ofChange fnAtomicWrong)

/-- 'laws.FnRecovered': WHATEVER THE INPUT: true; the input reads as it did. -/
def fnRecoveredSpec : ChangeSpec := { name := "fnRecovered", vars := ["loop.example/g00483/impl.errNoNum"], fn := fun _ => fun
  | [d, g1] => { results := [.lit (.bool true)], args := [d], vars := [g1] }
  | _ => none }
def fnRecoveredRow : OpenClaim := { program := "ytlidmnehpcodkaadoor", sum := "12263ec64a9ef28d8102e832ae1d56041e46eb04f86cf39ab58d7c3194338fea", func := "loop.example/g00483/laws.FnRecovered", spec := "fnRecovered", named := ["loop.example/g00483/impl.errNoNum"], ifaces := true, apart := false, laid := [("loop.example/g00483/impl.errNoNum", laid_loop_example_g00483_impl_errNoNum)] }
def FnRecoveredSaid : Prop := fnRecoveredRow.holds Tryd.pinned (OpenSpec.ofChange fnRecoveredSpec)

/-- ITS FALSE NEIGHBOUR: 'it returns false'. Refute it at one input. -/
def fnRecoveredWrong : ChangeSpec := { name := "fnRecovered", vars := ["loop.example/g00483/impl.errNoNum"], fn := fun _ => fun
  | [d, g1] => { results := [.lit (.bool false)], args := [d], vars := [g1] }
  | _ => none }
def FnRecoveredWrongFalsely : Prop := fnRecoveredRow.holds Tryd.pinned (OpenSpec.ofChange fnRecoveredWrong)

/-- 'laws.FnHeads': WHATEVER THE INPUT: true; the input reads as it did. -/
def fnHeadsSpec : ChangeSpec := { name := "fnHeads", vars := ["loop.example/g00483/impl.errNoNum"], fn := fun _ => fun
  | [d, g1] => { results := [.lit (.bool true)], args := [d], vars := [g1] }
  | _ => none }
def fnHeadsRow : OpenClaim := { program := "ytlidmnehpcodkaadoor", sum := "12263ec64a9ef28d8102e832ae1d56041e46eb04f86cf39ab58d7c3194338fea", func := "loop.example/g00483/laws.FnHeads", spec := "fnHeads", named := ["loop.example/g00483/impl.errNoNum"], ifaces := true, leaving := true, apart := false, laid := [("loop.example/g00483/impl.errNoNum", laid_loop_example_g00483_impl_errNoNum)] }
def FnHeadsSaid : Prop := fnHeadsRow.holds Tryd.pinned (OpenSpec.ofChange fnHeadsSpec)

/-- ITS FALSE NEIGHBOUR: 'it returns false'. Refute it at one input. -/
def fnHeadsWrong : ChangeSpec := { name := "fnHeads", vars := ["loop.example/g00483/impl.errNoNum"], fn := fun _ => fun
  | [d, g1] => { results := [.lit (.bool false)], args := [d], vars := [g1] }
  | _ => none }
def FnHeadsWrongFalsely : Prop := fnHeadsRow.holds Tryd.pinned (OpenSpec.ofChange fnHeadsWrong)

/-- 'laws.FnExactHeadOf': WHATEVER THE INPUT: true; the input reads as it did. -/
def fnExactHeadOfSpec : ChangeSpec := { name := "fnExactHeadOf", vars := ["loop.example/g00483/impl.errNoNum"], fn := fun _ => fun
  | [d1, d2, g1] => { results := [.lit (.bool true)], args := [d1, d2], vars := [g1] }
  | _ => none }
def fnExactHeadOfRow : OpenClaim := { program := "ytlidmnehpcodkaadoor", sum := "12263ec64a9ef28d8102e832ae1d56041e46eb04f86cf39ab58d7c3194338fea", func := "loop.example/g00483/laws.FnExactHeadOf", spec := "fnExactHeadOf", named := ["loop.example/g00483/impl.errNoNum"], ifaces := true, apart := false, laid := [("loop.example/g00483/impl.errNoNum", laid_loop_example_g00483_impl_errNoNum)] }
def FnExactHeadOfSaid : Prop := fnExactHeadOfRow.holds Tryd.pinned (OpenSpec.ofChange fnExactHeadOfSpec)

/-- ITS FALSE NEIGHBOUR: 'it returns false'. Refute it at one input. -/
def fnExactHeadOfWrong : ChangeSpec := { name := "fnExactHeadOf", vars := ["loop.example/g00483/impl.errNoNum"], fn := fun _ => fun
  | [d1, d2, g1] => { results := [.lit (.bool false)], args := [d1, d2], vars := [g1] }
  | _ => none }
def FnExactHeadOfWrongFalsely : Prop := fnExactHeadOfRow.holds Tryd.pinned (OpenSpec.ofChange fnExactHeadOfWrong)

/-- 'laws.FnExactRecover': WHATEVER THE INPUT: true; the input reads as it did. -/
def fnExactRecoverSpec : ChangeSpec := { name := "fnExactRecover", vars := ["loop.example/g00483/impl.errNoNum"], fn := fun _ => fun
  | [d1, d2, g1] => { results := [.lit (.bool true)], args := [d1, d2], vars := [g1] }
  | _ => none }
def fnExactRecoverRow : OpenClaim := { program := "ytlidmnehpcodkaadoor", sum := "12263ec64a9ef28d8102e832ae1d56041e46eb04f86cf39ab58d7c3194338fea", func := "loop.example/g00483/laws.FnExactRecover", spec := "fnExactRecover", named := ["loop.example/g00483/impl.errNoNum"], ifaces := true, apart := false, laid := [("loop.example/g00483/impl.errNoNum", laid_loop_example_g00483_impl_errNoNum)] }
def FnExactRecoverSaid : Prop := fnExactRecoverRow.holds Tryd.pinned (OpenSpec.ofChange fnExactRecoverSpec)

/-- ITS FALSE NEIGHBOUR: 'it returns false'. Refute it at one input. -/
def fnExactRecoverWrong : ChangeSpec := { name := "fnExactRecover", vars := ["loop.example/g00483/impl.errNoNum"], fn := fun _ => fun
  | [d1, d2, g1] => { results := [.lit (.bool false)], args := [d1, d2], vars := [g1] }
  | _ => none }
def FnExactRecoverWrongFalsely : Prop := fnExactRecoverRow.holds Tryd.pinned (OpenSpec.ofChange fnExactRecoverWrong)

/- THE SECOND FORM. 'bulk': how many values and letters a reading holds, each counted each time it is reached (what is shared counts as often as it is met; a slice's spare places count too). A statement '..UptoSaid' is the law's where the arguments, and the package variables that the reading takes, are together of bulk at most 1048576: NARROWER than '..Said'. Prove '..Said' where nothing that the law and all that it calls make is longer than what came in: it says more and counts as full. Else prove '..UptoSaid'. A law counts once. -/
mutual
def uptoBulk {H : Type} : DataW H → Nat
  | .lit (.string bytes) => bytes.length + 1
  | .lit _ => 1
  | .nil => 1
  | .ptr d => uptoBulk d + 1
  | .slice elems spare => uptoBulkAll elems + uptoBulkAll spare + 1
  | .agg parts => uptoBulkAll parts + 1
  | .iface _ d => uptoBulk d + 1
  | .map entries => uptoBulkEntries entries + 1
  | .held _ => 1
def uptoBulkAll {H : Type} : List (DataW H) → Nat
  | [] => 0
  | d :: r => uptoBulk d + uptoBulkAll r
def uptoBulkEntries {H : Type} : List (Lit × DataW H) → Nat
  | [] => 0
  | x :: r => uptoBulkEntry x + uptoBulkEntries r
def uptoBulkEntry {H : Type} : Lit × DataW H → Nat
  | (.string bytes, d) => bytes.length + uptoBulk d + 1
  | (_, d) => uptoBulk d + 1
 end
def uptoSmall : (H : Type) → List (DataW H) → Bool := fun _ ds => decide (uptoBulkAll ds ≤ 1048576)
def OpenSpec.upto (s : _root_.Go.ChangeSpec) : _root_.Go.OpenSpec := { _root_.Go.OpenSpec.ofChange s with cond := some uptoSmall }

/-- 'laws.FnAtomic', WHERE WHAT IT READS IS OF BULK AT MOST 1048576: true; the input reads as it did. -/
def fnAtomicUptoRow : OpenClaim := { program := "ytlidmnehpcodkaadoor", sum := "12263ec64a9ef28d8102e832ae1d56041e46eb04f86cf39ab58d7c3194338fea", func := "loop.example/g00483/laws.FnAtomic", spec := "fnAtomic", named := ["loop.example/g00483/impl.errNoNum"], ifaces := true, leaving := true, apart := false, laid := [("loop.example/g00483/impl.errNoNum", laid_loop_example_g00483_impl_errNoNum)], narrowed := true }
def FnAtomicUptoSaid : Prop := fnAtomicUptoRow.holds Tryd.pinned (OpenSpec.upto fnAtomicSpec)

/-- 'laws.FnRecovered', WHERE WHAT IT READS IS OF BULK AT MOST 1048576: true; the input reads as it did. -/
def fnRecoveredUptoRow : OpenClaim := { program := "ytlidmnehpcodkaadoor", sum := "12263ec64a9ef28d8102e832ae1d56041e46eb04f86cf39ab58d7c3194338fea", func := "loop.example/g00483/laws.FnRecovered", spec := "fnRecovered", named := ["loop.example/g00483/impl.errNoNum"], ifaces := true, apart := false, laid := [("loop.example/g00483/impl.errNoNum", laid_loop_example_g00483_impl_errNoNum)], narrowed := true }
def FnRecoveredUptoSaid : Prop := fnRecoveredUptoRow.holds Tryd.pinned (OpenSpec.upto fnRecoveredSpec)

/-- 'laws.FnHeads', WHERE WHAT IT READS IS OF BULK AT MOST 1048576: true; the input reads as it did. -/
def fnHeadsUptoRow : OpenClaim := { program := "ytlidmnehpcodkaadoor", sum := "12263ec64a9ef28d8102e832ae1d56041e46eb04f86cf39ab58d7c3194338fea", func := "loop.example/g00483/laws.FnHeads", spec := "fnHeads", named := ["loop.example/g00483/impl.errNoNum"], ifaces := true, leaving := true, apart := false, laid := [("loop.example/g00483/impl.errNoNum", laid_loop_example_g00483_impl_errNoNum)], narrowed := true }
def FnHeadsUptoSaid : Prop := fnHeadsUptoRow.holds Tryd.pinned (OpenSpec.upto fnHeadsSpec)

/-- 'laws.FnExactHeadOf', WHERE WHAT IT READS IS OF BULK AT MOST 1048576: true; the input reads as it did. -/
def fnExactHeadOfUptoRow : OpenClaim := { program := "ytlidmnehpcodkaadoor", sum := "12263ec64a9ef28d8102e832ae1d56041e46eb04f86cf39ab58d7c3194338fea", func := "loop.example/g00483/laws.FnExactHeadOf", spec := "fnExactHeadOf", named := ["loop.example/g00483/impl.errNoNum"], ifaces := true, apart := false, laid := [("loop.example/g00483/impl.errNoNum", laid_loop_example_g00483_impl_errNoNum)], narrowed := true }
def FnExactHeadOfUptoSaid : Prop := fnExactHeadOfUptoRow.holds Tryd.pinned (OpenSpec.upto fnExactHeadOfSpec)

/-- 'laws.FnExactRecover', WHERE WHAT IT READS IS OF BULK AT MOST 1048576: true; the input reads as it did. -/
def fnExactRecoverUptoRow : OpenClaim := { program := "ytlidmnehpcodkaadoor", sum := "12263ec64a9ef28d8102e832ae1d56041e46eb04f86cf39ab58d7c3194338fea", func := "loop.example/g00483/laws.FnExactRecover", spec := "fnExactRecover", named := ["loop.example/g00483/impl.errNoNum"], ifaces := true, apart := false, laid := [("loop.example/g00483/impl.errNoNum", laid_loop_example_g00483_impl_errNoNum)], narrowed := true }
def FnExactRecoverUptoSaid : Prop := fnExactRecoverUptoRow.holds Tryd.pinned (OpenSpec.upto fnExactRecoverSpec)

end Rows
end Go.Proofs.YtlidmnehpcodkaaDoor
