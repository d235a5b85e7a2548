/-
  No cell of these rows narrows 'for every input' (looked for: loops, veiled, ifaces, maps, wideKeys, modest, calm, conditions, laid).
  DERIVED. THE GIVEN ROWS OF THIS SEAT. 4 by the template 'for every input the law returns true; each argument reads behind the call as it read before'; 0 by the template 'total and deterministic' (their statements: YtioecnfgliponaaTotals.lean).
  GIVEN WITH THE SEED: the statements are not yours to turn. If you find one false, say at which input.
  Laid BY PROGRAM, IN A SANDBOX (cutbox-rows.mjs): the forced cells as the released guide's own fill.sh prints them over the translation f7ccaefb10a388a7… (all of the seat's roots in one cut). By AI agents, Wed Nov 11 2026. No macro, syntax, notation, axiom, sorry.
-/
import Derived.Test.YtioecnfgliponaaChecked
import GoSem.Claim
import GoSem.ClaimJoined
import GoSem.ClaimMapViews
import Derived.JoinedTies
import Derived.KernelRfl
namespace Go.Proofs.Ytioecnfgliponaa
/- THE CELL 'sum', in the pinned program and in every row, IS THE sha256 OF THE DUMP (.gsa) THAT YtioecnfgliponaaProg.lean LOADS. Nothing in Lean hashes anything: it is a label: what it is worth is what the hold of that sum in a sandbox is worth. -/
noncomputable def Try.pinned : Pinned := { name := "ytioecnfgliponaa", sum := "f7ccaefb10a388a73542fa7f3368c2b9ba83cfa19bcd54c8c585fef9743fb11c", checked := Try.checked }
namespace Rows
def none {H : Type} : Left H := { results := [], args := [] }

/-- 'laws.FnExactNodeRead': WHATEVER THE INPUT: true; the input reads as it did. -/
def fnExactNodeReadSpec : ChangeSpec := { name := "fnExactNodeRead", fn := fun _ => fun
  | [d1, d2] => { results := [.lit (.bool true)], args := [d1, d2] }
  | _ => none }
def fnExactNodeReadRow : OpenClaim := { program := "ytioecnfgliponaa", sum := "f7ccaefb10a388a73542fa7f3368c2b9ba83cfa19bcd54c8c585fef9743fb11c", func := "loop.example/g00483/laws.FnExactNodeRead", spec := "fnExactNodeRead", inPlace := ["internal/abi.NoEscape"], apart := false }
def FnExactNodeReadSaid : Prop := fnExactNodeReadRow.holds Try.pinned (OpenSpec.ofChange fnExactNodeReadSpec)

/-- ITS FALSE NEIGHBOUR: 'it returns false'. Refute it at one input. -/
def fnExactNodeReadWrong : ChangeSpec := { name := "fnExactNodeRead", fn := fun _ => fun
  | [d1, d2] => { results := [.lit (.bool false)], args := [d1, d2] }
  | _ => none }
def FnExactNodeReadWrongFalsely : Prop := fnExactNodeReadRow.holds Try.pinned (OpenSpec.ofChange fnExactNodeReadWrong)

/-- 'laws.FnExactNodeWrite': WHATEVER THE INPUT: true; the input reads as it did. -/
def fnExactNodeWriteSpec : ChangeSpec := { name := "fnExactNodeWrite", fn := fun _ => fun
  | [d1, d2, d3] => { results := [.lit (.bool true)], args := [d1, d2, d3] }
  | _ => none }
def fnExactNodeWriteRow : OpenClaim := { program := "ytioecnfgliponaa", sum := "f7ccaefb10a388a73542fa7f3368c2b9ba83cfa19bcd54c8c585fef9743fb11c", func := "loop.example/g00483/laws.FnExactNodeWrite", spec := "fnExactNodeWrite", unfollowed := true, recurses := true, apart := false }
def FnExactNodeWriteSaid : Prop := fnExactNodeWriteRow.holds Try.pinned (OpenSpec.ofChange fnExactNodeWriteSpec)

/-- ITS FALSE NEIGHBOUR: 'it returns false'. Refute it at one input. -/
def fnExactNodeWriteWrong : ChangeSpec := { name := "fnExactNodeWrite", fn := fun _ => fun
  | [d1, d2, d3] => { results := [.lit (.bool false)], args := [d1, d2, d3] }
  | _ => none }
def FnExactNodeWriteWrongFalsely : Prop := fnExactNodeWriteRow.holds Try.pinned (OpenSpec.ofChange fnExactNodeWriteWrong)

/-- 'laws.FnExactNodeMake': WHATEVER THE INPUT: true; the input reads as it did. -/
def fnExactNodeMakeSpec : ChangeSpec := { name := "fnExactNodeMake", fn := fun _ => fun
  | [d1, d2] => { results := [.lit (.bool true)], args := [d1, d2] }
  | _ => none }
def fnExactNodeMakeRow : OpenClaim := { program := "ytioecnfgliponaa", sum := "f7ccaefb10a388a73542fa7f3368c2b9ba83cfa19bcd54c8c585fef9743fb11c", func := "loop.example/g00483/laws.FnExactNodeMake", spec := "fnExactNodeMake", unfollowed := true, recurses := true, apart := false }
def FnExactNodeMakeSaid : Prop := fnExactNodeMakeRow.holds Try.pinned (OpenSpec.ofChange fnExactNodeMakeSpec)

/-- ITS FALSE NEIGHBOUR: 'it returns false'. Refute it at one input. -/
def fnExactNodeMakeWrong : ChangeSpec := { name := "fnExactNodeMake", fn := fun _ => fun
  | [d1, d2] => { results := [.lit (.bool false)], args := [d1, d2] }
  | _ => none }
def FnExactNodeMakeWrongFalsely : Prop := fnExactNodeMakeRow.holds Try.pinned (OpenSpec.ofChange fnExactNodeMakeWrong)

/-- 'laws.FnExactNodeDrop': WHATEVER THE INPUT: true; the input reads as it did. -/
def fnExactNodeDropSpec : ChangeSpec := { name := "fnExactNodeDrop", fn := fun _ => fun
  | [d1, d2] => { results := [.lit (.bool true)], args := [d1, d2] }
  | _ => none }
def fnExactNodeDropRow : OpenClaim := { program := "ytioecnfgliponaa", sum := "f7ccaefb10a388a73542fa7f3368c2b9ba83cfa19bcd54c8c585fef9743fb11c", func := "loop.example/g00483/laws.FnExactNodeDrop", spec := "fnExactNodeDrop", unfollowed := true, recurses := true, apart := false }
def FnExactNodeDropSaid : Prop := fnExactNodeDropRow.holds Try.pinned (OpenSpec.ofChange fnExactNodeDropSpec)

/-- ITS FALSE NEIGHBOUR: 'it returns false'. Refute it at one input. -/
def fnExactNodeDropWrong : ChangeSpec := { name := "fnExactNodeDrop", fn := fun _ => fun
  | [d1, d2] => { results := [.lit (.bool false)], args := [d1, d2] }
  | _ => none }
def FnExactNodeDropWrongFalsely : Prop := fnExactNodeDropRow.holds Try.pinned (OpenSpec.ofChange fnExactNodeDropWrong)

/- THE SECOND FORM. 'bulk': how many values and letters a reading holds, each counted each time it is reached (what is shared counts as often as it is met; a slice's spare places count too). A statement '..UptoSaid' is the law's where the arguments, and the package variables that the reading takes, are together of bulk at most 1048576: NARROWER than '..Said'. Prove '..Said' where nothing that the law and all that it calls make is longer than what came in: it says more and counts as full. Else prove '..UptoSaid'. A law counts once. -/
mutual
def uptoBulk {H : Type} : DataW H → Nat
  | .lit (.string bytes) => bytes.length + 1
  | .lit _ => 1
  | .nil => 1
  | .ptr d => uptoBulk d + 1
  | .slice elems spare => uptoBulkAll elems + uptoBulkAll spare + 1
  | .agg parts => uptoBulkAll parts + 1
  | .iface _ d => uptoBulk d + 1
  | .map entries => uptoBulkEntries entries + 1
  | .held _ => 1
def uptoBulkAll {H : Type} : List (DataW H) → Nat
  | [] => 0
  | d :: r => uptoBulk d + uptoBulkAll r
def uptoBulkEntries {H : Type} : List (Lit × DataW H) → Nat
  | [] => 0
  | x :: r => uptoBulkEntry x + uptoBulkEntries r
def uptoBulkEntry {H : Type} : Lit × DataW H → Nat
  | (.string bytes, d) => bytes.length + uptoBulk d + 1
  | (_, d) => uptoBulk d + 1
 end
def uptoSmall : (H : Type) → List (DataW H) → Bool := fun _ ds => decide (uptoBulkAll ds ≤ 1048576)
def OpenSpec.upto (s : _root_.Go.ChangeSpec) : _root_.Go.OpenSpec := { _root_.Go.OpenSpec.ofChange s with cond := some uptoSmall }

/-- 'laws.FnExactNodeRead', WHERE WHAT IT READS IS OF BULK AT MOST 1048576: true; the input reads as it did. -/
def fnExactNodeReadUptoRow : OpenClaim := { program := "ytioecnfgliponaa", sum := "f7ccaefb10a388a73542fa7f3368c2b9ba83cfa19bcd54c8c585fef9743fb11c", func := "loop.example/g00483/laws.FnExactNodeRead", spec := "fnExactNodeRead", inPlace := ["internal/abi.NoEscape"], apart := false, narrowed := true }
def FnExactNodeReadUptoSaid : Prop := fnExactNodeReadUptoRow.holds Try.pinned (OpenSpec.upto fnExactNodeReadSpec)

/-- 'laws.FnExactNodeWrite', WHERE WHAT IT READS IS OF BULK AT MOST 1048576: true; the input reads as it did. -/
def fnExactNodeWriteUptoRow : OpenClaim := { program := "ytioecnfgliponaa", sum := "f7ccaefb10a388a73542fa7f3368c2b9ba83cfa19bcd54c8c585fef9743fb11c", func := "loop.example/g00483/laws.FnExactNodeWrite", spec := "fnExactNodeWrite", unfollowed := true, recurses := true, apart := false, narrowed := true }
def FnExactNodeWriteUptoSaid : Prop := fnExactNodeWriteUptoRow.holds Try.pinned (OpenSpec.upto fnExactNodeWriteSpec)

/-- 'laws.FnExactNodeMake', WHERE WHAT IT READS IS OF BULK AT MOST 1048576: true; the input reads as it did. -/
def fnExactNodeMakeUptoRow : OpenClaim := { program := "ytioecnfgliponaa", sum := "f7ccaefb10a388a73542fa7f3368c2b9ba83cfa19bcd54c8c585fef9743fb11c", func := "loop.example/g00483/laws.FnExactNodeMake", spec := "fnExactNodeMake", unfollowed := true, recurses := true, apart := false, narrowed := true }
def FnExactNodeMakeUptoSaid : Prop := fnExactNodeMakeUptoRow.holds Try.pinned (OpenSpec.upto fnExactNodeMakeSpec)

/-- 'laws.FnExactNodeDrop', WHERE WHAT IT READS IS OF BULK AT MOST 1048576: true; the input reads as it did. -/
def fnExactNodeDropUptoRow : OpenClaim := { program := "ytioecnfgliponaa", sum := "f7ccaefb10a388a73542fa7f3368c2b9ba83cfa19bcd54c8c585fef9743fb11c", func := "loop.example/g00483/laws.FnExactNodeDrop", spec := "fnExactNodeDrop", unfollowed := true, recurses := true, apart := false, narrowed := true }
def FnExactNodeDropUptoSaid : Prop := fnExactNodeDropUptoRow.holds Try.pinned (OpenSpec.upto fnExactNodeDropSpec)

end Rows
end Go.Proofs.Ytioecnfgliponaa
