/-
  No cell of these rows narrows 'for every input' (looked for: loops, veiled, ifaces, maps, wideKeys, modest, calm, conditions, laid).
  DERIVED. THE GIVEN ROWS OF THIS SEAT. 5 by the template 'for every input the law returns true; each argument reads behind the call as it read before'; 0 by the template 'total and deterministic' (their statements: YtogpgocldgdeaaaTotals.lean).
  GIVEN WITH THE SEED: the statements are not yours to turn. If you find one false, say at which input.
  Laid BY PROGRAM, IN A SANDBOX (cutbox-rows.mjs): the forced cells as the released guide's own fill.sh prints them over the translation 3c1803b58e5a2cb9… (all of the seat's roots in one cut). By AI agents, Wed Nov 11 2026. No macro, syntax, notation, axiom, sorry.
-/
import Derived.Test.YtogpgocldgdeaaaChecked
import GoSem.Claim
import GoSem.ClaimJoined
import GoSem.ClaimMapViews
import Derived.JoinedTies
import Derived.KernelRfl
namespace Go.Proofs.Ytogpgocldgdeaaa
/- THE CELL 'sum', in the pinned program and in every row, IS THE sha256 OF THE DUMP (.gsa) THAT YtogpgocldgdeaaaProg.lean LOADS. Nothing in Lean hashes anything: it is a label: what it is worth is what the hold of that sum in a sandbox is worth. -/
noncomputable def Try.pinned : Pinned := { name := "ytogpgocldgdeaaa", sum := "3c1803b58e5a2cb938643c13feda9a809ede0be03e10003a524c883edf5bba91", checked := Try.checked }
namespace Rows
def none {H : Type} : Left H := { results := [], args := [] }

/-- 'laws.FnExactEntriesOk': WHATEVER THE INPUT: true; the input reads as it did. -/
def fnExactEntriesOkSpec : ChangeSpec := { name := "fnExactEntriesOk", fn := fun _ => fun
  | [d] => { results := [.lit (.bool true)], args := [d] }
  | _ => none }
def fnExactEntriesOkRow : OpenClaim := { program := "ytogpgocldgdeaaa", sum := "3c1803b58e5a2cb938643c13feda9a809ede0be03e10003a524c883edf5bba91", func := "loop.example/g00483/laws.FnExactEntriesOk", spec := "fnExactEntriesOk", unfollowed := true, recurses := true, apart := false }
def FnExactEntriesOkSaid : Prop := fnExactEntriesOkRow.holds Try.pinned (OpenSpec.ofChange fnExactEntriesOkSpec)

/-- ITS FALSE NEIGHBOUR: 'it returns false'. Refute it at one input. -/
def fnExactEntriesOkWrong : ChangeSpec := { name := "fnExactEntriesOk", fn := fun _ => fun
  | [d] => { results := [.lit (.bool false)], args := [d] }
  | _ => none }
def FnExactEntriesOkWrongFalsely : Prop := fnExactEntriesOkRow.holds Try.pinned (OpenSpec.ofChange fnExactEntriesOkWrong)

/-- 'laws.FnExactDirText': WHATEVER THE INPUT: true; the input reads as it did. -/
def fnExactDirTextSpec : ChangeSpec := { name := "fnExactDirText", fn := fun _ => fun
  | [d] => { results := [.lit (.bool true)], args := [d] }
  | _ => none }
def fnExactDirTextRow : OpenClaim := { program := "ytogpgocldgdeaaa", sum := "3c1803b58e5a2cb938643c13feda9a809ede0be03e10003a524c883edf5bba91", func := "loop.example/g00483/laws.FnExactDirText", spec := "fnExactDirText", apart := false }
def FnExactDirTextSaid : Prop := fnExactDirTextRow.holds Try.pinned (OpenSpec.ofChange fnExactDirTextSpec)

/-- ITS FALSE NEIGHBOUR: 'it returns false'. Refute it at one input. -/
def fnExactDirTextWrong : ChangeSpec := { name := "fnExactDirText", fn := fun _ => fun
  | [d] => { results := [.lit (.bool false)], args := [d] }
  | _ => none }
def FnExactDirTextWrongFalsely : Prop := fnExactDirTextRow.holds Try.pinned (OpenSpec.ofChange fnExactDirTextWrong)

/-- 'laws.FnExactDirFind': WHATEVER THE INPUT: true; the input reads as it did. -/
def fnExactDirFindSpec : ChangeSpec := { name := "fnExactDirFind", fn := fun _ => fun
  | [d1, d2] => { results := [.lit (.bool true)], args := [d1, d2] }
  | _ => none }
def fnExactDirFindRow : OpenClaim := { program := "ytogpgocldgdeaaa", sum := "3c1803b58e5a2cb938643c13feda9a809ede0be03e10003a524c883edf5bba91", func := "loop.example/g00483/laws.FnExactDirFind", spec := "fnExactDirFind", unfollowed := true, recurses := true, apart := false }
def FnExactDirFindSaid : Prop := fnExactDirFindRow.holds Try.pinned (OpenSpec.ofChange fnExactDirFindSpec)

/-- ITS FALSE NEIGHBOUR: 'it returns false'. Refute it at one input. -/
def fnExactDirFindWrong : ChangeSpec := { name := "fnExactDirFind", fn := fun _ => fun
  | [d1, d2] => { results := [.lit (.bool false)], args := [d1, d2] }
  | _ => none }
def FnExactDirFindWrongFalsely : Prop := fnExactDirFindRow.holds Try.pinned (OpenSpec.ofChange fnExactDirFindWrong)

/-- 'laws.FnExactDirAdd': WHATEVER THE INPUT: true; the input reads as it did. -/
def fnExactDirAddSpec : ChangeSpec := { name := "fnExactDirAdd", fn := fun _ => fun
  | [d1, d2, d3] => { results := [.lit (.bool true)], args := [d1, d2, d3] }
  | _ => none }
def fnExactDirAddRow : OpenClaim := { program := "ytogpgocldgdeaaa", sum := "3c1803b58e5a2cb938643c13feda9a809ede0be03e10003a524c883edf5bba91", func := "loop.example/g00483/laws.FnExactDirAdd", spec := "fnExactDirAdd", inPlace := ["slices.overlaps[loop.example/g00483/impl.Entry]"], unfollowed := true, recurses := true, apart := false }
def FnExactDirAddSaid : Prop := fnExactDirAddRow.holds Try.pinned (OpenSpec.ofChange fnExactDirAddSpec)

/-- ITS FALSE NEIGHBOUR: 'it returns false'. Refute it at one input. -/
def fnExactDirAddWrong : ChangeSpec := { name := "fnExactDirAdd", fn := fun _ => fun
  | [d1, d2, d3] => { results := [.lit (.bool false)], args := [d1, d2, d3] }
  | _ => none }
def FnExactDirAddWrongFalsely : Prop := fnExactDirAddRow.holds Try.pinned (OpenSpec.ofChange fnExactDirAddWrong)

/-- 'laws.FnExactDirDrop': WHATEVER THE INPUT: true; the input reads as it did. -/
def fnExactDirDropSpec : ChangeSpec := { name := "fnExactDirDrop", fn := fun _ => fun
  | [d1, d2] => { results := [.lit (.bool true)], args := [d1, d2] }
  | _ => none }
def fnExactDirDropRow : OpenClaim := { program := "ytogpgocldgdeaaa", sum := "3c1803b58e5a2cb938643c13feda9a809ede0be03e10003a524c883edf5bba91", func := "loop.example/g00483/laws.FnExactDirDrop", spec := "fnExactDirDrop", unfollowed := true, recurses := true, apart := false }
def FnExactDirDropSaid : Prop := fnExactDirDropRow.holds Try.pinned (OpenSpec.ofChange fnExactDirDropSpec)

/-- ITS FALSE NEIGHBOUR: 'it returns false'. Refute it at one input. -/
def fnExactDirDropWrong : ChangeSpec := { name := "fnExactDirDrop", fn := fun _ => fun
  | [d1, d2] => { results := [.lit (.bool false)], args := [d1, d2] }
  | _ => none }
def FnExactDirDropWrongFalsely : Prop := fnExactDirDropRow.holds Try.pinned (OpenSpec.ofChange fnExactDirDropWrong)

/- THE SECOND FORM. 'bulk': how many values and letters a reading holds, each counted each time it is reached (what is shared counts as often as it is met; a slice's spare places count too). A statement '..UptoSaid' is the law's where the arguments, and the package variables that the reading takes, are together of bulk at most 1048576: NARROWER than '..Said'. Prove '..Said' where nothing that the law and all that it calls make is longer than what came in: it says more and counts as full. Else prove '..UptoSaid'. A law counts once. -/
mutual
def uptoBulk {H : Type} : DataW H → Nat
  | .lit (.string bytes) => bytes.length + 1
  | .lit _ => 1
  | .nil => 1
  | .ptr d => uptoBulk d + 1
  | .slice elems spare => uptoBulkAll elems + uptoBulkAll spare + 1
  | .agg parts => uptoBulkAll parts + 1
  | .iface _ d => uptoBulk d + 1
  | .map entries => uptoBulkEntries entries + 1
  | .held _ => 1
def uptoBulkAll {H : Type} : List (DataW H) → Nat
  | [] => 0
  | d :: r => uptoBulk d + uptoBulkAll r
def uptoBulkEntries {H : Type} : List (Lit × DataW H) → Nat
  | [] => 0
  | x :: r => uptoBulkEntry x + uptoBulkEntries r
def uptoBulkEntry {H : Type} : Lit × DataW H → Nat
  | (.string bytes, d) => bytes.length + uptoBulk d + 1
  | (_, d) => uptoBulk d + 1
 end
def uptoSmall : (H : Type) → List (DataW H) → Bool := fun _ ds => decide (uptoBulkAll ds ≤ 1048576)
def OpenSpec.upto (s : _root_.Go.ChangeSpec) : _root_.Go.OpenSpec := { _root_.Go.OpenSpec.ofChange s with cond := some uptoSmall }

/-- 'laws.FnExactEntriesOk', WHERE WHAT IT READS IS OF BULK AT MOST 1048576: true; the input reads as it did. -/
def fnExactEntriesOkUptoRow : OpenClaim := { program := "ytogpgocldgdeaaa", sum := "3c1803b58e5a2cb938643c13feda9a809ede0be03e10003a524c883edf5bba91", func := "loop.example/g00483/laws.FnExactEntriesOk", spec := "fnExactEntriesOk", unfollowed := true, recurses := true, apart := false, narrowed := true }
def FnExactEntriesOkUptoSaid : Prop := fnExactEntriesOkUptoRow.holds Try.pinned (OpenSpec.upto fnExactEntriesOkSpec)

/-- 'laws.FnExactDirText', WHERE WHAT IT READS IS OF BULK AT MOST 1048576: true; the input reads as it did. -/
def fnExactDirTextUptoRow : OpenClaim := { program := "ytogpgocldgdeaaa", sum := "3c1803b58e5a2cb938643c13feda9a809ede0be03e10003a524c883edf5bba91", func := "loop.example/g00483/laws.FnExactDirText", spec := "fnExactDirText", apart := false, narrowed := true }
def FnExactDirTextUptoSaid : Prop := fnExactDirTextUptoRow.holds Try.pinned (OpenSpec.upto fnExactDirTextSpec)

/-- 'laws.FnExactDirFind', WHERE WHAT IT READS IS OF BULK AT MOST 1048576: true; the input reads as it did. -/
def fnExactDirFindUptoRow : OpenClaim := { program := "ytogpgocldgdeaaa", sum := "3c1803b58e5a2cb938643c13feda9a809ede0be03e10003a524c883edf5bba91", func := "loop.example/g00483/laws.FnExactDirFind", spec := "fnExactDirFind", unfollowed := true, recurses := true, apart := false, narrowed := true }
def FnExactDirFindUptoSaid : Prop := fnExactDirFindUptoRow.holds Try.pinned (OpenSpec.upto fnExactDirFindSpec)

/-- 'laws.FnExactDirAdd', WHERE WHAT IT READS IS OF BULK AT MOST 1048576: true; the input reads as it did. -/
def fnExactDirAddUptoRow : OpenClaim := { program := "ytogpgocldgdeaaa", sum := "3c1803b58e5a2cb938643c13feda9a809ede0be03e10003a524c883edf5bba91", func := "loop.example/g00483/laws.FnExactDirAdd", spec := "fnExactDirAdd", inPlace := ["slices.overlaps[loop.example/g00483/impl.Entry]"], unfollowed := true, recurses := true, apart := false, narrowed := true }
def FnExactDirAddUptoSaid : Prop := fnExactDirAddUptoRow.holds Try.pinned (OpenSpec.upto fnExactDirAddSpec)

/-- 'laws.FnExactDirDrop', WHERE WHAT IT READS IS OF BULK AT MOST 1048576: true; the input reads as it did. -/
def fnExactDirDropUptoRow : OpenClaim := { program := "ytogpgocldgdeaaa", sum := "3c1803b58e5a2cb938643c13feda9a809ede0be03e10003a524c883edf5bba91", func := "loop.example/g00483/laws.FnExactDirDrop", spec := "fnExactDirDrop", unfollowed := true, recurses := true, apart := false, narrowed := true }
def FnExactDirDropUptoSaid : Prop := fnExactDirDropUptoRow.holds Try.pinned (OpenSpec.upto fnExactDirDropSpec)

end Rows
end Go.Proofs.Ytogpgocldgdeaaa
