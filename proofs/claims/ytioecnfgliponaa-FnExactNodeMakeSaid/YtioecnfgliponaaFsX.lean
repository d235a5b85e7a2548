/-
  Own text: a branch of the call's own, whatever there is by now; a copy.
-/
import Derived.Test.YtioecnfgliponaaFsL
namespace Go.Proofs.Ytioecnfgliponaa
open Go.RowKit

def OwnF (w : World) (lo : Nat) (v : Value) (F : FsD) : Prop := OwnFs w lo w.heap.size v F
theorem OwnF.rd {w : World} {lo : Nat} {v : Value} {F : FsD} (h : OwnF w lo v F) : RdFs w v F := OwnFs.rd h
theorem OwnF.lay {w : World} {lo : Nat} {v : Value} {F : FsD} (h : OwnF w lo v F) : ∃ a ca b cb, v = .agg #[.slice a F.ns.length ca, .slice b F.ds.length cb] := OwnFs.lay h
theorem OwnF.below {w w' : World} {lo : Nat} {v : Value} {F : FsD} (h : OwnF w lo v F) (hb : Below w.heap.size w w') : OwnF w' lo v F := (OwnFs.below h hb).hi hb.size
theorem OwnF.base {w : World} {lo lo' : Nat} {v : Value} {F : FsD} (h : OwnF w lo v F) (hl : lo' ≤ lo) : OwnF w lo' v F := OwnFs.base h hl
theorem toFsX (v : Value) (F : FsD) (w : World) (hs : SmF F) (hr : RdFs w v F) :
    Calls Try.prog 9 #[v] w fun e w' => ∃ v', e = .returned v' ∧ OwnF w' w.heap.size v' F ∧ Below w.heap.size w w' := toFsW v F w hs hr
end Go.Proofs.Ytioecnfgliponaa
