/-
  Own text: the deferred closures that recover: called of a frame that panics, they mark the panic as recovered; of one that returns, they do nothing.
-/
import Derived.Test.YtlidmnehpcodkaaDoorRows
import Derived.Test.YtlidmnehpcodkaaDoorErrW
import Derived.Defers
import Derived.Recover
namespace Go.Proofs.YtlidmnehpcodkaaDoor
open Go.RowKit

theorem catchNum (u : TypeId) (pv : Value) (older : List PanicEntry) (w : World) :
    CallsD Tryd.prog 121 #[] (.panicking ({ v := .iface u pv, recovered := false } :: older)) w fun e u' w' =>
      e = .returned (.tuple #[]) ∧ u' = .panicking ({ v := .iface u pv, recovered := true } :: older) ∧ w' = w := by
  refine callsD_of_wpS Tryd.func121 rfl fun c₀ cs hu => ?_
  apply wpS_region
  simp [wpOpsS, go_sem, recoverD, hu, Tryd.ntmps121, bodyPostS, results, Tryd.results121]

theorem idleNum (w : World) :
    CallsD Tryd.prog 121 #[] .returning w fun e u' w' => e = .returned (.tuple #[]) ∧ u' = .returning ∧ w' = w := by
  refine callsD_of_wpS Tryd.func121 rfl fun c₀ cs hu => ?_
  apply wpS_region
  simp [wpOpsS, go_sem, recoverD, hu, Tryd.ntmps121]
  cases c₀
  simp_all [bodyPostS, results, Tryd.results121]

end Go.Proofs.YtlidmnehpcodkaaDoor
