/-
  Own text: the contracts over rows of entries, in the make of the laws' frames.
-/
import Derived.Test.YtogpgocldgdeaaaDoorEntF
import Derived.Test.YtogpgocldgdeaaaDoorSEokW
import Derived.Test.YtogpgocldgdeaaaDoorBunQ
import Derived.Test.YtogpgocldgdeaaaDoorIFindW
namespace Go.Proofs.YtogpgocldgdeaaaDoor
open Go.RowKit

theorem entriesOkX_spec (v : Value) (l : List EntD) (w : World) (hl : szEn l ≤ 1048576) (hr : RdEn w v l) : Calls Tryd.prog 26 #[v] w fun e w' => e = .returned (.bool (enOk l)) ∧ Below w.heap.size w w' := by
  obtain ⟨a, c, rfl, _, hr⟩ := hr
  exact specEntriesOk a c l w (smE_of hl) hr
theorem entriesOkX_impl (v : Value) (l : List EntD) (w : World) (hl : szEn l ≤ 1048576) (hr : RdEn w v l) : Calls Tryd.prog 10 #[v] w fun e w' => e = .returned (.bool (enOk l)) ∧ Below w.heap.size w w' := by
  obtain ⟨a, c, rfl, _, hr⟩ := hr
  exact implEntriesOk a c l w (smE_of hl) hr
theorem dirTextX_spec (v : Value) (l : List EntD) (w : World) (hl : szEn l ≤ 1048576) (hr : RdEn w v l) : Calls Tryd.prog 48 #[v] w fun e w' => e = .returned (.string (enTextS l)) ∧ Below w.heap.size w w' := by
  obtain ⟨a, c, rfl, _, hr⟩ := hr
  exact specDirText a c l w (smE_of hl) hr
theorem dirTextX_impl (v : Value) (l : List EntD) (w : World) (hl : szEn l ≤ 1048576) (hr : RdEn w v l) : Calls Tryd.prog 13 #[v] w fun e w' => e = .returned (.string (enTextS l)) ∧ Below w.heap.size w w' := by
  obtain ⟨a, c, rfl, _, hr⟩ := hr
  exact implDirText a c l w (smE_of hl) hr
theorem dirFindX_impl (v : Value) (l : List EntD) (s : ByteArray) (w : World) (hl : szEn l ≤ 1048576) (hr : RdEn w v l) : Calls Tryd.prog 9 #[v, .string s] w fun e w' => e = .returned (.int .i64 (enFind l s)) ∧ Below w.heap.size w w' := by
  have h := szEn_len l
  obtain ⟨a, c, rfl, _, hr⟩ := hr
  exact implDirFind a c l s w (by omega) hr
end Go.Proofs.YtogpgocldgdeaaaDoor
