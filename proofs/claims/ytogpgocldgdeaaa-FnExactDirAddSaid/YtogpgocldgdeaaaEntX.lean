/-
  Own text: the contracts over rows of entries, in the make of the laws' frames.
-/
import Derived.Test.YtogpgocldgdeaaaEntF
import Derived.Test.YtogpgocldgdeaaaSEokW
import Derived.Test.YtogpgocldgdeaaaIEokW
import Derived.Test.YtogpgocldgdeaaaIFindW
namespace Go.Proofs.Ytogpgocldgdeaaa
open Go.RowKit

theorem szEnY (v : Value) (l : List EntD) (left : Int) (w : World) (h0 : 0 ≤ left) (h1 : left ≤ 1048576) (hf : FitEn l) (hr : RdEn w v l) : Calls Try.prog 8 #[v, .int .i64 left] w fun e w' => ∃ r : Int, e = .returned (.int .i64 r) ∧ (0 ≤ r → r + szEn l = left) ∧ -1 ≤ r ∧ r ≤ 1048576 ∧ Below w.heap.size w w' := szEnX l left v w h0 h1 hf hr
theorem entriesOkX_spec (v : Value) (l : List EntD) (w : World) (hl : szEn l ≤ 1048576) (hr : RdEn w v l) : Calls Try.prog 9 #[v] w fun e w' => e = .returned (.bool (enOk l)) ∧ Below w.heap.size w w' := by
  obtain ⟨a, c, rfl, _, hr⟩ := hr
  exact specEntriesOk a c l w (smE_of hl) hr
theorem entriesOkX_impl (v : Value) (l : List EntD) (w : World) (hl : szEn l ≤ 1048576) (hr : RdEn w v l) : Calls Try.prog 11 #[v] w fun e w' => e = .returned (.bool (enOk l)) ∧ Below w.heap.size w w' := by
  obtain ⟨a, c, rfl, _, hr⟩ := hr
  exact implEntriesOk a c l w (smE_of hl) hr
theorem dirTextX_spec (v : Value) (l : List EntD) (w : World) (hl : szEn l ≤ 1048576) (hr : RdEn w v l) : Calls Try.prog 13 #[v] w fun e w' => e = .returned (.string (enTextS l)) ∧ Below w.heap.size w w' := by
  obtain ⟨a, c, rfl, _, hr⟩ := hr
  exact specDirText a c l w (smE_of hl) hr
theorem dirTextX_impl (v : Value) (l : List EntD) (w : World) (hl : szEn l ≤ 1048576) (hr : RdEn w v l) : Calls Try.prog 14 #[v] w fun e w' => e = .returned (.string (enTextS l)) ∧ Below w.heap.size w w' := by
  obtain ⟨a, c, rfl, _, hr⟩ := hr
  exact implDirText a c l w (smE_of hl) hr
theorem dirFindX_spec (v : Value) (l : List EntD) (s : ByteArray) (w : World) (hl : szEn l ≤ 1048576) (hr : RdEn w v l) : Calls Try.prog 15 #[v, .string s] w fun e w' => e = .returned (.int .i64 (enFind l s)) ∧ Below w.heap.size w w' := by
  have h := szEn_len l
  obtain ⟨a, c, rfl, _, hr⟩ := hr
  refine (specDirFind a c l s w (by omega) hr).mono ?_
  rintro e w' ⟨h, rfl⟩
  exact ⟨h, Below.refl _ _⟩
theorem dirFindX_impl (v : Value) (l : List EntD) (s : ByteArray) (w : World) (hl : szEn l ≤ 1048576) (hr : RdEn w v l) : Calls Try.prog 16 #[v, .string s] w fun e w' => e = .returned (.int .i64 (enFind l s)) ∧ Below w.heap.size w w' := by
  have h := szEn_len l
  obtain ⟨a, c, rfl, _, hr⟩ := hr
  exact implDirFind a c l s w (by omega) hr
end Go.Proofs.Ytogpgocldgdeaaa
