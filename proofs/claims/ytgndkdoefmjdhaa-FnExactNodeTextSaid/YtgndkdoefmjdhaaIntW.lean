/-
  Own text: the laws' helpers over rows of numbers: alike, marks, whether they are still there.
-/
import Derived.Test.YtgndkdoefmjdhaaRows
import Derived.Test.YtgndkdoefmjdhaaBase
import Derived.Test.YtgndkdoefmjdhaaNumBase
import Derived.Handy
import Derived.Deep.RegionWith
namespace Go.Proofs.Ytgndkdoefmjdhaa
open Go.RowKit

set_option maxHeartbeats 400000 in
theorem eqI (a c : Option Addr) (ca cc : Nat) (l : List Int) (w : World) (hl : l.length ≤ 4194304) (hr : Rd .i64 w a l) (hs : Rd .i64 w c l) :
    Calls Try.prog 24 #[.slice a l.length ca, .slice c l.length cc] w fun e w' => e = .returned (.bool true) ∧ Below w.heap.size w w' := by
  have HCS : Hid (∀ k, k < l.length → ∃ b off, a = some ⟨b, off, none⟩ ∧ b < w.heap.size ∧ w.cell? ⟨b, off + k, none⟩ = some (.int .i64 (l.getD k 0))) := by
    intro k hk
    rcases hr with rfl | ⟨b, off, rfl, hlt, hc⟩
    · simp at hk
    · exact ⟨b, off, rfl, hlt, hc k hk⟩
  have HDS : Hid (∀ k, k < l.length → ∃ b off, c = some ⟨b, off, none⟩ ∧ b < w.heap.size ∧ w.cell? ⟨b, off + k, none⟩ = some (.int .i64 (l.getD k 0))) := by
    intro k hk
    rcases hs with rfl | ⟨b, off, rfl, hlt, hc⟩
    · simp at hk
    · exact ⟨b, off, rfl, hlt, hc k hk⟩
  clear hr hs
  go_enter Try.func24, Try.ntmps24
  go_wp2
  go_loopw [5] (fun i wr => ∃ k : Nat, k ≤ l.length ∧ i = .int .i64 k ∧ Below w.heap.size w wr) (fun i _ => l.length - (intOf i).toNat)
  case atStart => exact ⟨0, Nat.zero_le _, rfl, Below.refl _ _⟩
  case round =>
    obtain ⟨k, hk, rfl, hbel⟩ := hrel
    by_cases hlt : k < l.length
    · obtain ⟨b, off, rfl, hblt, hcell⟩ := HCS.out k hlt
      obtain ⟨d, off2, rfl, hdlt, hcell2⟩ := HDS.out k hlt
      have hcr : wr.cell? ⟨b, off + k, none⟩ = some (.int .i64 (l.getD k 0)) := (hbel.cell hblt).trans hcell
      have hdr : wr.cell? ⟨d, off2 + k, none⟩ = some (.int .i64 (l.getD k 0)) := (hbel.cell hdlt).trans hcell2
      generalize l.getD k 0 = z at *
      clear hcell hcell2
      go_wp2
      go_region
      all_goals (go_wp2)
      all_goals go_roundw
      case rel => exact ⟨k + 1, by omega, by go_num, hbel.drew⟩
      case measure => simp [intOf]; omega
    · go_wp2
      go_ret
      exact ⟨rfl, hbel⟩

def marksI (k n : Nat) : List Int := (List.range n).map fun i => ((k + i : Nat) : Int)
def markToI (l : List Int) (k i : Nat) : List Int := marksI k i ++ l.drop i
theorem marksI_len (k n : Nat) : (marksI k n).length = n := by simp [marksI]
theorem markToI_zero (l : List Int) (k : Nat) : markToI l k 0 = l := by simp [markToI, marksI]
theorem markToI_all (l : List Int) (k : Nat) : markToI l k l.length = marksI k l.length := by simp [markToI]
theorem markToI_len (l : List Int) (k i : Nat) (h : i ≤ l.length) : (markToI l k i).length = l.length := by simp [markToI, marksI_len]; omega
theorem markToI_set (l : List Int) (k i : Nat) (h : i < l.length) : (markToI l k i).set i ((k + i : Nat) : Int) = markToI l k (i + 1) := by
  unfold markToI
  rw [List.set_append_right _ _ (by rw [marksI_len]; exact Nat.le_refl _), marksI_len, Nat.sub_self]
  have e : marksI k (i + 1) = marksI k i ++ [((k + i : Nat) : Int)] := by unfold marksI; rw [List.range_succ, List.map_append]; rfl
  rw [e, List.append_assoc, List.drop_eq_getElem_cons h]; rfl
theorem marksI_at (k n i : Nat) (h : i < n) : (marksI k n).getD i 0 = ((k + i : Nat) : Int) := by simp [marksI, List.getD, h]

end Go.Proofs.Ytgndkdoefmjdhaa
