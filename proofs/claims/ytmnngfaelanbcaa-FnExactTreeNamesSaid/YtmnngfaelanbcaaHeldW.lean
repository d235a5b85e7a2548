/-
  Own text: the laws' helper that looks whether a row of texts still bears its marks.
-/
import Derived.Test.YtmnngfaelanbcaaStrW
import Derived.Deep.RegionWith
namespace Go.Proofs.Ytmnngfaelanbcaa
open Go.RowKit

set_option maxRecDepth 20000 in
set_option maxHeartbeats 400000 in
theorem heldStr (v : Value) (n k base : Nat) (w : World) (hn : n ≤ 2147483648) (hk : k ≤ 2147483648) (hown : w.ownsRow base 9 1 v n ((marksS k n).map Value.string)) :
    Calls Try.prog 20 #[v, .int .i64 k] w fun e w' => e = .returned (.int .i64 ((k + n : Nat) : Int)) ∧ Below w.heap.size w w' := by
  rcases hown.2 with ⟨rfl, rfl⟩ | ⟨g, cap, cur, rfl, hbg, hrest⟩
  · go_enter Try.func20, Try.ntmps20
    go_wp2
    go_loop [1, 5] (fun x i => x = .int .i64 k ∧ i = .int .i64 0) (fun _ _ => 0)
    case atStart => exact ⟨rfl, rfl⟩
    case round =>
      obtain ⟨rfl, rfl⟩ := hrel
      go_wp2
      go_ret
      exact ⟨by simp, Below.refl _ _⟩
  · clear hrest
    have hg : g < w.heap.size := (hown.lt g rfl).2
    go_enter Try.func20, Try.ntmps20
    go_wp2
    go_loopw [1, 5] (fun x i wr => ∃ j : Nat, j ≤ n ∧ x = .int .i64 ((k + j : Nat) : Int) ∧ i = .int .i64 j ∧ Below w.heap.size w wr) (fun _ i _ => n - (intOf i).toNat)
    case atStart => exact ⟨0, Nat.zero_le _, by simp, rfl, Below.refl _ _⟩
    case round =>
      obtain ⟨j, hj, rfl, rfl, hbel⟩ := hrel
      by_cases hlt : j < n
      · have hce : wr.cell? ⟨g, j, none⟩ = some (.string (markS (k + j))) := by
          rw [hbel.cell (by exact hg), hown.cellAt j (by omega)]
          simp [marksS_at k n j hlt]
        have hgr : g < wr.heap.size := by have := hbel.size; omega
        have HC : Hid (∀ w1 : World, Calls Try.prog 39 #[.int .i64 ((k + j : Nat) : Int)] w1 fun e w' => e = .returned (.string (markS (k + j))) ∧ Below w1.heap.size w1 w') := fun w1 => markT (k + j) w1 (by omega)
        generalize markS (k + j) = ms at *
        clear hown
        go_wp2
        go_region_with (go_at_call 39; refine (HC.out _).mono ?_; rintro e w1 ⟨rfl, hb1⟩; have hc1 : w1.cell? ⟨g, j, none⟩ = some (.string ms) := (hb1.cell (by exact hgr)).trans hce)
        all_goals
          have hb2 : Below w.heap.size w w1 := hbel.drew.trans (hb1.mono hbel.size)
          clear hb1 hc1 hce hbel
          go_wp2
          go_roundw
          case rel => exact ⟨j + 1, by omega, by go_num, by go_num, hb2⟩
          case measure => simp [intOf]; omega
      · obtain rfl : j = n := by omega
        go_wp2
        go_ret
        exact ⟨by simp, hbel⟩
end Go.Proofs.Ytmnngfaelanbcaa
