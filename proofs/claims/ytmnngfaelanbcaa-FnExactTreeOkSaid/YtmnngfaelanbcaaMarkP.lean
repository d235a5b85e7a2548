/-
  Own text: the laws' marks on rows of texts and of writes, with what they leave alone; whether they are still there.
-/
import Derived.Test.YtmnngfaelanbcaaPutW
import Derived.Test.YtmnngfaelanbcaaHeldW
namespace Go.Proofs.Ytmnngfaelanbcaa
open Go.RowKit

/-- The blocks of a row. -/
def blk (v : Value) (j : Nat) : Prop := v.ownBlock = some j

set_option maxRecDepth 20000 in
set_option maxHeartbeats 400000 in
theorem markStrO (v : Value) (n k base : Nat) (l : List ByteArray) (w : World) (hn : n ≤ 2147483648) (hk : k ≤ 2147483648) (hown : w.ownsRow base 9 1 v n (l.map Value.string)) :
    Calls Try.prog 19 #[v, .int .i64 k] w fun e w' => e = .returned (.int .i64 ((k + n : Nat) : Int)) ∧ w'.ownsRow base 9 1 v n ((marksS k n).map Value.string) ∧ Only (blk v) w w' := by
  have hl : l.length = n := by have := hown.1; simpa using this
  rcases hown.2 with ⟨rfl, rfl⟩ | ⟨g, cap, cur, rfl, hbg, hrest⟩
  · go_enter Try.func19, Try.ntmps19
    go_wp2
    go_loop [1, 5] (fun x i => x = .int .i64 k ∧ i = .int .i64 0) (fun _ _ => 0)
    case atStart => exact ⟨rfl, rfl⟩
    case round =>
      obtain ⟨rfl, rfl⟩ := hrel
      go_wp2
      go_ret
      exact ⟨by simp, World.ownsRow_nil _ _ _ _, Only.refl _ _⟩
  · clear hrest
    subst hl
    go_enter Try.func19, Try.ntmps19
    go_wp2
    go_loopw [1, 5] (fun x i wr => ∃ j : Nat, j ≤ l.length ∧ x = .int .i64 ((k + j : Nat) : Int) ∧ i = .int .i64 j ∧ wr.ownsRow base 9 1 (.slice (some ⟨g, 0, none⟩) l.length cap) l.length ((markToS l k j).map Value.string) ∧ Only (blk (.slice (some ⟨g, 0, none⟩) l.length cap)) w wr) (fun _ i _ => l.length - (intOf i).toNat)
    case atStart => exact ⟨0, Nat.zero_le _, by simp, rfl, by rw [markToS_zero]; exact hown, Only.refl _ _⟩
    case round =>
      obtain ⟨j, hj, rfl, rfl, ho, hbel⟩ := hrel
      by_cases hlt : j < l.length
      · clear hown
        go_wp2_with fail
        refine (markT (k + j) _ (by omega)).mono ?_
        rintro e w1 ⟨rfl, hb1⟩
        have ho1 := ownsRow_below ho hb1 (Nat.le_refl _)
        have hbel1 : Only (blk (.slice (some ⟨g, 0, none⟩) l.length cap)) w w1 := hbel.trans (Only.of_new hb1)
        clear ho hbel hb1
        have hfz := ho1.frozenAt j
        have hce : w1.cell? ⟨g, j, none⟩ = some (.string ((markToS l k j).getD j ⟨#[]⟩)) := by
          rw [ho1.cellAt j (by omega)]
          have := markToS_len l k j hj
          simp [List.getD, show j < (markToS l k j).length by omega]
        generalize (markToS l k j).getD j ⟨#[]⟩ = old at hce
        have hst := (ho1.stored j (.string (markS (k + j)))).1
        rw [← List.map_set, markToS_set l k j hlt] at hst
        have hb2 : Only (blk (.slice (some ⟨g, 0, none⟩) l.length cap)) w (w1.setCell ⟨g, j, none⟩ (.string (markS (k + j)))) := hbel1.setCell (p := ⟨g, j, none⟩) rfl _
        generalize markS (k + j) = ms at *
        go_wp2
        go_roundw
        case rel => exact ⟨j + 1, by omega, by go_num, by go_num, hst, hb2⟩
        case measure => simp [intOf]; omega
      · obtain rfl : j = l.length := by omega
        go_wp2
        go_ret
        exact ⟨by simp, by rw [← markToS_all]; exact ho, hbel⟩

end Go.Proofs.Ytmnngfaelanbcaa
