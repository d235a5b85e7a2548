/-
  Own text: the laws' helpers that mark a row of the call's own, and look whether the marks are there.
-/
import Derived.Test.YtgibihacbhjlnaaRows
import Derived.Test.YtgibihacbhjlnaaNumBase
namespace Go.Proofs.Ytgibihacbhjlnaa
open Go.RowKit

set_option maxRecDepth 20000 in
set_option maxHeartbeats 400000 in
theorem markB (v : Value) (n k base : Nat) (l : List Int) (w : World) (hn : n ≤ 4294967296) (hk : k ≤ 4294967296) (hown : w.ownsRow base 5 1 v n (l.map (Value.int .u8))) :
    Calls Try.prog 10 #[v, .int .i64 k] w fun e w' => e = .returned (.int .i64 ((k + n : Nat) : Int)) ∧ w'.ownsRow base 5 1 v n ((marks k n).map (Value.int .u8)) ∧ w.grownBy w' v.ownBlock := by
  have hl : l.length = n := by have := hown.1; simpa using this
  rcases hown.2 with ⟨rfl, rfl⟩ | ⟨g, cap, cur, rfl, hrest⟩
  · go_enter Try.func10, Try.ntmps10
    go_wp2
    go_loop [1, 5] (fun x i => x = .int .i64 k ∧ i = .int .i64 0) (fun _ _ => 0)
    case atStart => exact ⟨rfl, rfl⟩
    case round =>
      obtain ⟨rfl, rfl⟩ := hrel
      go_wp2
      go_ret
      exact ⟨by simp, World.ownsRow_nil _ _ _ _, World.grownBy.refl _ _⟩
  · clear hrest
    subst hl
    go_enter Try.func10, Try.ntmps10
    go_wp2
    go_loopw [1, 5] (fun x i wr => ∃ j : Nat, j ≤ l.length ∧ x = .int .i64 ((k : Int) + (j : Int)) ∧ i = .int .i64 j ∧ wr.ownsRow base 5 1 (.slice (some ⟨g, 0, none⟩) l.length cap) l.length ((markTo l k j).map (Value.int .u8)) ∧ w.grownBy wr (some g)) (fun _ i _ => l.length - (intOf i).toNat)
    case atStart => exact ⟨0, Nat.zero_le _, by simp, rfl, by rw [markTo_zero]; exact hown, World.grownBy.refl _ _⟩
    case round =>
      obtain ⟨j, hj, rfl, rfl, ho, hg⟩ := hrel
      by_cases hlt : j < l.length
      · have hwm := wrap_mark k j
        have hfz := ho.frozenAt j
        have hce : wr.cell? ⟨g, j, none⟩ = some (.int .u8 ((markTo l k j).getD j 0)) := by
          rw [ho.cellAt j (by omega)]
          have := markTo_len l k j hj
          simp [List.getD, show j < (markTo l k j).length by omega]
        generalize (markTo l k j).getD j 0 = old at hce
        have hst := ho.stored j (.int .u8 (((k + j) % 256 : Nat) : Int))
        rw [← List.map_set, markTo_set l k j hlt] at hst
        have hg2 : w.grownBy (wr.setCell ⟨g, j, none⟩ (.int .u8 (((k + j) % 256 : Nat) : Int))) (some g) :=
          ⟨hg.os, hg.tape, hg.output, by have := hg.size; have := hst.2.size; omega, fun x hx hne => (hst.2.block x (by have := hg.size; omega) hne).trans (hg.block x hx hne)⟩
        have HST := hst.1
        clear hst
        go_wp2
        go_roundw
        case rel => exact ⟨j + 1, by omega, by go_num, by go_num, HST, hg2⟩
        case measure => simp [intOf]; omega
      · obtain rfl : j = l.length := by omega
        go_wp2
        go_ret
        exact ⟨by simp, by rw [← markTo_all]; exact ho, hg⟩

set_option maxRecDepth 20000 in
set_option maxHeartbeats 400000 in
theorem heldB (v : Value) (n k base : Nat) (w : World) (hn : n ≤ 4294967296) (hk : k ≤ 4294967296) (hown : w.ownsRow base 5 1 v n ((marks k n).map (Value.int .u8))) :
    Calls Try.prog 11 #[v, .int .i64 k] w fun e w' => e = .returned (.int .i64 ((k + n : Nat) : Int)) ∧ w' = w := by
  rcases hown.2 with ⟨rfl, rfl⟩ | ⟨g, cap, cur, rfl, hrest⟩
  · go_enter Try.func11, Try.ntmps11
    go_wp2
    go_loop [1, 5] (fun x i => x = .int .i64 k ∧ i = .int .i64 0) (fun _ _ => 0)
    case atStart => exact ⟨rfl, rfl⟩
    case round =>
      obtain ⟨rfl, rfl⟩ := hrel
      go_wp2
      go_ret
      exact ⟨by simp, rfl⟩
  · clear hrest
    go_enter Try.func11, Try.ntmps11
    go_wp2
    go_loop [1, 5] (fun x i => ∃ j : Nat, j ≤ n ∧ x = .int .i64 ((k : Int) + (j : Int)) ∧ i = .int .i64 j) (fun _ i => n - (intOf i).toNat)
    case atStart => exact ⟨0, Nat.zero_le _, by simp, rfl⟩
    case round =>
      obtain ⟨j, hj, rfl, rfl⟩ := hrel
      by_cases hlt : j < n
      · have hwm := wrap_mark k j
        have hce : w.cell? ⟨g, j, none⟩ = some (.int .u8 (((k + j) % 256 : Nat) : Int)) := by
          rw [hown.cellAt j (by omega), ← marks_at k n j hlt]
          simp [List.getD, marks_len, hlt]
        go_wp2
        go_round
        case rel => exact ⟨j + 1, by omega, by go_num, by go_num⟩
        case measure => simp [intOf]; omega
      · obtain rfl : j = n := by omega
        go_wp2
        go_ret
        exact ⟨by simp, rfl⟩
end Go.Proofs.Ytgibihacbhjlnaa
