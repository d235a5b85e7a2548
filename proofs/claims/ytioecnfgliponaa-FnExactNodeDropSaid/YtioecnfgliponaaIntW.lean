/-
  Own text: the laws' helpers over rows of numbers: alike, marks, whether they are still there.
-/
import Derived.Test.YtioecnfgliponaaRows
import Derived.Test.YtioecnfgliponaaBase
import Derived.Test.YtioecnfgliponaaNumBase
import Derived.Handy
import Derived.Deep.RegionWith
namespace Go.Proofs.Ytioecnfgliponaa
open Go.RowKit

set_option maxHeartbeats 400000 in
theorem eqI (a c : Option Addr) (ca cc : Nat) (l : List Int) (w : World) (hl : l.length ≤ 4194304) (hr : Rd .i64 w a l) (hs : Rd .i64 w c l) :
    Calls Try.prog 73 #[.slice a l.length ca, .slice c l.length cc] w fun e w' => e = .returned (.bool true) ∧ Below w.heap.size w w' := by
  have HCS : Hid (∀ k, k < l.length → ∃ b off, a = some ⟨b, off, none⟩ ∧ b < w.heap.size ∧ w.cell? ⟨b, off + k, none⟩ = some (.int .i64 (l.getD k 0))) := by
    intro k hk
    rcases hr with rfl | ⟨b, off, rfl, hlt, hc⟩
    · simp at hk
    · exact ⟨b, off, rfl, hlt, hc k hk⟩
  have HDS : Hid (∀ k, k < l.length → ∃ b off, c = some ⟨b, off, none⟩ ∧ b < w.heap.size ∧ w.cell? ⟨b, off + k, none⟩ = some (.int .i64 (l.getD k 0))) := by
    intro k hk
    rcases hs with rfl | ⟨b, off, rfl, hlt, hc⟩
    · simp at hk
    · exact ⟨b, off, rfl, hlt, hc k hk⟩
  clear hr hs
  go_enter Try.func73, Try.ntmps73
  go_wp2
  go_loopw [5] (fun i wr => ∃ k : Nat, k ≤ l.length ∧ i = .int .i64 k ∧ Below w.heap.size w wr) (fun i _ => l.length - (intOf i).toNat)
  case atStart => exact ⟨0, Nat.zero_le _, rfl, Below.refl _ _⟩
  case round =>
    obtain ⟨k, hk, rfl, hbel⟩ := hrel
    by_cases hlt : k < l.length
    · obtain ⟨b, off, rfl, hblt, hcell⟩ := HCS.out k hlt
      obtain ⟨d, off2, rfl, hdlt, hcell2⟩ := HDS.out k hlt
      have hcr : wr.cell? ⟨b, off + k, none⟩ = some (.int .i64 (l.getD k 0)) := (hbel.cell hblt).trans hcell
      have hdr : wr.cell? ⟨d, off2 + k, none⟩ = some (.int .i64 (l.getD k 0)) := (hbel.cell hdlt).trans hcell2
      generalize l.getD k 0 = z at *
      clear hcell hcell2
      go_wp2
      go_region
      all_goals (go_wp2)
      all_goals go_roundw
      case rel => exact ⟨k + 1, by omega, by go_num, hbel.drew⟩
      case measure => simp [intOf]; omega
    · go_wp2
      go_ret
      exact ⟨rfl, hbel⟩

def marksI (k n : Nat) : List Int := (List.range n).map fun i => ((k + i : Nat) : Int)
def markToI (l : List Int) (k i : Nat) : List Int := marksI k i ++ l.drop i
theorem marksI_len (k n : Nat) : (marksI k n).length = n := by simp [marksI]
theorem markToI_zero (l : List Int) (k : Nat) : markToI l k 0 = l := by simp [markToI, marksI]
theorem markToI_all (l : List Int) (k : Nat) : markToI l k l.length = marksI k l.length := by simp [markToI]
theorem markToI_len (l : List Int) (k i : Nat) (h : i ≤ l.length) : (markToI l k i).length = l.length := by simp [markToI, marksI_len]; omega
theorem markToI_set (l : List Int) (k i : Nat) (h : i < l.length) : (markToI l k i).set i ((k + i : Nat) : Int) = markToI l k (i + 1) := by
  unfold markToI
  rw [List.set_append_right _ _ (by rw [marksI_len]; exact Nat.le_refl _), marksI_len, Nat.sub_self]
  have e : marksI k (i + 1) = marksI k i ++ [((k + i : Nat) : Int)] := by unfold marksI; rw [List.range_succ, List.map_append]; rfl
  rw [e, List.append_assoc, List.drop_eq_getElem_cons h]; rfl
theorem marksI_at (k n i : Nat) (h : i < n) : (marksI k n).getD i 0 = ((k + i : Nat) : Int) := by simp [marksI, List.getD, h]

set_option maxRecDepth 20000 in
set_option maxHeartbeats 400000 in
theorem markI (v : Value) (n k base : Nat) (l : List Int) (w : World) (hn : n ≤ 4294967296) (hk : k ≤ 4294967296) (hown : w.ownsRow base 3 1 v n (l.map (Value.int .i64))) :
    Calls Try.prog 61 #[v, .int .i64 k] w fun e w' => e = .returned (.int .i64 ((k + n : Nat) : Int)) ∧ w'.ownsRow base 3 1 v n ((marksI k n).map (Value.int .i64)) ∧ w.grownBy w' v.ownBlock := by
  have hl : l.length = n := by have := hown.1; simpa using this
  rcases hown.2 with ⟨rfl, rfl⟩ | ⟨g, cap, cur, rfl, hrest⟩
  · go_enter Try.func61, Try.ntmps61
    go_wp2
    go_loop [1, 5] (fun x i => x = .int .i64 k ∧ i = .int .i64 0) (fun _ _ => 0)
    case atStart => exact ⟨rfl, rfl⟩
    case round =>
      obtain ⟨rfl, rfl⟩ := hrel
      go_wp2
      go_ret
      exact ⟨by simp, World.ownsRow_nil _ _ _ _, World.grownBy.refl _ _⟩
  · clear hrest
    subst hl
    go_enter Try.func61, Try.ntmps61
    go_wp2
    go_loopw [1, 5] (fun x i wr => ∃ j : Nat, j ≤ l.length ∧ x = .int .i64 ((k : Int) + (j : Int)) ∧ i = .int .i64 j ∧ wr.ownsRow base 3 1 (.slice (some ⟨g, 0, none⟩) l.length cap) l.length ((markToI l k j).map (Value.int .i64)) ∧ w.grownBy wr (some g)) (fun _ i _ => l.length - (intOf i).toNat)
    case atStart => exact ⟨0, Nat.zero_le _, by simp, rfl, by rw [markToI_zero]; exact hown, World.grownBy.refl _ _⟩
    case round =>
      obtain ⟨j, hj, rfl, rfl, ho, hg⟩ := hrel
      by_cases hlt : j < l.length
      · have hfz := ho.frozenAt j
        have hce : wr.cell? ⟨g, j, none⟩ = some (.int .i64 ((markToI l k j).getD j 0)) := by
          rw [ho.cellAt j (by omega)]
          have := markToI_len l k j hj
          simp [List.getD, show j < (markToI l k j).length by omega]
        generalize (markToI l k j).getD j 0 = old at hce
        have hst := ho.stored j (.int .i64 ((k + j : Nat) : Int))
        rw [← List.map_set, markToI_set l k j hlt] at hst
        have hg2 : w.grownBy (wr.setCell ⟨g, j, none⟩ (.int .i64 ((k + j : Nat) : Int))) (some g) :=
          ⟨hg.os, hg.tape, hg.output, by have := hg.size; have := hst.2.size; omega, fun x hx hne => (hst.2.block x (by have := hg.size; omega) hne).trans (hg.block x hx hne)⟩
        have HST := hst.1
        clear hst
        go_wp2
        go_roundw
        case rel => exact ⟨j + 1, by omega, by go_num, by go_num, HST, hg2⟩
        case measure => simp [intOf]; omega
      · obtain rfl : j = l.length := by omega
        go_wp2
        go_ret
        exact ⟨by simp, by rw [← markToI_all]; exact ho, hg⟩

set_option maxRecDepth 20000 in
set_option maxHeartbeats 400000 in
theorem heldI (v : Value) (n k base : Nat) (w : World) (hn : n ≤ 4294967296) (hk : k ≤ 4294967296) (hown : w.ownsRow base 3 1 v n ((marksI k n).map (Value.int .i64))) :
    Calls Try.prog 63 #[v, .int .i64 k] w fun e w' => e = .returned (.int .i64 ((k + n : Nat) : Int)) ∧ w' = w := by
  rcases hown.2 with ⟨rfl, rfl⟩ | ⟨g, cap, cur, rfl, hrest⟩
  · go_enter Try.func63, Try.ntmps63
    go_wp2
    go_loop [1, 5] (fun x i => x = .int .i64 k ∧ i = .int .i64 0) (fun _ _ => 0)
    case atStart => exact ⟨rfl, rfl⟩
    case round =>
      obtain ⟨rfl, rfl⟩ := hrel
      go_wp2
      go_ret
      exact ⟨by simp, rfl⟩
  · clear hrest
    go_enter Try.func63, Try.ntmps63
    go_wp2
    go_loop [1, 5] (fun x i => ∃ j : Nat, j ≤ n ∧ x = .int .i64 ((k : Int) + (j : Int)) ∧ i = .int .i64 j) (fun _ i => n - (intOf i).toNat)
    case atStart => exact ⟨0, Nat.zero_le _, by simp, rfl⟩
    case round =>
      obtain ⟨j, hj, rfl, rfl⟩ := hrel
      by_cases hlt : j < n
      · have hce : w.cell? ⟨g, j, none⟩ = some (.int .i64 ((k + j : Nat) : Int)) := by
          rw [hown.cellAt j (by omega), ← marksI_at k n j hlt]
          simp [List.getD, marksI_len, hlt]
        go_wp2
        go_round
        case rel => exact ⟨j + 1, by omega, by go_num, by go_num⟩
        case measure => simp [intOf]; omega
      · obtain rfl : j = n := by omega
        go_wp2
        go_ret
        exact ⟨by simp, rfl⟩
end Go.Proofs.Ytioecnfgliponaa
