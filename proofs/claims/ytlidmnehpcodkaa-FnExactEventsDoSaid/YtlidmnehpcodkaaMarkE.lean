/-
  Own text: the laws' marks on rows of events, with what they leave alone; whether they are still there.
-/
import Derived.Test.YtlidmnehpcodkaaEvW
namespace Go.Proofs.Ytlidmnehpcodkaa
open Go.RowKit

/-- The marks of n events, from k on. -/
def marksE (k n : Nat) : List EvD := (List.range n).map fun i => (((k + 3 * i : Nat) : Int), ((k + 3 * i + 1 : Nat) : Int), markS (k + 3 * i + 2))
def markToE (l : List EvD) (k i : Nat) : List EvD := marksE k i ++ l.drop i
theorem marksE_len (k n : Nat) : (marksE k n).length = n := by simp [marksE]
theorem markToE_zero (l : List EvD) (k : Nat) : markToE l k 0 = l := by simp [markToE, marksE]
theorem markToE_all (l : List EvD) (k : Nat) : markToE l k l.length = marksE k l.length := by simp [markToE]
theorem markToE_len (l : List EvD) (k i : Nat) (h : i ≤ l.length) : (markToE l k i).length = l.length := by simp [markToE, marksE_len]; omega
theorem markToE_set (l : List EvD) (k i : Nat) (h : i < l.length) : (markToE l k i).set i (((k + 3 * i : Nat) : Int), ((k + 3 * i + 1 : Nat) : Int), markS (k + 3 * i + 2)) = markToE l k (i + 1) := by
  unfold markToE
  rw [List.set_append_right _ _ (by rw [marksE_len]; exact Nat.le_refl _), marksE_len, Nat.sub_self]
  have e : marksE k (i + 1) = marksE k i ++ [(((k + 3 * i : Nat) : Int), ((k + 3 * i + 1 : Nat) : Int), markS (k + 3 * i + 2))] := by unfold marksE; rw [List.range_succ, List.map_append]; rfl
  rw [e, List.append_assoc, List.drop_eq_getElem_cons h]; rfl
theorem marksE_at (k n i : Nat) (h : i < n) : (marksE k n)[i]'(by rw [marksE_len]; exact h) = (((k + 3 * i : Nat) : Int), ((k + 3 * i + 1 : Nat) : Int), markS (k + 3 * i + 2)) := by simp [marksE]

set_option maxRecDepth 20000 in
set_option maxHeartbeats 1000000 in
theorem markEvs (v : Value) (n k base : Nat) (l : List EvD) (w : World) (hn : n ≤ 536870912) (hk : k ≤ 2147483648) (hl : l.length = n) (hown : w.ownsRow base 69 3 v n (l.flatMap encE)) :
    Calls Try.prog 19 #[v, .int .i64 k] w fun e w' => e = .returned (.int .i64 ((k + 3 * n : Nat) : Int)) ∧ w'.ownsRow base 69 3 v n ((marksE k n).flatMap encE) ∧ Only (blk v) w w' := by
  rcases hown.2 with ⟨rfl, rfl⟩ | ⟨g, cap, cur, rfl, hbg, hrest⟩
  · go_enter Try.func19, Try.ntmps19
    go_wp2
    go_loop [1, 5] (fun x i => x = .int .i64 k ∧ i = .int .i64 0) (fun _ _ => 0)
    case atStart => exact ⟨rfl, rfl⟩
    case round =>
      obtain ⟨rfl, rfl⟩ := hrel
      go_wp2
      go_ret
      exact ⟨by simp, World.ownsRow_nil _ _ _ _, Only.refl _ _⟩
  · clear hrest
    subst hl
    go_enter Try.func19, Try.ntmps19
    go_wp2
    go_loopw [1, 5] (fun x i wr => ∃ j : Nat, j ≤ l.length ∧ x = .int .i64 ((k + 3 * j : Nat) : Int) ∧ i = .int .i64 j ∧ wr.ownsRow base 69 3 (.slice (some ⟨g, 0, none⟩) l.length cap) l.length ((markToE l k j).flatMap encE) ∧ Only (blk (.slice (some ⟨g, 0, none⟩) l.length cap)) w wr) (fun _ i _ => l.length - (intOf i).toNat)
    case atStart => exact ⟨0, Nat.zero_le _, by simp, rfl, by rw [markToE_zero]; exact hown, Only.refl _ _⟩
    case round =>
      obtain ⟨j, hj, rfl, rfl, ho, hbel⟩ := hrel
      by_cases hlt : j < l.length
      · clear hown
        have hlen := markToE_len l k j hj
        have hce := ho.cellAt (j * 3) (by omega)
        rw [(evCells (l := markToE l k j) (i := j) (by omega)).1] at hce
        have hfz := ho.frozenAt (j * 3)
        have hst := (ho.stored (j * 3) (.int .i64 ((k + 3 * j : Nat) : Int))).1
        have hc1 := hst.cellAt (j * 3 + 1) (by omega)
        have hf1 := hst.frozenAt (j * 3 + 1)
        have hst1 := (hst.stored (j * 3 + 1) (.int .i64 ((k + 3 * j + 1 : Nat) : Int))).1
        rw [evKind (markToE l k j) j (by omega)] at hc1 hst1
        have hlq : ((markToE l k j).set j (((k + 3 * j : Nat) : Int), (markToE l k j)[j].2.1, (markToE l k j)[j].2.2)).length = l.length := by simp [hlen]
        rw [(evCells (l := (markToE l k j).set j (((k + 3 * j : Nat) : Int), (markToE l k j)[j].2.1, (markToE l k j)[j].2.2)) (i := j) (by omega)).2.1] at hc1
        rw [evAtS _ j (by omega)] at hst1
        simp only [List.getElem_set_self, List.set_set] at hst1 hc1
        have hb1 : Only (blk (.slice (some ⟨g, 0, none⟩) l.length cap)) w ((wr.setCell ⟨g, j * 3, none⟩ (.int .i64 ((k + 3 * j : Nat) : Int))).setCell ⟨g, j * 3 + 1, none⟩ (.int .i64 ((k + 3 * j + 1 : Nat) : Int))) := (hbel.setCell (p := ⟨g, j * 3, none⟩) rfl _).setCell (p := ⟨g, j * 3 + 1, none⟩) rfl _
        clear ho hbel hst
        have HST : Hid (((wr.setCell ⟨g, j * 3, none⟩ (.int .i64 ((k + 3 * j : Nat) : Int))).setCell ⟨g, j * 3 + 1, none⟩ (.int .i64 ((k + 3 * j + 1 : Nat) : Int))).ownsRow base 69 3 (.slice (some ⟨g, 0, none⟩) l.length cap) l.length (((markToE l k j).set j (((k + 3 * j : Nat) : Int), ((k + 3 * j + 1 : Nat) : Int), (markToE l k j)[j].2.2)).flatMap encE)) := hst1
        clear hst1
        obtain ⟨old, hce2⟩ : ∃ o, wr.cell? ⟨g, j * 3, none⟩ = some (.int .i64 o) := ⟨_, hce⟩
        obtain ⟨old1, hc12⟩ : ∃ o, (wr.setCell ⟨g, j * 3, none⟩ (.int .i64 ((k + 3 * j : Nat) : Int))).cell? ⟨g, j * 3 + 1, none⟩ = some (.int .i64 o) := ⟨_, hc1⟩
        clear hce hc1
        simp only [Int.natCast_add, Int.natCast_mul, Int.cast_ofNat_Int] at hc12 hf1
        go_wp2_with fail
        refine (markT (k + 3 * j + 2) _ (by omega)).mono ?_
        rintro e w1 ⟨rfl, hb2⟩
        have ho1 := ownsRow_below HST.out hb2 (Nat.le_refl _)
        have hbel1 := hb1.trans (Only.of_new hb2)
        have hlen2 : ((markToE l k j).set j (((k + 3 * j : Nat) : Int), ((k + 3 * j + 1 : Nat) : Int), (markToE l k j)[j].2.2)).length = l.length := by simp [hlen]
        have hcd := ho1.cellAt (j * 3 + 2) (by omega)
        rw [(evCells (l := (markToE l k j).set j (((k + 3 * j : Nat) : Int), ((k + 3 * j + 1 : Nat) : Int), (markToE l k j)[j].2.2)) (i := j) (by omega)).2.2] at hcd
        have hfd := ho1.frozenAt (j * 3 + 2)
        have hsd := (ho1.stored (j * 3 + 2) (.string (markS (k + 3 * j + 2)))).1
        rw [evData _ j (by omega)] at hsd
        simp only [List.getElem_set_self, List.set_set] at hsd hcd
        rw [markToE_set l k j hlt] at hsd
        have hb3 : Only (blk (.slice (some ⟨g, 0, none⟩) l.length cap)) w (w1.setCell ⟨g, j * 3 + 2, none⟩ (.string (markS (k + 3 * j + 2)))) := hbel1.setCell (p := ⟨g, j * 3 + 2, none⟩) rfl _
        obtain ⟨old2, hcd2⟩ : ∃ o, w1.cell? ⟨g, j * 3 + 2, none⟩ = some (.string o) := ⟨_, hcd⟩
        clear ho1 hbel1 hb1 hb2 hce2 hc12 hfz hf1 hcd HST hlen2 hlq hlen
        generalize markS (k + 3 * j + 2) = ms at *
        go_wp2
        go_roundw
        case rel => exact ⟨j + 1, by omega, by go_num, by go_num, hsd, hb3⟩
        case measure => simp [intOf]; omega
      · obtain rfl : j = l.length := by omega
        go_wp2
        go_ret
        exact ⟨by simp, by rw [← markToE_all]; exact ho, hbel⟩

set_option maxRecDepth 20000 in
set_option maxHeartbeats 1000000 in
theorem heldEvs (a : Option Addr) (cap n k : Nat) (w : World) (hn : n ≤ 536870912) (hk : k ≤ 2147483648) (hr : RdF encE 3 w a (marksE k n)) :
    Calls Try.prog 20 #[.slice a n cap, .int .i64 k] w fun e w' => e = .returned (.int .i64 ((k + 3 * n : Nat) : Int)) ∧ Below w.heap.size w w' := by
  have HCS : Hid (∀ j, j < n → ∃ b off, a = some ⟨b, off, none⟩ ∧ b < w.heap.size ∧ w.cell? ⟨b, off + j * 3, none⟩ = some (.int .i64 ((k + 3 * j : Nat) : Int)) ∧ w.cell? ⟨b, off + j * 3 + 1, none⟩ = some (.int .i64 ((k + 3 * j + 1 : Nat) : Int)) ∧ w.cell? ⟨b, off + j * 3 + 2, none⟩ = some (.string (markS (k + 3 * j + 2)))) := by
    intro j hj
    obtain ⟨b, off, h1, h2, h3⟩ := hr.at j (by rw [marksE_len]; exact hj)
    rw [marksE_at k n j hj] at h3
    exact ⟨b, off, h1, h2, h3 0 (by omega), h3 1 (by omega), h3 2 (by omega)⟩
  clear hr
  go_enter Try.func20, Try.ntmps20
  go_wp2
  go_loopw [1, 5] (fun x i wr => ∃ j : Nat, j ≤ n ∧ x = .int .i64 ((k + 3 * j : Nat) : Int) ∧ i = .int .i64 j ∧ Below w.heap.size w wr) (fun _ i _ => n - (intOf i).toNat)
  case atStart => exact ⟨0, Nat.zero_le _, by simp, rfl, Below.refl _ _⟩
  case round =>
    obtain ⟨j, hj, rfl, rfl, hbel⟩ := hrel
    by_cases hlt : j < n
    · obtain ⟨b, off, rfl, hblt, hc0, hc1, hc2⟩ := HCS.out j hlt
      have hd0 : wr.cell? ⟨b, off + j * 3, none⟩ = some (.int .i64 ((k + 3 * j : Nat) : Int)) := (hbel.cell hblt).trans hc0
      have hd1 : wr.cell? ⟨b, off + j * 3 + 1, none⟩ = some (.int .i64 ((k + 3 * j + 1 : Nat) : Int)) := (hbel.cell hblt).trans hc1
      have hd2 : wr.cell? ⟨b, off + j * 3 + 2, none⟩ = some (.string (markS (k + 3 * j + 2))) := (hbel.cell hblt).trans hc2
      have hgr : b < wr.heap.size := by have := hbel.size; omega
      have HC : Hid (∀ w1 : World, Calls Try.prog 49 #[.int .i64 ((k + 3 * j + 2 : Nat) : Int)] w1 fun e w' => e = .returned (.string (markS (k + 3 * j + 2))) ∧ Below w1.heap.size w1 w') := fun w1 => markT (k + 3 * j + 2) w1 (by omega)
      generalize markS (k + 3 * j + 2) = ms at *
      clear hc0 hc1 hc2
      go_wp2
      go_region_with (go_at_call 49; refine (HC.out _).mono ?_; rintro e w1 ⟨rfl, hb1⟩; have hd3 : w1.cell? ⟨b, off + j * 3 + 2, none⟩ = some (.string ms) := (hb1.cell (by exact hgr)).trans hd2)
      all_goals
        have hb2 : Below w.heap.size w w1 := hbel.drew.trans (hb1.mono hbel.size)
        clear hb1 hd3 hbel hd0 hd1 hd2
        go_wp2
        go_roundw
        case rel => exact ⟨j + 1, by omega, by go_num, by go_num, hb2⟩
        case measure => simp [intOf]; omega
    · obtain rfl : j = n := by omega
      go_wp2
      go_ret
      exact ⟨by simp, hbel⟩
end Go.Proofs.Ytlidmnehpcodkaa
