/-
  Own text: the laws' marks on rows of texts and of writes, with what they leave alone; whether they are still there.
-/
import Derived.Test.YtjbeonicbcihlaaPutW
import Derived.Test.YtjbeonicbcihlaaHeldW
namespace Go.Proofs.Ytjbeonicbcihlaa
open Go.RowKit

/-- The blocks of a row. -/
def blk (v : Value) (j : Nat) : Prop := v.ownBlock = some j

set_option maxRecDepth 20000 in
set_option maxHeartbeats 400000 in
theorem markStrO (v : Value) (n k base : Nat) (l : List ByteArray) (w : World) (hn : n ≤ 2147483648) (hk : k ≤ 2147483648) (hown : w.ownsRow base 9 1 v n (l.map Value.string)) :
    Calls Try.prog 22 #[v, .int .i64 k] w fun e w' => e = .returned (.int .i64 ((k + n : Nat) : Int)) ∧ w'.ownsRow base 9 1 v n ((marksS k n).map Value.string) ∧ Only (blk v) w w' := by
  have hl : l.length = n := by have := hown.1; simpa using this
  rcases hown.2 with ⟨rfl, rfl⟩ | ⟨g, cap, cur, rfl, hbg, hrest⟩
  · go_enter Try.func22, Try.ntmps22
    go_wp2
    go_loop [1, 5] (fun x i => x = .int .i64 k ∧ i = .int .i64 0) (fun _ _ => 0)
    case atStart => exact ⟨rfl, rfl⟩
    case round =>
      obtain ⟨rfl, rfl⟩ := hrel
      go_wp2
      go_ret
      exact ⟨by simp, World.ownsRow_nil _ _ _ _, Only.refl _ _⟩
  · clear hrest
    subst hl
    go_enter Try.func22, Try.ntmps22
    go_wp2
    go_loopw [1, 5] (fun x i wr => ∃ j : Nat, j ≤ l.length ∧ x = .int .i64 ((k + j : Nat) : Int) ∧ i = .int .i64 j ∧ wr.ownsRow base 9 1 (.slice (some ⟨g, 0, none⟩) l.length cap) l.length ((markToS l k j).map Value.string) ∧ Only (blk (.slice (some ⟨g, 0, none⟩) l.length cap)) w wr) (fun _ i _ => l.length - (intOf i).toNat)
    case atStart => exact ⟨0, Nat.zero_le _, by simp, rfl, by rw [markToS_zero]; exact hown, Only.refl _ _⟩
    case round =>
      obtain ⟨j, hj, rfl, rfl, ho, hbel⟩ := hrel
      by_cases hlt : j < l.length
      · clear hown
        go_wp2_with fail
        refine (markT (k + j) _ (by omega)).mono ?_
        rintro e w1 ⟨rfl, hb1⟩
        have ho1 := ownsRow_below ho hb1 (Nat.le_refl _)
        have hbel1 : Only (blk (.slice (some ⟨g, 0, none⟩) l.length cap)) w w1 := hbel.trans (Only.of_new hb1)
        clear ho hbel hb1
        have hfz := ho1.frozenAt j
        have hce : w1.cell? ⟨g, j, none⟩ = some (.string ((markToS l k j).getD j ⟨#[]⟩)) := by
          rw [ho1.cellAt j (by omega)]
          have := markToS_len l k j hj
          simp [List.getD, show j < (markToS l k j).length by omega]
        generalize (markToS l k j).getD j ⟨#[]⟩ = old at hce
        have hst := (ho1.stored j (.string (markS (k + j)))).1
        rw [← List.map_set, markToS_set l k j hlt] at hst
        have hb2 : Only (blk (.slice (some ⟨g, 0, none⟩) l.length cap)) w (w1.setCell ⟨g, j, none⟩ (.string (markS (k + j)))) := hbel1.setCell (p := ⟨g, j, none⟩) rfl _
        generalize markS (k + j) = ms at *
        go_wp2
        go_roundw
        case rel => exact ⟨j + 1, by omega, by go_num, by go_num, hst, hb2⟩
        case measure => simp [intOf]; omega
      · obtain rfl : j = l.length := by omega
        go_wp2
        go_ret
        exact ⟨by simp, by rw [← markToS_all]; exact ho, hbel⟩

/-- The marks of n writes, from k on. -/
def marksP (k n : Nat) : List PutD := (List.range n).map fun i => (((k + 2 * i : Nat) : Int), markS (k + 2 * i + 1))
def markToP (l : List PutD) (k i : Nat) : List PutD := marksP k i ++ l.drop i
theorem marksP_len (k n : Nat) : (marksP k n).length = n := by simp [marksP]
theorem markToP_zero (l : List PutD) (k : Nat) : markToP l k 0 = l := by simp [markToP, marksP]
theorem markToP_all (l : List PutD) (k : Nat) : markToP l k l.length = marksP k l.length := by simp [markToP]
theorem markToP_len (l : List PutD) (k i : Nat) (h : i ≤ l.length) : (markToP l k i).length = l.length := by simp [markToP, marksP_len]; omega
theorem markToP_set (l : List PutD) (k i : Nat) (h : i < l.length) : (markToP l k i).set i (((k + 2 * i : Nat) : Int), markS (k + 2 * i + 1)) = markToP l k (i + 1) := by
  unfold markToP
  rw [List.set_append_right _ _ (by rw [marksP_len]; exact Nat.le_refl _), marksP_len, Nat.sub_self]
  have e : marksP k (i + 1) = marksP k i ++ [(((k + 2 * i : Nat) : Int), markS (k + 2 * i + 1))] := by unfold marksP; rw [List.range_succ, List.map_append]; rfl
  rw [e, List.append_assoc, List.drop_eq_getElem_cons h]; rfl
theorem marksP_at (k n i : Nat) (h : i < n) : (marksP k n)[i]'(by rw [marksP_len]; exact h) = (((k + 2 * i : Nat) : Int), markS (k + 2 * i + 1)) := by simp [marksP]

set_option maxRecDepth 20000 in
set_option maxHeartbeats 400000 in
theorem markPuts (v : Value) (n k base : Nat) (l : List PutD) (w : World) (hn : n ≤ 536870912) (hk : k ≤ 2147483648) (hl : l.length = n) (hown : w.ownsRow base 75 2 v n (l.flatMap encP)) :
    Calls Try.prog 33 #[v, .int .i64 k] w fun e w' => e = .returned (.int .i64 ((k + 2 * n : Nat) : Int)) ∧ w'.ownsRow base 75 2 v n ((marksP k n).flatMap encP) ∧ Only (blk v) w w' := by
  rcases hown.2 with ⟨rfl, rfl⟩ | ⟨g, cap, cur, rfl, hbg, hrest⟩
  · go_enter Try.func33, Try.ntmps33
    go_wp2
    go_loop [1, 5] (fun x i => x = .int .i64 k ∧ i = .int .i64 0) (fun _ _ => 0)
    case atStart => exact ⟨rfl, rfl⟩
    case round =>
      obtain ⟨rfl, rfl⟩ := hrel
      go_wp2
      go_ret
      exact ⟨by simp, World.ownsRow_nil _ _ _ _, Only.refl _ _⟩
  · clear hrest
    subst hl
    go_enter Try.func33, Try.ntmps33
    go_wp2
    go_loopw [1, 5] (fun x i wr => ∃ j : Nat, j ≤ l.length ∧ x = .int .i64 ((k + 2 * j : Nat) : Int) ∧ i = .int .i64 j ∧ wr.ownsRow base 75 2 (.slice (some ⟨g, 0, none⟩) l.length cap) l.length ((markToP l k j).flatMap encP) ∧ Only (blk (.slice (some ⟨g, 0, none⟩) l.length cap)) w wr) (fun _ i _ => l.length - (intOf i).toNat)
    case atStart => exact ⟨0, Nat.zero_le _, by simp, rfl, by rw [markToP_zero]; exact hown, Only.refl _ _⟩
    case round =>
      obtain ⟨j, hj, rfl, rfl, ho, hbel⟩ := hrel
      by_cases hlt : j < l.length
      · clear hown
        have hlen := markToP_len l k j hj
        have hce := ho.cellAt (j * 2) (by omega)
        rw [(putCells (l := markToP l k j) (i := j) (by omega)).1] at hce
        have hfz := ho.frozenAt (j * 2)
        have hst := (ho.stored (j * 2) (.int .i64 ((k + 2 * j : Nat) : Int))).1
        rw [putAt (markToP l k j) j (by omega)] at hst
        have hb1 : Only (blk (.slice (some ⟨g, 0, none⟩) l.length cap)) w (wr.setCell ⟨g, j * 2, none⟩ (.int .i64 ((k + 2 * j : Nat) : Int))) := hbel.setCell (p := ⟨g, j * 2, none⟩) rfl _
        clear ho hbel
        have HST : Hid ((wr.setCell ⟨g, j * 2, none⟩ (.int .i64 ((k + 2 * j : Nat) : Int))).ownsRow base 75 2 (.slice (some ⟨g, 0, none⟩) l.length cap) l.length (((markToP l k j).set j (((k + 2 * j : Nat) : Int), (markToP l k j)[j].2)).flatMap encP)) := hst
        clear hst
        obtain ⟨old, hce2⟩ : ∃ o, wr.cell? ⟨g, j * 2, none⟩ = some (.int .i64 o) := ⟨_, hce⟩
        clear hce
        go_wp2_with fail
        refine (markT (k + 2 * j + 1) _ (by omega)).mono ?_
        rintro e w1 ⟨rfl, hb2⟩
        have ho1 := ownsRow_below HST.out hb2 (Nat.le_refl _)
        have hbel1 := hb1.trans (Only.of_new hb2)
        have hlen2 : ((markToP l k j).set j (((k + 2 * j : Nat) : Int), (markToP l k j)[j].2)).length = l.length := by simp [hlen]
        have hcd := ho1.cellAt (j * 2 + 1) (by omega)
        rw [(putCells (l := (markToP l k j).set j (((k + 2 * j : Nat) : Int), (markToP l k j)[j].2)) (i := j) (by omega)).2] at hcd
        have hfd := ho1.frozenAt (j * 2 + 1)
        have hsd := (ho1.stored (j * 2 + 1) (.string (markS (k + 2 * j + 1)))).1
        rw [putData _ j (by omega)] at hsd
        simp only [List.getElem_set_self, List.set_set] at hsd hcd
        rw [markToP_set l k j hlt] at hsd
        have hb3 : Only (blk (.slice (some ⟨g, 0, none⟩) l.length cap)) w (w1.setCell ⟨g, j * 2 + 1, none⟩ (.string (markS (k + 2 * j + 1)))) := hbel1.setCell (p := ⟨g, j * 2 + 1, none⟩) rfl _
        obtain ⟨old2, hcd2⟩ : ∃ o, w1.cell? ⟨g, j * 2 + 1, none⟩ = some (.string o) := ⟨_, hcd⟩
        clear ho1 hbel1 hb1 hb2 hce2 hfz hcd
        clear HST hlen2
        clear hlen
        generalize markS (k + 2 * j + 1) = ms at *
        go_wp2
        go_roundw
        case rel => exact ⟨j + 1, by omega, by go_num, by go_num, hsd, hb3⟩
        case measure => simp [intOf]; omega
      · obtain rfl : j = l.length := by omega
        go_wp2
        go_ret
        exact ⟨by simp, by rw [← markToP_all]; exact ho, hbel⟩

set_option maxRecDepth 20000 in
set_option maxHeartbeats 400000 in
theorem heldPuts (a : Option Addr) (cap n k : Nat) (w : World) (hn : n ≤ 536870912) (hk : k ≤ 2147483648) (hr : RdF encP 2 w a (marksP k n)) :
    Calls Try.prog 34 #[.slice a n cap, .int .i64 k] w fun e w' => e = .returned (.int .i64 ((k + 2 * n : Nat) : Int)) ∧ Below w.heap.size w w' := by
  have HCS : Hid (∀ j, j < n → ∃ b off, a = some ⟨b, off, none⟩ ∧ b < w.heap.size ∧ w.cell? ⟨b, off + j * 2, none⟩ = some (.int .i64 ((k + 2 * j : Nat) : Int)) ∧ w.cell? ⟨b, off + j * 2 + 1, none⟩ = some (.string (markS (k + 2 * j + 1)))) := by
    intro j hj
    obtain ⟨b, off, h1, h2, h3⟩ := hr.at j (by rw [marksP_len]; exact hj)
    rw [marksP_at k n j hj] at h3
    exact ⟨b, off, h1, h2, h3 0 (by omega), h3 1 (by omega)⟩
  clear hr
  go_enter Try.func34, Try.ntmps34
  go_wp2
  go_loopw [1, 5] (fun x i wr => ∃ j : Nat, j ≤ n ∧ x = .int .i64 ((k + 2 * j : Nat) : Int) ∧ i = .int .i64 j ∧ Below w.heap.size w wr) (fun _ i _ => n - (intOf i).toNat)
  case atStart => exact ⟨0, Nat.zero_le _, by simp, rfl, Below.refl _ _⟩
  case round =>
    obtain ⟨j, hj, rfl, rfl, hbel⟩ := hrel
    by_cases hlt : j < n
    · obtain ⟨b, off, rfl, hblt, hc0, hc1⟩ := HCS.out j hlt
      have hd0 : wr.cell? ⟨b, off + j * 2, none⟩ = some (.int .i64 ((k + 2 * j : Nat) : Int)) := (hbel.cell hblt).trans hc0
      have hd1 : wr.cell? ⟨b, off + j * 2 + 1, none⟩ = some (.string (markS (k + 2 * j + 1))) := (hbel.cell hblt).trans hc1
      have hgr : b < wr.heap.size := by have := hbel.size; omega
      have HC : Hid (∀ w1 : World, Calls Try.prog 60 #[.int .i64 ((k + 2 * j + 1 : Nat) : Int)] w1 fun e w' => e = .returned (.string (markS (k + 2 * j + 1))) ∧ Below w1.heap.size w1 w') := fun w1 => markT (k + 2 * j + 1) w1 (by omega)
      generalize markS (k + 2 * j + 1) = ms at *
      clear hc0 hc1
      go_wp2
      go_region_with (go_at_call 60; refine (HC.out _).mono ?_; rintro e w1 ⟨rfl, hb1⟩; have hd2 : w1.cell? ⟨b, off + j * 2 + 1, none⟩ = some (.string ms) := (hb1.cell (by exact hgr)).trans hd1)
      all_goals
        have hb2 : Below w.heap.size w w1 := hbel.drew.trans (hb1.mono hbel.size)
        clear hb1 hd2 hbel hd0 hd1
        go_wp2
        go_roundw
        case rel => exact ⟨j + 1, by omega, by go_num, by go_num, hb2⟩
        case measure => simp [intOf]; omega
    · obtain rfl : j = n := by omega
      go_wp2
      go_ret
      exact ⟨by simp, hbel⟩
end Go.Proofs.Ytjbeonicbcihlaa
