/-
  Own text: the laws' helpers over rows of texts, as the helpers over greater things ask for them: how great, a copy that is owned, still marked.
-/
import Derived.Test.YtioecnfgliponaaMarkP
namespace Go.Proofs.Ytioecnfgliponaa
open Go.RowKit

theorem Try.infoTxt : (Try.prog.info? 9).map (fun i => (i.zero, i.size, i.bytes)) = some (some (.string ⟨#[]⟩), 1, 16) := by kernel_rfl

/-- The cell of a row of texts that can be read. -/
theorem RdS.cellT {w : World} {a : Option Addr} {l : List ByteArray} (h : RdS w a l) (k : Nat) (hk : k < l.length) : ∃ b off, a = some ⟨b, off, none⟩ ∧ b < w.heap.size ∧ w.cell? ⟨b, off + k, none⟩ = some (.string l[k]) := by
  rcases h with rfl | ⟨b, off, rfl, hlt, hc⟩
  · simp at hk
  · exact ⟨b, off, rfl, hlt, hc k hk⟩
/-- How great texts are. -/
def szT (l : List ByteArray) : Nat := (l.map fun s => 1 + s.size).sum
theorem szT_take {l : List ByteArray} {k : Nat} (h : k < l.length) : szT (l.take (k + 1)) = szT (l.take k) + 1 + (l[k]).size := by
  unfold szT
  rw [List.take_succ_eq_append_getElem h, List.map_append, List.sum_append]
  simp
  omega
theorem szT_len (l : List ByteArray) : l.length ≤ szT l := by
  unfold szT
  induction l with
  | nil => simp
  | cons x l ih => simp; omega
theorem szP_len (l : List PutD) : l.length ≤ szP l := by
  unfold szP
  induction l with
  | nil => simp
  | cons x l ih => simp; omega

set_option maxRecDepth 20000 in
set_option maxHeartbeats 400000 in
theorem szStrs (a : Option Addr) (cap : Nat) (l : List ByteArray) (left : Int) (w : World) (h0 : 0 ≤ left) (h1 : left ≤ 1048576) (hl : l.length ≤ maxLen) (hz : ∀ s ∈ l, s.size ≤ maxLen) (hr : RdS w a l) :
    Calls Try.prog 21 #[.slice a l.length cap, .int .i64 left] w fun e w' => ∃ r : Int, e = .returned (.int .i64 r) ∧ (0 ≤ r → r + szT l = left) ∧ -1 ≤ r ∧ r ≤ 1048576 ∧ Below w.heap.size w w' := by
  have HCS : Hid (∀ k (hk : k < l.length), ∃ b off, a = some ⟨b, off, none⟩ ∧ b < w.heap.size ∧ w.cell? ⟨b, off + k, none⟩ = some (.string l[k])) := fun k hk => hr.cellT k hk
  have HZ : Hid (∀ s ∈ l, s.size ≤ maxLen) := hz
  have hm : l.length ≤ 9223372036854775807 := by unfold maxLen at hl; omega
  clear hr hz hl
  by_cases hbig : left < l.length
  · have hneg : left - (l.length : Int) < 0 := by omega
    go_enter Try.func21, Try.ntmps21
    go_wp2
    go_ret
    exact ⟨-1, rfl, fun h => by omega, by omega, by omega, Below.refl _ _⟩
  · have hneg : ¬ left - (l.length : Int) < 0 := by omega
    go_enter Try.func21, Try.ntmps21
    go_wp2
    go_loopw [1, 5] (fun x i wr => ∃ (m : Int) (k : Nat), x = .int .i64 m ∧ 0 ≤ m ∧ m ≤ 1048576 ∧ k ≤ l.length ∧ i = .int .i64 k ∧ wr = w ∧ Hid (m + ((l.length : Int) - k) + (szT (l.take k) : Int) = left)) (fun _ i _ => l.length - (intOf i).toNat)
    case atStart => exact ⟨left - (l.length : Int), 0, by go_num, by omega, by omega, Nat.zero_le _, rfl, rfl, by show _ = _; simp [szT]⟩
    case round =>
      obtain ⟨m, k, rfl, hm0, hm1, hk, rfl, hwr, HA⟩ := hrel
      subst hwr
      by_cases hlt : k < l.length
      · obtain ⟨b, off, rfl, hblt, hcell⟩ := HCS.out k hlt
        have HS : Hid (szT (l.take (k + 1)) = szT (l.take k) + 1 + (l[k]).size) := szT_take hlt
        have hyz : (l[k]).size ≤ 9223372036854775807 := by have := HZ.out l[k] (List.getElem_mem hlt); unfold maxLen at this; omega
        generalize l[k] = y at *
        by_cases hm2 : m - (y.size : Int) < 0
        · go_wp2
          go_ret
          exact ⟨-1, rfl, fun h => by omega, by omega, by omega, Below.refl _ _⟩
        · go_wp2
          go_roundw
          case rel => exact ⟨m - (y.size : Int), k + 1, by go_num, by omega, by omega, by omega, by go_num, by trivial, by show _ = _; rw [HS.out]; have := HA.out; omega⟩
          case measure => simp [intOf]; omega
      · obtain rfl : k = l.length := by omega
        have HE : Hid (m + szT l = left) := by have := HA.out; rw [List.take_length] at this; show _ = _; omega
        go_wp2
        go_ret
        exact ⟨m, rfl, fun _ => HE.out, by omega, by omega, Below.refl _ _⟩
theorem made_txt (n : Nat) : (madeCells #[Value.string ⟨#[]⟩] n).toList = (List.replicate n (⟨#[]⟩ : ByteArray)).map Value.string := by
  apply List.ext_getElem
  · simp [size_madeCells]
  · intro i h1 h2
    simp [madeCells, Nat.mod_one]

set_option maxRecDepth 20000 in
set_option maxHeartbeats 400000 in
theorem toStrs (a : Option Addr) (cap : Nat) (l : List ByteArray) (w : World) (hl : l.length ≤ 1048576) (hr : RdS w a l) :
    Calls Try.prog 25 #[.slice a l.length cap] w fun e w' => ∃ v, e = .returned v ∧ w'.ownsRow w.heap.size 9 1 v l.length (l.map Value.string) ∧ Below w.heap.size w w' := by
  obtain ⟨i0, hi, hz0, hz1, hz2⟩ := info_parts Try.infoTxt
  have HCS : Hid (∀ k (hk : k < l.length), ∃ b off, a = some ⟨b, off, none⟩ ∧ b < w.heap.size ∧ w.cell? ⟨b, off + k, none⟩ = some (.string l[k])) := fun k hk => hr.cellT k hk
  clear hr
  go_enter Try.func25, Try.ntmps25
  go_wp2_with (at_make; refine wpList_make_full _ rfl _ _ 23 rfl w.heap.size 9 i0 (.string ⟨#[]⟩) 1 Try.underlying23 hi hz0 hz1 _ _ _ _ l.length rfl rfl rfl rfl (by rw [hz2]; omega) (by unfold maxLen; omega) (Nat.le_refl _) ?_)
  intro w1 hown hgrow
  have hown1 : w1.ownsRow w.heap.size 9 1 (.slice (some ⟨w.heap.size, 0, none⟩) l.length l.length) l.length ((fillF ⟨#[]⟩ l 0).map Value.string) := by
    rw [fillF_zero, ← made_txt]
    exact hown
  clear hown
  go_wp2
  go_loopw [4] (fun i wr => ∃ k : Nat, k ≤ l.length ∧ i = .int .i64 k ∧ wr.ownsRow w.heap.size 9 1 (.slice (some ⟨w.heap.size, 0, none⟩) l.length l.length) l.length ((fillF ⟨#[]⟩ l k).map Value.string) ∧ Below w.heap.size w wr) (fun i _ => l.length - (intOf i).toNat)
  case atStart => exact ⟨0, Nat.zero_le _, rfl, hown1, (Below.refl _ _).grown hgrow (Nat.le_refl _) (fun k h => by simp at h)⟩
  case round =>
    obtain ⟨k, hk, rfl, ho, hbel⟩ := hrel
    by_cases hlt : k < l.length
    · obtain ⟨b, off, rfl, hblt, hcell⟩ := HCS.out k hlt
      have hcr : wr.cell? ⟨b, off + k, none⟩ = some (.string l[k]) := (hbel.cell hblt).trans hcell
      have hfz := ho.frozenAt k
      have hce : wr.cell? ⟨w.heap.size, k, none⟩ = some (.string ((fillF ⟨#[]⟩ l k).getD k ⟨#[]⟩)) := by
        rw [ho.cellAt k (by omega)]
        have := fillF_len (⟨#[]⟩ : ByteArray) l k hk
        simp [List.getD, show k < (fillF ⟨#[]⟩ l k).length by omega]
      generalize (fillF ⟨#[]⟩ l k).getD k ⟨#[]⟩ = old at hce
      have hst := (ho.stored k (.string l[k])).1
      rw [← List.map_set, fillF_set _ l k hlt] at hst
      clear hown1 hgrow hcell
      generalize l[k] = y at *
      go_wp2
      go_roundw
      case rel => exact ⟨k + 1, by omega, by go_num, hst, hbel.setCell (Nat.le_refl _) _⟩
      case measure => simp [intOf]; omega
    · obtain rfl : k = l.length := by omega
      go_wp2
      go_ret
      rw [fillF_all] at ho
      exact ⟨_, rfl, ho, hbel⟩

set_option maxRecDepth 20000 in
set_option maxHeartbeats 400000 in
theorem heldStrs (a : Option Addr) (cap n k : Nat) (w : World) (hn : n ≤ 2147483648) (hk : k ≤ 2147483648) (hr : RdS w a (marksS k n)) :
    Calls Try.prog 40 #[.slice a n cap, .int .i64 k] w fun e w' => e = .returned (.int .i64 ((k + n : Nat) : Int)) ∧ Below w.heap.size w w' := by
  have HCS : Hid (∀ j, j < n → ∃ b off, a = some ⟨b, off, none⟩ ∧ b < w.heap.size ∧ w.cell? ⟨b, off + j, none⟩ = some (.string (markS (k + j)))) := by
    intro j hj
    obtain ⟨b, off, h1, h2, h3⟩ := hr.cellT j (by rw [marksS_len]; exact hj)
    have e : (marksS k n)[j]'(by rw [marksS_len]; exact hj) = markS (k + j) := by simp [marksS]
    rw [e] at h3
    exact ⟨b, off, h1, h2, h3⟩
  clear hr
  go_enter Try.func40, Try.ntmps40
  go_wp2
  go_loopw [1, 5] (fun x i wr => ∃ j : Nat, j ≤ n ∧ x = .int .i64 ((k + j : Nat) : Int) ∧ i = .int .i64 j ∧ Below w.heap.size w wr) (fun _ i _ => n - (intOf i).toNat)
  case atStart => exact ⟨0, Nat.zero_le _, by simp, rfl, Below.refl _ _⟩
  case round =>
    obtain ⟨j, hj, rfl, rfl, hbel⟩ := hrel
    by_cases hlt : j < n
    · obtain ⟨b, off, rfl, hblt, hc0⟩ := HCS.out j hlt
      have hce : wr.cell? ⟨b, off + j, none⟩ = some (.string (markS (k + j))) := (hbel.cell hblt).trans hc0
      have hgr : b < wr.heap.size := by have := hbel.size; omega
      have HC : Hid (∀ w1 : World, Calls Try.prog 62 #[.int .i64 ((k + j : Nat) : Int)] w1 fun e w' => e = .returned (.string (markS (k + j))) ∧ Below w1.heap.size w1 w') := fun w1 => markT (k + j) w1 (by omega)
      clear hc0
      generalize markS (k + j) = ms at *
      go_wp2
      go_region_with (go_at_call 62; refine (HC.out _).mono ?_; rintro e w1 ⟨rfl, hb1⟩; have hc1 : w1.cell? ⟨b, off + j, none⟩ = some (.string ms) := (hb1.cell (by exact hgr)).trans hce)
      all_goals
        have hb2 : Below w.heap.size w w1 := hbel.drew.trans (hb1.mono hbel.size)
        clear hb1 hc1 hce hbel
        go_wp2
        go_roundw
        case rel => exact ⟨j + 1, by omega, by go_num, by go_num, hb2⟩
        case measure => simp [intOf]; omega
    · obtain rfl : j = n := by omega
      go_wp2
      go_ret
      exact ⟨by simp, hbel⟩
end Go.Proofs.Ytioecnfgliponaa
