/-
  Own text: the laws' helpers over rows of texts, as the helpers over greater things ask for them: how great, a copy that is owned, still marked.
-/
import Derived.Test.YtmnngfaelanbcaaMarkP
namespace Go.Proofs.Ytmnngfaelanbcaa
open Go.RowKit

theorem Try.infoTxt : (Try.prog.info? 9).map (fun i => (i.zero, i.size, i.bytes)) = some (some (.string ⟨#[]⟩), 1, 16) := by kernel_rfl

/-- The cell of a row of texts that can be read. -/
theorem RdS.cellT {w : World} {a : Option Addr} {l : List ByteArray} (h : RdS w a l) (k : Nat) (hk : k < l.length) : ∃ b off, a = some ⟨b, off, none⟩ ∧ b < w.heap.size ∧ w.cell? ⟨b, off + k, none⟩ = some (.string l[k]) := by
  rcases h with rfl | ⟨b, off, rfl, hlt, hc⟩
  · simp at hk
  · exact ⟨b, off, rfl, hlt, hc k hk⟩
/-- How great texts are. -/
def szT (l : List ByteArray) : Nat := (l.map fun s => 1 + s.size).sum
theorem szT_take {l : List ByteArray} {k : Nat} (h : k < l.length) : szT (l.take (k + 1)) = szT (l.take k) + 1 + (l[k]).size := by
  unfold szT
  rw [List.take_succ_eq_append_getElem h, List.map_append, List.sum_append]
  simp
  omega
theorem szT_len (l : List ByteArray) : l.length ≤ szT l := by
  unfold szT
  induction l with
  | nil => simp
  | cons x l ih => simp; omega
theorem szP_len (l : List PutD) : l.length ≤ szP l := by
  unfold szP
  induction l with
  | nil => simp
  | cons x l ih => simp; omega


set_option maxRecDepth 20000 in
set_option maxHeartbeats 400000 in
theorem heldStrs (a : Option Addr) (cap n k : Nat) (w : World) (hn : n ≤ 2147483648) (hk : k ≤ 2147483648) (hr : RdS w a (marksS k n)) :
    Calls Try.prog 20 #[.slice a n cap, .int .i64 k] w fun e w' => e = .returned (.int .i64 ((k + n : Nat) : Int)) ∧ Below w.heap.size w w' := by
  have HCS : Hid (∀ j, j < n → ∃ b off, a = some ⟨b, off, none⟩ ∧ b < w.heap.size ∧ w.cell? ⟨b, off + j, none⟩ = some (.string (markS (k + j)))) := by
    intro j hj
    obtain ⟨b, off, h1, h2, h3⟩ := hr.cellT j (by rw [marksS_len]; exact hj)
    have e : (marksS k n)[j]'(by rw [marksS_len]; exact hj) = markS (k + j) := by simp [marksS]
    rw [e] at h3
    exact ⟨b, off, h1, h2, h3⟩
  clear hr
  go_enter Try.func20, Try.ntmps20
  go_wp2
  go_loopw [1, 5] (fun x i wr => ∃ j : Nat, j ≤ n ∧ x = .int .i64 ((k + j : Nat) : Int) ∧ i = .int .i64 j ∧ Below w.heap.size w wr) (fun _ i _ => n - (intOf i).toNat)
  case atStart => exact ⟨0, Nat.zero_le _, by simp, rfl, Below.refl _ _⟩
  case round =>
    obtain ⟨j, hj, rfl, rfl, hbel⟩ := hrel
    by_cases hlt : j < n
    · obtain ⟨b, off, rfl, hblt, hc0⟩ := HCS.out j hlt
      have hce : wr.cell? ⟨b, off + j, none⟩ = some (.string (markS (k + j))) := (hbel.cell hblt).trans hc0
      have hgr : b < wr.heap.size := by have := hbel.size; omega
      have HC : Hid (∀ w1 : World, Calls Try.prog 39 #[.int .i64 ((k + j : Nat) : Int)] w1 fun e w' => e = .returned (.string (markS (k + j))) ∧ Below w1.heap.size w1 w') := fun w1 => markT (k + j) w1 (by omega)
      clear hc0
      generalize markS (k + j) = ms at *
      go_wp2
      go_region_with (go_at_call 39; refine (HC.out _).mono ?_; rintro e w1 ⟨rfl, hb1⟩; have hc1 : w1.cell? ⟨b, off + j, none⟩ = some (.string ms) := (hb1.cell (by exact hgr)).trans hce)
      all_goals
        have hb2 : Below w.heap.size w w1 := hbel.drew.trans (hb1.mono hbel.size)
        clear hb1 hc1 hce hbel
        go_wp2
        go_roundw
        case rel => exact ⟨j + 1, by omega, by go_num, by go_num, hb2⟩
        case measure => simp [intOf]; omega
    · obtain rfl : j = n := by omega
      go_wp2
      go_ret
      exact ⟨by simp, hbel⟩
end Go.Proofs.Ytmnngfaelanbcaa
