/-
  Own text: what is read, as the program reads it.
-/
import Derived.Test.YtlidmnehpcodkaaDoorIOkW
import Derived.Test.YtlidmnehpcodkaaDoorCloneW
namespace Go.Proofs.YtlidmnehpcodkaaDoor
open Go.RowKit

def rdAt (d : DiskD) (at' : Int) : ByteArray := (lastAt d.2 at').getD (d.1.getD at'.toNat ⟨#[]⟩)

set_option maxRecDepth 20000 in
set_option maxHeartbeats 400000 in
theorem implRead (P : Nat) (a b : Option Addr) (ca cb : Nat) (d : DiskD) (at' : Int) (w : World) (hl : d.1.length ≤ 4194304 ∧ d.2.length ≤ 4194304) (h0 : 0 ≤ at') (h1 : at' ≤ (d.1.length : Int) - 1)
    (hc0 : w.cell? ⟨P, 0, none⟩ = some (.slice a d.1.length ca)) (hc1 : w.cell? ⟨P, 1, none⟩ = some (.slice b d.2.length cb)) (r1 : RdS w a d.1) (r2 : RdF encP 2 w b d.2) :
    Calls Tryd.prog 52 #[.pointer (some ⟨P, 0, none⟩), .int .i64 at'] w fun e w' => e = .returned (.string (rdAt d at')) ∧ w' = w := by
  obtain ⟨hl1, hl2⟩ := hl
  have HCS : Hid (∀ k (hk : k < d.1.length), ∃ x off, a = some ⟨x, off, none⟩ ∧ x < w.heap.size ∧ w.cell? ⟨x, off + k, none⟩ = some (.string d.1[k])) := fun k hk => r1.cellT k hk
  have HPS : Hid (∀ k (hk : k < d.2.length), ∃ x off, b = some ⟨x, off, none⟩ ∧ x < w.heap.size ∧ w.cell? ⟨x, off + k * 2, none⟩ = some (.int .i64 d.2[k].1) ∧ w.cell? ⟨x, off + k * 2 + 1, none⟩ = some (.string d.2[k].2)) := by
    intro k hk
    obtain ⟨x, off, h1, h2, h3⟩ := r2.at k hk
    exact ⟨x, off, h1, h2, h3 0 (by omega), h3 1 (by omega)⟩
  have HY : Hid (rdAt d at' = (lastAt d.2 at').getD (d.1.getD at'.toNat ⟨#[]⟩)) := rfl
  clear r1 r2
  go_enter Tryd.func52, Tryd.ntmps52
  go_wp2
  go_loopw [5] (fun i wr => ∃ m : Nat, m ≤ d.2.length ∧ i = .int .i64 ((m : Int) - 1) ∧ wr = w ∧ Hid (∀ j (hj : j < d.2.length), m ≤ j → ¬ d.2[j].1 = at')) (fun i _ => (intOf i + 1).toNat)
  case atStart => exact ⟨d.2.length, Nat.le_refl _, by go_num, rfl, fun j hj h => by omega⟩
  case round =>
    obtain ⟨m, hm, rfl, hwr, HA⟩ := hrel
    subst hwr
    by_cases h0 : m = 0
    · subst h0
      obtain ⟨x, off, rfl, hblt, hc⟩ := HCS.out at'.toNat (by omega)
      have HE : Hid (rdAt d at' = d.1[at'.toNat]'(by omega)) := by
        show _ = _
        rw [HY.out, lastAt_none fun j hj => HA.out j hj (by omega)]
        simp [List.getD, show at'.toNat < d.1.length by omega]
      rw [← HE.out] at hc
      clear HE HA HY
      generalize hz : rdAt d at' = z at *
      have HZ : Hid (rdAt d at' = z) := hz
      clear hz
      go_wp2
      go_ret
      exact ⟨by rw [HZ.out]; rfl, rfl⟩
    · obtain ⟨x, off, rfl, hblt, hd0, hd1⟩ := HPS.out (m - 1) (by omega)
      have hge : (0 : Int) ≤ (m : Int) - 1 := by omega
      by_cases hq : d.2[m - 1].1 = at'
      · have HE : Hid (rdAt d at' = d.2[m - 1].2) := by
          show _ = _
          rw [HY.out, lastAt_at (by omega) hq fun j hj h => HA.out j hj (by omega)]
          rfl
        generalize d.2[m - 1].1 = yn at *
        generalize d.2[m - 1].2 = ys at *
        subst hq
        go_wp2
        go_ret
        exact ⟨by rw [HE.out]; rfl, rfl⟩
      · have HN : Hid (∀ j (hj : j < d.2.length), m - 1 ≤ j → ¬ d.2[j].1 = at') := by
          intro j hj h
          by_cases e : j = m - 1
          · subst e; exact hq
          · exact HA.out j hj (by omega)
        have hlen : m - 1 < d.2.length := by omega
        generalize d.2[m - 1].1 = yn at *
        generalize d.2[m - 1].2 = ys at *
        have hq2 : (yn == at') = false := by simpa using hq
        go_wp2
        go_roundw
        case rel => exact ⟨m - 1, by omega, by go_num, by trivial, HN⟩
        case measure => simp [intOf]; omega

theorem rd_small {d : DiskD} {at' : Int} (h : dkOk d = true) : (rdAt d at').size ≤ 90 := by
  have hd := dkOk_iff.1 h
  unfold rdAt lastAt
  cases hf : d.2.reverse.find? fun p => decide (p.1 = at') with
  | some p =>
    have := (hd.2.2.2 p (by simpa using List.mem_of_find?_eq_some hf)).2.2
    simpa using this
  | none =>
    simp only [Option.map_none, Option.getD_none]
    by_cases hk : at'.toNat < d.1.length
    · have := hd.2.2.1 _ (List.getElem_mem hk)
      simpa [List.getD, hk] using this
    · simp only [List.getD, List.getElem?_eq_none (Nat.le_of_not_lt hk)]
      exact Nat.zero_le _

end Go.Proofs.YtlidmnehpcodkaaDoor
