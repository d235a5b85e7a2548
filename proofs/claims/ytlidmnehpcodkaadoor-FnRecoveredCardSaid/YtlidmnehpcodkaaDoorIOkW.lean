/-
  Own text: the program's own right disks.
-/
import Derived.Test.YtlidmnehpcodkaaDoorBunS
namespace Go.Proofs.YtlidmnehpcodkaaDoor
open Go.RowKit

theorem implHas (P : Nat) (a : Option Addr) (n ca : Nat) (at' : Int) (w : World) (hc : w.cell? ⟨P, 0, none⟩ = some (.slice a n ca)) :
    Calls Tryd.prog 100 #[.pointer (some ⟨P, 0, none⟩), .int .i64 at'] w fun e w' => e = .returned (.bool (decide (0 ≤ at') && decide (at' ≤ (n : Int) - 1))) ∧ w' = w := by
  by_cases h0 : 0 ≤ at'
  · by_cases h1 : at' < (n : Int)
    · have h2 : at' ≤ (n : Int) - 1 := by omega
      go_enter Tryd.func100, Tryd.ntmps100
      go_wp2
      go_ret
      exact ⟨by simp [h0, h2], rfl⟩
    · have h2 : ¬ at' ≤ (n : Int) - 1 := by omega
      go_enter Tryd.func100, Tryd.ntmps100
      go_wp2
      go_ret
      exact ⟨by simp [h2], rfl⟩
  · have h2 : ¬ (0 ≤ at' ∧ at' ≤ (n : Int) - 1) := by omega
    go_enter Tryd.func100, Tryd.ntmps100
    go_wp2
    go_ret
    exact ⟨by rw [← Bool.decide_and, decide_eq_false h2]; rfl, rfl⟩

set_option maxRecDepth 20000 in
set_option maxHeartbeats 400000 in
theorem implOk (P : Nat) (a b : Option Addr) (ca cb : Nat) (d : DiskD) (w : World) (hl : d.1.length ≤ 4194304 ∧ d.2.length ≤ 4194304)
    (hc0 : w.cell? ⟨P, 0, none⟩ = some (.slice a d.1.length ca)) (hc1 : w.cell? ⟨P, 1, none⟩ = some (.slice b d.2.length cb)) (r1 : RdS w a d.1) (r2 : RdF encP 2 w b d.2) :
    Calls Tryd.prog 60 #[.pointer (some ⟨P, 0, none⟩)] w fun e w' => e = .returned (.bool (dkOk d)) ∧ Below w.heap.size w w' := by
  obtain ⟨hl1, hl2⟩ := hl
  have HK : Hid (dkOk d = (decide (d.1.length ≤ 120) && decide (d.2.length ≤ 400) && d.1.all txOk && d.2.all (putOk d.1.length))) := rfl
  by_cases h120 : 120 < d.1.length
  · have HF : Hid (dkOk d = false) := by show _ = _; rw [HK.out]; simp [show ¬ d.1.length ≤ 120 by omega]
    clear r1 r2 HK
    go_enter Tryd.func60, Tryd.ntmps60
    go_wp2
    go_ret
    exact ⟨by rw [HF.out]; rfl, Below.refl _ _⟩
  by_cases h400 : 400 < d.2.length
  · have HF : Hid (dkOk d = false) := by show _ = _; rw [HK.out]; simp [show ¬ d.2.length ≤ 400 by omega]
    clear r1 r2 HK
    go_enter Tryd.func60, Tryd.ntmps60
    go_wp2
    go_ret
    exact ⟨by rw [HF.out]; rfl, Below.refl _ _⟩
  have HK2 : Hid (dkOk d = (d.1.all txOk && d.2.all (putOk d.1.length))) := by
    show _ = _; rw [HK.out]; simp [show d.1.length ≤ 120 by omega, show d.2.length ≤ 400 by omega]
  have HCS : Hid (∀ k (hk : k < d.1.length), ∃ x off, a = some ⟨x, off, none⟩ ∧ x < w.heap.size ∧ w.cell? ⟨x, off + k, none⟩ = some (.string d.1[k])) := fun k hk => r1.cellT k hk
  have HPS : Hid (∀ k (hk : k < d.2.length), ∃ x off, b = some ⟨x, off, none⟩ ∧ x < w.heap.size ∧ w.cell? ⟨x, off + k * 2, none⟩ = some (.int .i64 d.2[k].1) ∧ w.cell? ⟨x, off + k * 2 + 1, none⟩ = some (.string d.2[k].2)) := by
    intro k hk
    obtain ⟨x, off, h1, h2, h3⟩ := r2.at k hk
    exact ⟨x, off, h1, h2, h3 0 (by omega), h3 1 (by omega)⟩
  clear r1 r2 HK
  go_enter Tryd.func60, Tryd.ntmps60
  go_wp2
  go_loopw [26] (fun i wr => ∃ k : Nat, k ≤ d.1.length ∧ i = .int .i64 k ∧ wr = w ∧ Hid (∀ j (hj : j < d.1.length), j < k → txOk d.1[j] = true)) (fun i _ => d.1.length - (intOf i).toNat)
  case atStart => exact ⟨0, Nat.zero_le _, rfl, rfl, fun j hj h => by omega⟩
  case round =>
    obtain ⟨k, hk, rfl, hwr, HA⟩ := hrel
    have hwr' := hwr.symm
    subst hwr'
    by_cases hlt : k < d.1.length
    · obtain ⟨x, off, rfl, hblt, hc⟩ := HCS.out k hlt
      have HB : Hid (txOk d.1[k] = false → d.1.all txOk = false) := all_bad hlt
      have HN : Hid (txOk d.1[k] = true → ∀ j (hj : j < d.1.length), j < k + 1 → txOk d.1[j] = true) := by
        intro h j hj h2
        by_cases e : j = k
        · subst e; exact h
        · exact HA.out j hj (by omega)
      have HT : Hid (txOk d.1[k] = decide (d.1[k].size ≤ 90)) := rfl
      generalize d.1[k] = y at *
      by_cases hsz : y.size ≤ 90
      · have HN' : Hid (∀ j (hj : j < d.1.length), j < k + 1 → txOk d.1[j] = true) := HN.out (by rw [HT.out]; simpa using hsz)
        have hsz' : ¬ (90 : Int) < (y.size : Int) := by omega
        clear HB HN HT
        go_wp2
        go_roundw
        case rel => exact ⟨k + 1, by omega, by go_num, by trivial, HN'⟩
        case measure => simp [intOf]; omega
      · have HF' : Hid (dkOk d = false) := by show _ = _; rw [HK2.out, HB.out (by rw [HT.out]; simpa using hsz)]; rfl
        have hsz' : (90 : Int) < (y.size : Int) := by omega
        clear HB HN HT
        go_wp2
        go_ret
        exact ⟨by rw [HF'.out]; rfl, Below.refl _ _⟩
    · obtain rfl : k = d.1.length := by omega
      have HE : Hid (dkOk d = d.2.all (putOk d.1.length)) := by show _ = _; rw [HK2.out, all_good (f := txOk) fun j hj => HA.out j hj hj]; rfl
      clear HA HK2 HCS
      have HC0 : Hid (∀ W, Below w.heap.size w W → W.cell? ⟨P, 0, none⟩ = some (.slice a d.1.length ca)) := fun W h => (h.cell (World.block_lt_of_cell? _ _ hc0)).trans hc0
      go_wp2
      go_loopw [39] (fun i w2 => ∃ k : Nat, k ≤ d.2.length ∧ i = .int .i64 k ∧ Below w.heap.size w w2 ∧ Hid (∀ j (hj : j < d.2.length), j < k → putOk d.1.length d.2[j] = true)) (fun i _ => d.2.length - (intOf i).toNat)
      case atStart => exact ⟨0, Nat.zero_le _, rfl, Below.refl _ _, fun j hj h => by omega⟩
      case round =>
        obtain ⟨k, hk, rfl, hb2, HA⟩ := hrel
        by_cases hlt2 : k < d.2.length
        · obtain ⟨x, off, rfl, hblt, hd0, hd1⟩ := HPS.out k hlt2
          have he0 : wr.cell? ⟨x, off + k * 2, none⟩ = some (.int .i64 d.2[k].1) := (hb2.cell hblt).trans hd0
          have he1 : wr.cell? ⟨x, off + k * 2 + 1, none⟩ = some (.string d.2[k].2) := (hb2.cell hblt).trans hd1
          have HB : Hid (putOk d.1.length d.2[k] = false → dkOk d = false) := fun h => HE.out.trans (all_bad hlt2 h)
          have HN : Hid (putOk d.1.length d.2[k] = true → ∀ j (hj : j < d.2.length), j < k + 1 → putOk d.1.length d.2[j] = true) := by
            intro h j hj h2
            by_cases e : j = k
            · subst e; exact h
            · exact HA.out j hj (by omega)
          have HP : Hid (putOk d.1.length d.2[k] = ((decide (0 ≤ d.2[k].1) && decide (d.2[k].1 ≤ (d.1.length : Int) - 1)) && decide (d.2[k].2.size ≤ 90))) := rfl
          clear hd0 hd1
          generalize d.2[k] = y at *
          obtain ⟨yn, ys⟩ := y
          simp only at he0 he1 HP
          have hb3 : Below w.heap.size w (wr.alloc (.cells #[.int .i64 yn, .string ys] 39)) := hb2.alloc hb2.size _
          cases hin : (decide (0 ≤ yn) && decide (yn ≤ (d.1.length : Int) - 1)) with
          | false =>
            have HF : Hid (dkOk d = false) := HB.out (by rw [HP.out, hin]; rfl)
            clear HB HN HP HE
            go_wp2_with (go_at_call 100; refine (implHas P a d.1.length ca yn _ (HC0.out _ hb3)).mono ?_; rintro e w1 ⟨rfl, hw1⟩; subst w1; rw [hin])
            go_ret
            exact ⟨by rw [HF.out]; rfl, hb3⟩
          | true =>
            by_cases hsz : ys.size ≤ 90
            · have HN' : Hid (∀ j (hj : j < d.2.length), j < k + 1 → putOk d.1.length d.2[j] = true) := HN.out (by rw [HP.out, hin]; simpa using hsz)
              have hsz' : ¬ (90 : Int) < (ys.size : Int) := by omega
              clear HB HN HP
              go_wp2_with (go_at_call 100; refine (implHas P a d.1.length ca yn _ (HC0.out _ hb3)).mono ?_; rintro e w1 ⟨rfl, hw1⟩; subst w1; rw [hin])
              go_roundw
              case rel => exact ⟨k + 1, by omega, by go_num, hb3, HN'⟩
              case measure => simp [intOf]; omega
            · have HF : Hid (dkOk d = false) := HB.out (by rw [HP.out, hin]; simpa using hsz)
              have hsz' : (90 : Int) < (ys.size : Int) := by omega
              clear HB HN HP HE
              go_wp2_with (go_at_call 100; refine (implHas P a d.1.length ca yn _ (HC0.out _ hb3)).mono ?_; rintro e w1 ⟨rfl, hw1⟩; subst w1; rw [hin])
              go_ret
              exact ⟨by rw [HF.out]; rfl, hb3⟩
        · obtain rfl : k = d.2.length := by omega
          have HT : Hid (dkOk d = true) := HE.out.trans (all_good (f := putOk d.1.length) fun j hj => HA.out j hj hj)
          go_wp2
          go_ret
          exact ⟨by rw [HT.out]; rfl, hb2⟩

end Go.Proofs.YtlidmnehpcodkaaDoor
