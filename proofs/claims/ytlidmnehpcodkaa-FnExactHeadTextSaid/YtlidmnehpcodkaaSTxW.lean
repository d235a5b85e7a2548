/-
  Own text: which lists can be committed, as the other program tells it.
-/
import Derived.Test.YtlidmnehpcodkaaSDiskW
import Derived.Test.YtlidmnehpcodkaaJMath
import Derived.BigQuiet
namespace Go.Proofs.Ytlidmnehpcodkaa
open Go.RowKit

theorem tx_desc {n : Int} {l : List PutD} {k : Nat} (hk : k + 1 < l.length) (h : l[k + 1].1 ≤ (l[k]'(Nat.lt_of_succ_lt hk)).1) : jtx n l = false :=
  jtx_no fun ht => by have := ht.2.2.2.2 k hk; omega

set_option maxRecDepth 20000 in
set_option maxHeartbeats 1000000 in
theorem specTxOk (a : Option Addr) (cap : Nat) (l : List PutD) (n : Int) (w : World) (hl : l.length ≤ 4194304) (hr : RdF encP 2 w a l) :
    Calls Try.prog 9 #[.int .i64 n, .slice a l.length cap] w fun e w' => e = .returned (.bool (jtx n l)) ∧ Below w.heap.size w w' := by
  have HIN : Hid (∀ Q, (decide (1 ≤ n) && decide (n ≤ 48)) = Q → ∀ W, Calls Try.prog 36 #[.int .i64 n, .int .i64 1, .int .i64 48] W fun e w' => e = .returned (.bool Q) ∧ w' = W) := by
    rintro Q rfl W
    exact inW n 1 48 W
  cases hin : (decide (1 ≤ n) && decide (n ≤ 48)) with
  | false =>
    have HF : Hid (jtx n l = false) := jtx_no fun h => by simp at hin; have h1 := h.1; have h2 := h.2.1; omega
    have HI := HIN.out false hin w
    have HI2 : Hid (Calls Try.prog 36 #[.int .i64 n, .int .i64 1, .int .i64 48] w fun e w' => e = .returned (.bool false) ∧ w' = w) := HI
    clear HI HIN hr hin
    go_enter Try.func9, Try.ntmps9
    go_wp2_with (go_at_call 36; refine HI2.out.mono ?_; rintro e w1 ⟨rfl, hw1⟩; subst w1)
    go_ret
    exact ⟨by rw [HF.out]; rfl, Below.refl _ _⟩
  | true =>
    obtain ⟨N, rfl⟩ : ∃ N : Nat, n = (N : Int) := ⟨n.toNat, by simp at hin; omega⟩
    have hN1 : 1 ≤ N := by simp at hin; omega
    have hN2 : N ≤ 48 := by simp at hin; omega
    have HI := HIN.out true hin w
    have HI2 : Hid (Calls Try.prog 36 #[.int .i64 (N : Int), .int .i64 1, .int .i64 48] w fun e w' => e = .returned (.bool true) ∧ w' = w) := HI
    clear HI HIN hin
    by_cases h0 : l = []
    · subst h0
      have HF : Hid (jtx (N : Int) [] = false) := jtx_no fun h => h.2.2.1 rfl
      clear hr
      go_enter Try.func9, Try.ntmps9
      go_wp2_with (go_at_call 36; refine HI2.out.mono ?_; rintro e w1 ⟨rfl, hw1⟩; subst w1)
      go_ret
      exact ⟨by rw [HF.out]; rfl, Below.refl _ _⟩
    · have hpos : 0 < l.length := List.length_pos_iff.2 h0
      have hne : ¬ ((l.length : Nat) : Int) = 0 := by omega
      have hne2 : ¬ l.length = 0 := by omega
      have hne3 : (((l.length : Nat) : Int) == 0) = false := by simpa using hne2
      have HP : Hid (∀ Q, l.all (putOk N) = Q → Calls Try.prog 37 #[.slice a l.length cap, .int .i64 (N : Int)] w fun e w' => e = .returned (.bool Q) ∧ w' = w) := by
        rintro Q rfl
        exact putsOkW a cap l N w hl (by omega) hr
      have HCS : Hid (∀ k (hk : k < l.length), ∃ b off, a = some ⟨b, off, none⟩ ∧ b < w.heap.size ∧ w.cell? ⟨b, off + k * 2, none⟩ = some (.int .i64 l[k].1)) := by
        intro k hk
        obtain ⟨b, off, h1, h2, h3⟩ := hr.at k hk
        exact ⟨b, off, h1, h2, h3 0 (by omega)⟩
      have HNE : Hid (l ≠ []) := h0
      clear hr h0
      cases hp : l.all (putOk N) with
      | false =>
        have HF : Hid (jtx (N : Int) l = false) := jtx_no fun h => by have := h.2.2.2.1; rw [show (N : Int).toNat = N by omega, hp] at this; cases this
        have HQ := HP.out false hp
        have HP2 : Hid (Calls Try.prog 37 #[.slice a l.length cap, .int .i64 (N : Int)] w fun e w' => e = .returned (.bool false) ∧ w' = w) := HQ
        clear HQ HP hp
        go_enter Try.func9, Try.ntmps9
        go_wp2_with (first
          | (go_at_call 36; refine HI2.out.mono ?_; rintro e w1 ⟨rfl, hw1⟩; subst w1)
          | (go_at_call 37; refine HP2.out.mono ?_; rintro e w1 ⟨rfl, hw1⟩; subst w1))
        go_ret
        exact ⟨by rw [HF.out]; rfl, Below.refl _ _⟩
      | true =>
        have HY : Hid ((∀ i (h : i + 1 < l.length), (l[i]'(Nat.lt_of_succ_lt h)).1 < l[i + 1].1) → jtx (N : Int) l = true) := fun h => jtx_yes ⟨by omega, by omega, HNE.out, by rw [show (N : Int).toNat = N by omega, hp], h⟩
        have HQ := HP.out true hp
        have HP2 : Hid (Calls Try.prog 37 #[.slice a l.length cap, .int .i64 (N : Int)] w fun e w' => e = .returned (.bool true) ∧ w' = w) := HQ
        clear HQ HP hp
        go_enter Try.func9, Try.ntmps9
        go_wp2_with (first
          | (go_at_call 36; refine HI2.out.mono ?_; rintro e w1 ⟨rfl, hw1⟩; subst w1)
          | (go_at_call 37; refine HP2.out.mono ?_; rintro e w1 ⟨rfl, hw1⟩; subst w1))
        go_loopw [5] (fun i wr => ∃ k : Nat, 1 ≤ k ∧ k ≤ l.length ∧ i = .int .i64 k ∧ Hid (∀ i (h : i + 1 < l.length), i + 1 < k → (l[i]'(Nat.lt_of_succ_lt h)).1 < l[i + 1].1) ∧ Below w.heap.size w wr) (fun i _ => l.length - (intOf i).toNat)
        case atStart => exact ⟨1, Nat.le_refl _, hpos, rfl, fun i _ h => by omega, Below.refl _ _⟩
        case round =>
          obtain ⟨k, hk1, hk, rfl, HA, hb⟩ := hrel
          by_cases hlt : k < l.length
          · obtain ⟨m, rfl⟩ : ∃ m, k = m + 1 := ⟨k - 1, by omega⟩
            obtain ⟨b, off, rfl, hblt, hc1⟩ := HCS.out (m + 1) hlt
            obtain ⟨b', off', he, _, hc0⟩ := HCS.out m (by omega)
            cases he
            have hd1 : wr.cell? ⟨b, off + (m + 1) * 2, none⟩ = some (.int .i64 l[m + 1].1) := (hb.cell hblt).trans hc1
            have hd0 : wr.cell? ⟨b, off + m * 2, none⟩ = some (.int .i64 (l[m]'(by omega)).1) := (hb.cell hblt).trans hc0
            have HNX : Hid ((l[m]'(by omega)).1 < l[m + 1].1 → ∀ i (h : i + 1 < l.length), i + 1 < m + 1 + 1 → (l[i]'(Nat.lt_of_succ_lt h)).1 < l[i + 1].1) := by
              intro h i hi h2
              by_cases e : i = m
              · subst e; exact h
              · exact HA.out i hi (by omega)
            have HBD : Hid (l[m + 1].1 ≤ (l[m]'(by omega)).1 → jtx (N : Int) l = false) := tx_desc hlt
            clear hc1 hc0 HA
            generalize (l[m]'(by omega)).1 = y0 at *
            generalize l[m + 1].1 = y1 at *
            have hm1 : ((m + 1 : Nat) : Int) - 1 = (m : Int) := by omega
            have hi0 : (0 : Int) ≤ (m : Int) := by omega
            have hi1 : (m : Int) < (l.length : Int) := by omega
            have hi2 : ((m + 1 : Nat) : Int) < (l.length : Int) := by omega
            by_cases hy : y1 ≤ y0
            · have HF : Hid (jtx (N : Int) l = false) := HBD.out hy
              go_wp2
              go_quiet (fail)
              go_wp2
              go_ret
              exact ⟨by rw [HF.out]; rfl, hb.trans ⟨rfl, rfl, rfl, Nat.le_refl _, fun _ _ => rfl⟩⟩
            · have HN' := HNX.out (by omega)
              have HN2 : Hid (∀ i (h : i + 1 < l.length), i + 1 < m + 1 + 1 → (l[i]'(Nat.lt_of_succ_lt h)).1 < l[i + 1].1) := HN'
              clear HN' HNX HBD
              go_wp2
              go_quiet (fail)
              go_wp2
              go_roundw
              case rel => exact ⟨m + 1 + 1, by omega, by omega, by go_num, HN2, hb.trans ⟨rfl, rfl, rfl, Nat.le_refl _, fun _ _ => rfl⟩⟩
              case measure => simp [intOf]; omega
          · obtain rfl : k = l.length := by omega
            have HT : Hid (jtx (N : Int) l = true) := HY.out (fun i hi => HA.out i hi hi)
            go_wp2
            go_ret
            exact ⟨by rw [HT.out]; rfl, hb⟩
end Go.Proofs.Ytlidmnehpcodkaa
