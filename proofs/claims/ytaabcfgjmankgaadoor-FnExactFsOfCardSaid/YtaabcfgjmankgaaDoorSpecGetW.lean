/-
  Own text: the specification's GetNum answers as 'Good' says.
-/
import Derived.Test.YtaabcfgjmankgaaDoorRows
import Derived.Test.YtaabcfgjmankgaaDoorGetBase
namespace Go.Proofs.YtaabcfgjmankgaaDoor
open Go.RowKit

theorem i64_or_nat (a b : Nat) (ha : a < 4611686018427387904) (hb : b < 4611686018427387904) : bits .or .i64 (a : Int) (b : Int) = ((a ||| b : Nat) : Int) := by
  have hx : a ||| b < 2 ^ 62 := Nat.or_lt_two_pow (by omega) (by omega)
  have h1 : (BitVec.ofInt 64 (a : Int)).toNat = a := by rw [BitVec.ofInt_natCast, BitVec.toNat_ofNat]; omega
  have h2 : (BitVec.ofInt 64 (b : Int)).toNat = b := by rw [BitVec.ofInt_natCast, BitVec.toNat_ofNat]; omega
  have h3 : bits .or .i64 (a : Int) (b : Int) = IntKind.wrap .i64 ((BitVec.ofInt 64 (a : Int) ||| BitVec.ofInt 64 (b : Int)).toNat : Int) := by rfl
  rw [h3, BitVec.toNat_or, h1, h2, IntKind.wrap_i64]
  omega
theorem or_add (n d k : Nat) (hn : n < 128 ^ k) : n ||| d * 128 ^ k = n + d * 128 ^ k := by
  have e : (128 : Nat) ^ k = 2 ^ (7 * k) := by rw [Nat.pow_mul]
  rw [e] at hn ⊢
  have := Nat.two_pow_add_eq_or_of_lt hn d
  rw [Nat.or_comm, Nat.mul_comm, ← this]; omega

theorem valTo_lt5 (l : List Int) (p k : Nat) (hk : k ≤ 5) : valTo l p k < 34359738368 := by
  have h := valTo_lt l p k
  have h2 : 128 ^ k ≤ 128 ^ 5 := Nat.pow_le_pow_right (by omega) hk
  have h3 : (128 : Nat) ^ 5 = 34359738368 := by decide
  omega
theorem or_val (l : List Int) (p k : Nat) (hk : k < 5) (hu : 0 ≤ l.getD (p + k) 0 ∧ l.getD (p + k) 0 < 256) :
    bits .or .i64 (valTo l p k : Int) (wrap64 (l.getD (p + k) 0 % 128 * 2 ^ (7 * k))) = (valTo l p (k + 1) : Int) := by
  have hv := valTo_lt l p k
  have hv5 := valTo_lt5 l p k (by omega)
  have hs := valTo_lt5 l p (k + 1) (by omega)
  obtain ⟨D, hD⟩ : ∃ D : Nat, l.getD (p + k) 0 = (D : Int) := ⟨(l.getD (p + k) 0).toNat, by omega⟩
  have e1 : l.getD (p + k) 0 % 128 * 2 ^ (7 * k) = ((D % 128 * 128 ^ k : Nat) : Int) := by
    rw [hD, Int.pow_mul]
    simp
  have hstep : valTo l p (k + 1) = valTo l p k + D % 128 * 128 ^ k := by rw [valTo, hD]; simp
  have hle : D % 128 * 128 ^ k < 34359738368 := by omega
  rw [e1, IntWalk.wrap64_in _ ⟨by omega, by omega⟩, i64_or_nat _ _ (by omega) (by omega), or_add _ _ _ hv, hstep]

set_option maxRecDepth 20000 in
set_option maxHeartbeats 800000 in
theorem specGetNum (x : Option Addr) (cap : Nat) (l : List Int) (at' : Int) (w : World) (hl : l.length ≤ 1048581) (hu : U8 l) (hr : Rd .u8 w x l) (ha : at' ≤ 9223372036854775807) :
    Calls Tryd.prog 27 #[.slice x l.length cap, .int .i64 at'] w fun e w' => ((∃ n next, Good l at' n next ∧ e = .returned (.tuple #[.int .i64 (n : Nat), .int .i64 (next : Nat), .bool true])) ∨ ((∀ n next, ¬ Good l at' n next) ∧ e = .returned (.tuple #[.int .i64 0, .int .i64 0, .bool false]))) ∧ w' = w := by
  have HR : Hid (Rd .u8 w x l) := hr
  have HU : Hid (U8 l) := hu
  clear hr hu
  by_cases hneg : at' < 0
  · have HN : Hid (∀ n next, ¬ Good l at' n next) := by
      rintro n next ⟨p, k, rfl, _⟩
      omega
    go_enter Tryd.func27, Tryd.ntmps27
    go_wp2
    go_loop [7, 8] (fun n i => n = .int .i64 0 ∧ i = .int .i64 0) (fun _ _ => 0)
    case atStart => exact ⟨rfl, rfl⟩
    case round =>
      obtain ⟨rfl, rfl⟩ := hrel
      go_wp2
      go_ret3
      exact ⟨.inr ⟨HN.out, rfl⟩, rfl⟩
  · obtain ⟨p, rfl⟩ : ∃ p : Nat, at' = (p : Int) := ⟨at'.toNat, by omega⟩
    go_enter Tryd.func27, Tryd.ntmps27
    go_wp2
    go_loop [7, 8] (fun n i => ∃ k : Nat, k ≤ 5 ∧ i = .int .i64 k ∧ n = .int .i64 (valTo l p k : Nat) ∧ Hid (∀ j, j < k → p + j < l.length ∧ 128 ≤ l.getD (p + j) 0)) (fun _ i => 5 - (intOf i).toNat)
    case atStart => exact ⟨0, Nat.zero_le _, rfl, rfl, fun j hj => by omega⟩
    case round =>
      obtain ⟨k, hk, rfl, rfl, HA⟩ := hrel
      by_cases hk5 : k < 5
      · by_cases hin : p + k < l.length
        · obtain ⟨b, off, rfl, hb, hc⟩ : ∃ b off, x = some ⟨b, off, none⟩ ∧ b < w.heap.size ∧ ∀ i, i < l.length → w.cell? ⟨b, off + i, none⟩ = some (.int .u8 (l.getD i 0)) := by
            rcases HR.out with h | h
            · subst h; simp at hin
            · exact h
          have hcell := hc (p + k) hin
          clear hc
          have hub := HU.out.at (p + k)
          have hor : bits .or .i64 (valTo l p k : Int) (wrap64 (l.getD (p + k) 0 % 128 * 2 ^ (7 * k))) = (valTo l p (k + 1) : Int) := or_val l p k hk5 hub
          have hvl := valTo_lt5 l p (k + 1) (by omega)
          have HYES : Hid (l.getD (p + k) 0 < 128 → (k = 0 ∨ l.getD (p + k) 0 ≠ 0) → valTo l p (k + 1) ≤ 2147483647 → Good l p (valTo l p (k + 1)) (p + k + 1)) :=
            fun h1 h2 h3 => ⟨p, k, rfl, ⟨hk5, hin, h1, fun j hj => (HA.out j hj).2⟩, h2, rfl, h3, rfl⟩
          have HNO : Hid (l.getD (p + k) 0 < 128 → ¬ ((k = 0 ∨ l.getD (p + k) 0 ≠ 0) ∧ valTo l p (k + 1) ≤ 2147483647) → ∀ n next, ¬ Good l p n next) := by
            rintro h1 h2 n next ⟨p', k', hp', hs, h3, rfl, h4, rfl⟩
            obtain rfl : p = p' := by omega
            obtain rfl : k = k' := Stop.unique (p := p) ⟨hk5, hin, h1, fun j hj => (HA.out j hj).2⟩ hs
            exact h2 ⟨h3, h4⟩
          have HGO : Hid (128 ≤ l.getD (p + k) 0 → ∀ j, j < k + 1 → p + j < l.length ∧ 128 ≤ l.getD (p + j) 0) := by
            intro h j hj
            rcases Nat.lt_succ_iff_lt_or_eq.1 hj with h' | h'
            · exact HA.out j h'
            · subst h'; exact ⟨hin, h⟩
          clear HA
          have HV : Hid (∀ v, v = valTo l p (k + 1) → Value.int .i64 (v : Int) = .int .i64 (valTo l p (k + 1) : Int)) := by rintro v rfl; rfl
          generalize hV : valTo l p (k + 1) = V at *
          have HVV : Hid (valTo l p (k + 1) = V) := hV
          clear hV HV
          generalize l.getD (p + k) 0 = d at *
          by_cases hlow : d < 128
          · by_cases hz : 0 < k ∧ d = 0
            · obtain ⟨hz1, rfl⟩ := hz
              have hno := HNO.out (by omega) (by rintro ⟨h1 | h1, _⟩; omega; exact h1 rfl)
              have HN : Hid (∀ n next, ¬ Good l p n next) := hno
              clear hno HNO HYES HGO
              go_wp2
              go_ret3
              exact ⟨.inr ⟨HN.out, rfl⟩, rfl⟩
            · by_cases hbig : 2147483647 < V
              · have hno := HNO.out hlow (by rintro ⟨_, h1⟩; omega)
                have HN : Hid (∀ n next, ¬ Good l p n next) := hno
                clear hno HNO HYES HGO
                have hbig' : (2147483647 : Int) < (V : Int) := by omega
                go_wp2
                all_goals go_ret3
                all_goals exact ⟨.inr ⟨HN.out, rfl⟩, rfl⟩
              · have hyes := HYES.out hlow (by omega) (by omega)
                have HY : Hid (Good l p V (p + k + 1)) := hyes
                clear hyes HNO HYES HGO
                have hbig' : (V : Int) ≤ 2147483647 := by omega
                rcases Nat.eq_zero_or_pos k with h0 | h0
                · have hk0 : ¬ (0 : Int) < (k : Int) := by omega
                  clear h0
                  go_wp2
                  go_ret3
                  exact ⟨.inl ⟨V, p + k + 1, HY.out, by go_num⟩, rfl⟩
                · have hk0 : (0 : Int) < (k : Int) := by omega
                  have hd0 : (d == 0) = false := by simp; omega
                  go_wp2
                  go_ret3
                  exact ⟨.inl ⟨V, p + k + 1, HY.out, by go_num⟩, rfl⟩
          · have hgo := HGO.out (by omega)
            have HG2 : Hid (∀ j, j < k + 1 → p + j < l.length ∧ 128 ≤ l.getD (p + j) 0) := hgo
            clear hgo HNO HYES HGO
            go_wp2
            go_round
            case rel => exact ⟨k + 1, by omega, by go_num, by rw [HVV.out], HG2.out⟩
            case measure => simp [intOf]; omega
        · have HN : Hid (∀ n next, ¬ Good l p n next) := by
            rintro n next ⟨p', k', hp', ⟨h1, h2, h3, h4⟩, _⟩
            obtain rfl : p = p' := by omega
            rcases Nat.lt_or_ge k' k with h | h
            · have := (HA.out k' h).2; omega
            · omega
          go_wp2
          go_ret3
          exact ⟨.inr ⟨HN.out, rfl⟩, rfl⟩
      · have HN : Hid (∀ n next, ¬ Good l p n next) := by
          rintro n next ⟨p', k', hp', ⟨h1, h2, h3, h4⟩, _⟩
          obtain rfl : p = p' := by omega
          have := (HA.out k' (by omega)).2
          omega
        go_wp2
        go_ret3
        exact ⟨.inr ⟨HN.out, rfl⟩, rfl⟩
end Go.Proofs.YtaabcfgjmankgaaDoor
