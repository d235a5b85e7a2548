/-
  Own text: the two Crc functions return the check sum 'crcTo', and turn nothing.
-/
import Derived.Test.YtlidmnehpcodkaaRows
import Derived.Test.YtlidmnehpcodkaaBase
namespace Go.Proofs.Ytlidmnehpcodkaa
open Go.RowKit

theorem odd_div (x : Nat) (h : (x : Int) % 2 = 1) : cstep x = (x / 2) ^^^ 3988292384 := by unfold cstep; rw [if_pos (by omega)]
theorem even_div (x : Nat) (h : ¬ (x : Int) % 2 = 1) : cstep x = x / 2 := by unfold cstep; rw [if_neg (by omega)]

theorem i64_half (x : Nat) (h : x < 4294967296) : bits .xor .i64 ((x : Int) / 2) 3988292384 = (((x / 2) ^^^ 3988292384 : Nat) : Int) := by
  have := i64_xor_nat (x / 2) 3988292384 (by omega) (by omega); simpa using this
theorem i64_last (x : Nat) (h : x < 4294967296) : bits .xor .i64 (x : Int) 4294967295 = ((x ^^^ 4294967295 : Nat) : Int) := by
  have := i64_xor_nat x 4294967295 (by omega) (by omega); simpa using this

set_option maxHeartbeats 400000 in
theorem specCrc (a : Option Addr) (cap : Nat) (l : List Int) (w : World) (hl : l.length ≤ 1048576) (hu : U8 l) (hr : Rd .u8 w a l) :
    Calls Try.prog 71 #[.slice a l.length cap] w fun e w' => e = .returned (.int .i64 ((crcTo l l.length ^^^ 4294967295 : Nat) : Int)) ∧ w' = w := by
  have HCS : Hid (∀ k, k < l.length → ∃ b off, a = some ⟨b, off, none⟩ ∧ w.cell? ⟨b, off + k, none⟩ = some (.int .u8 (l.getD k 0))) := by
    intro k hk
    rcases hr with rfl | ⟨b, off, rfl, hlt, hc⟩
    · simp at hk
    · exact ⟨b, off, rfl, hc k hk⟩
  clear hr
  go_enter Try.func71, Try.ntmps71
  go_wp2
  go_loop [3, 4] (fun x i => ∃ k : Nat, k ≤ l.length ∧ i = .int .i64 k ∧ x = .int .i64 (crcTo l k : Nat)) (fun _ i => l.length - (intOf i).toNat)
  case atStart => exact ⟨0, Nat.zero_le _, rfl, rfl⟩
  case round =>
    obtain ⟨k, hk, rfl, rfl⟩ := hrel
    have hcr := crcTo_lt hu k
    by_cases hlt : k < l.length
    · obtain ⟨b, off, rfl, hcell⟩ := HCS.out k hlt
      have hb := hu.at k
      have HS : Hid (crcTo l (k + 1) = csteps 8 (crcTo l k ^^^ (l.getD k 0).toNat)) := rfl
      generalize l.getD k 0 = c at *
      obtain ⟨hb0, hb1⟩ := hb
      have hx0 : bits .xor .i64 (crcTo l k : Int) c = ((crcTo l k ^^^ c.toNat : Nat) : Int) := by simpa using i64_xor (crcTo l k) c (by omega) (by omega) hb0 (by omega)
      have hX := xor_lt hcr (show c.toNat < 4294967296 by omega)
      go_wp2
      clear hx0
      generalize crcTo l k ^^^ c.toNat = X at *
      go_loop [3, 5] (fun x j => ∃ m : Nat, m ≤ 8 ∧ j = .int .i64 m ∧ x = .int .i64 (csteps m X : Nat)) (fun _ j => 8 - (intOf j).toNat)
      case atStart => exact ⟨0, Nat.zero_le _, rfl, rfl⟩
      case round =>
        obtain ⟨m, hm, rfl, rfl⟩ := hrel
        have hcs := csteps_lt hX m
        by_cases hm8 : m < 8
        · have HT : Hid (csteps (m + 1) X = cstep (csteps m X)) := rfl
          generalize csteps m X = y at *
          have hh := i64_half y hcs
          by_cases ho : (y : Int) % 2 = 1
          · have ho' : ((y : Int) % 2 == 1) = true := by simpa using ho
            go_wp2
            go_round
            case rel => exact ⟨m + 1, by omega, by go_num, by rw [HT.out, odd_div y ho]⟩
            case measure => simp [intOf]; omega
          · have ho' : ((y : Int) % 2 == 1) = false := by simpa using ho
            go_wp2
            go_round
            case rel => exact ⟨m + 1, by omega, by go_num, by rw [HT.out, even_div y ho]; simp⟩
            case measure => simp [intOf]; omega
        · obtain rfl : m = 8 := by omega
          go_wp2
          go_round
          case rel => exact ⟨k + 1, by omega, by go_num, by rw [HS.out]⟩
          case measure => simp [intOf]; omega
    · obtain rfl : k = l.length := by omega
      have hx := i64_last _ hcr
      go_wp2
      go_ret
      exact ⟨rfl, rfl⟩

set_option maxHeartbeats 400000 in
theorem implCrc (a : Option Addr) (cap : Nat) (l : List Int) (w : World) (hl : l.length ≤ 1048576) (hu : U8 l) (hr : Rd .u8 w a l) :
    Calls Try.prog 73 #[.slice a l.length cap] w fun e w' => e = .returned (.int .i64 ((crcTo l l.length ^^^ 4294967295 : Nat) : Int)) ∧ w' = w := by
  have HCS : Hid (∀ k, k < l.length → ∃ b off, a = some ⟨b, off, none⟩ ∧ w.cell? ⟨b, off + k, none⟩ = some (.int .u8 (l.getD k 0))) := by
    intro k hk
    rcases hr with rfl | ⟨b, off, rfl, hlt, hc⟩
    · simp at hk
    · exact ⟨b, off, rfl, hc k hk⟩
  clear hr
  go_enter Try.func73, Try.ntmps73
  go_wp2
  go_loop [3, 9] (fun x i => ∃ k : Nat, k ≤ l.length ∧ i = .int .i64 k ∧ x = .int .u32 (crcTo l k : Nat)) (fun _ i => l.length - (intOf i).toNat)
  case atStart => exact ⟨0, Nat.zero_le _, rfl, rfl⟩
  case round =>
    obtain ⟨k, hk, rfl, rfl⟩ := hrel
    have hcr := crcTo_lt hu k
    by_cases hlt : k < l.length
    · obtain ⟨b, off, rfl, hcell⟩ := HCS.out k hlt
      have hb := hu.at k
      have HS : Hid (crcTo l (k + 1) = csteps 8 (crcTo l k ^^^ (l.getD k 0).toNat)) := rfl
      generalize l.getD k 0 = c at *
      obtain ⟨hb0, hb1⟩ := hb
      have hx0 : bits .xor .u32 (crcTo l k : Int) c = ((crcTo l k ^^^ c.toNat : Nat) : Int) := by simpa using u32_xor (crcTo l k) c (by omega) (by omega) hb0 (by omega)
      have hX := xor_lt hcr (show c.toNat < 4294967296 by omega)
      go_wp2
      clear hx0
      generalize crcTo l k ^^^ c.toNat = X at *
      go_loop [3, 17] (fun x j => ∃ m : Nat, m ≤ 8 ∧ j = .int .i64 m ∧ x = .int .u32 (csteps m X : Nat)) (fun _ j => 8 - (intOf j).toNat)
      case atStart => exact ⟨0, Nat.zero_le _, rfl, rfl⟩
      case round =>
        obtain ⟨m, hm, rfl, rfl⟩ := hrel
        have hcs := csteps_lt hX m
        by_cases hm8 : m < 8
        · have HT : Hid (csteps (m + 1) X = cstep (csteps m X)) := rfl
          generalize csteps m X = y at *
          have hh : bits .xor .u32 ((y : Int) / 2) 3988292384 = (((y / 2) ^^^ 3988292384 : Nat) : Int) := by
            have := u32_xor_nat (y / 2) 3988292384 (by omega) (by omega); simpa using this
          by_cases ho : (y : Int) % 2 = 1
          · have ho' : ((y : Int) % 2 == 1) = true := by simpa using ho
            go_wp2
            go_round
            case rel => exact ⟨m + 1, by omega, by go_num, by rw [HT.out, odd_div y ho]⟩
            case measure => simp [intOf]; omega
          · have ho' : ((y : Int) % 2 == 1) = false := by simpa using ho
            go_wp2
            go_round
            case rel => exact ⟨m + 1, by omega, by go_num, by rw [HT.out, even_div y ho]; simp⟩
            case measure => simp [intOf]; omega
        · obtain rfl : m = 8 := by omega
          go_wp2
          go_round
          case rel => exact ⟨k + 1, by omega, by go_num, by rw [HS.out]⟩
          case measure => simp [intOf]; omega
    · obtain rfl : k = l.length := by omega
      have hx : bits .xor .u32 (crcTo l l.length : Int) 4294967295 = ((crcTo l l.length ^^^ 4294967295 : Nat) : Int) := by
        have := u32_xor_nat (crcTo l l.length) 4294967295 (by omega) (by omega); simpa using this
      have hy := xor_lt hcr (show 4294967295 < 4294967296 by omega)
      go_wp2
      go_ret
      exact ⟨rfl, rfl⟩
end Go.Proofs.Ytlidmnehpcodkaa
