/-
  Own text: both Digits functions answer the number's decimal digits, a minus ahead of one below 0; nothing that was there is turned.
-/
import Derived.Test.YtgibihacbhjlnaaDoorRows
import Derived.Test.YtgibihacbhjlnaaDoorStrBase
import Derived.Test.YtgibihacbhjlnaaDoorShelfI
import Derived.Lib.AppendIntMem
import Derived.Lib.SmallJoins
namespace Go.Proofs.YtgibihacbhjlnaaDoor
open Go.RowKit

theorem dec_decDigits (f k : Nat) (h0 : 0 < k) (hk : k < 10 ^ f) : dec f k = Lib.decDigits k := by
  induction f generalizing k with
  | zero => simp at hk; omega
  | succ f ih =>
    rw [dec_succ f k h0, Lib.decDigits]
    by_cases h : k < 10
    · rw [dif_pos h, show k / 10 = 0 by omega, dec_zero, show k % 10 = k by omega]; rfl
    · rw [dif_neg h, ih (k / 10) (by omega) (by rw [Nat.pow_succ] at hk; omega)]

theorem itoa_zero : Lib.itoa 0 = [48] := by rw [Lib.itoa, if_neg (by omega), Lib.decDigits]; rfl
theorem itoa_pos (K : Nat) (h : 0 < K) (hk : K < 10 ^ 20) : Lib.itoa (K : Int) = dec 20 K := by
  rw [Lib.itoa, if_neg (by omega), dec_decDigits 20 K h hk]; rfl
theorem itoa_neg (K : Nat) (h : 0 < K) (hk : K < 10 ^ 20) : Lib.itoa (-(K : Int)) = 45 :: dec 20 K := by
  rw [Lib.itoa, if_pos (by omega), dec_decDigits 20 K h hk]; simp

theorem dstr_cons (d : UInt8) (l : List UInt8) : (⟨#[d]⟩ ++ ⟨l.toArray⟩ : ByteArray) = ⟨(d :: l).toArray⟩ := by
  have := ByteArray.mk_append_mk (x := [d]) (y := l)
  simpa using this

theorem conv1 (wr : World) (x : Int) (d : Nat) (hx : x = 48 + (d : Int)) (hd : d < 10) :
    (convert 22 9 (.slice (some ⟨wr.heap.size, 0, none⟩) 1 1)).run Tryd.prog (wr.alloc (.cells #[.int .u8 x] 5)) = .ok (.string ⟨#[UInt8.ofNat (48 + d)]⟩) (wr.alloc (.cells #[.int .u8 x] 5)) := by
  subst hx
  have h := run_convert_bytes_back (P := Tryd.prog) (wr.alloc (.cells #[.int .u8 (48 + (d : Int))] 5)) 22 9 5 ⟨wr.heap.size, 0, none⟩ 1 [UInt8.ofNat (48 + d)] Tryd.underlying22 Tryd.underlying5 Tryd.underlying9 (by
    intro j hj
    match j, hj with
    | 0, _ =>
      have e : (((UInt8.ofNat (48 + d)).toNat : Nat) : Int) = 48 + (d : Int) := by rw [UInt8.toNat_ofNat']; omega
      simp only [List.getElem_cons_zero]
      rw [e]
      simp [Addr.add])
  exact h

set_option maxRecDepth 20000 in
set_option maxHeartbeats 400000 in
theorem specDigPos (K : Nat) (w : World) (h0 : 0 < K) (hk : K ≤ 9223372036854775807) :
    Calls Tryd.prog 18 #[.int .i64 K] w fun e w' => e = .returned (.string ⟨(Lib.itoa K).toArray⟩) ∧ Below w.heap.size w w' := by
  have HM : Hid (Lib.itoa (K : Int) = dec 20 K) := itoa_pos K h0 (by omega)
  go_enter Tryd.func18, Tryd.ntmps18
  go_wp2
  go_loopw [0, 4] (fun x s wr => ∃ (m : Nat) (l : List UInt8), x = .int .i64 m ∧ m ≤ 9223372036854775807 ∧ Hid (DecPart K m l) ∧ s = .string ⟨l.toArray⟩ ∧ Below w.heap.size w wr) (fun x _ _ => (intOf x).toNat)
  case atStart => exact ⟨K, [], rfl, hk, DecPart.start K (by omega), rfl, Below.refl _ _⟩
  case round =>
    obtain ⟨m, l, rfl, hm, HP, rfl, hbel⟩ := hrel
    have hll := HP.out.len
    by_cases hm0 : 0 < m
    · have hcv' := conv1 wr (48 + (m : Int) % 10) (m % 10) (by omega) (by omega)
      have hbel' : Below w.heap.size w (wr.alloc (.cells #[.int .u8 (48 + (m : Int) % 10)] 5)) := hbel.alloc hbel.size _
      have HP' : Hid (DecPart K (m / 10) (UInt8.ofNat (48 + m % 10) :: l)) := HP.out.step hm0
      generalize UInt8.ofNat (48 + m % 10) = d at *
      go_wp2
      go_roundw
      case rel => exact ⟨m / 10, d :: l, by go_num, by omega, HP', by rw [dstr_cons d l], hbel'⟩
      case measure => simp [intOf]; omega
    · go_wp2
      go_ret
      refine ⟨?_, hbel⟩
      obtain rfl : m = 0 := by omega
      rw [HM.out, ← HP.out.last]
      rfl

set_option maxRecDepth 20000 in
set_option maxHeartbeats 400000 in
theorem specDigNeg (K : Nat) (w : World) (h0 : 0 < K) (hk : K ≤ 9223372036854775808) :
    Calls Tryd.prog 18 #[.int .i64 (-(K : Int))] w fun e w' => e = .returned (.string ⟨(Lib.itoa (-(K : Int))).toArray⟩) ∧ Below w.heap.size w w' := by
  have HM : Hid (Lib.itoa (-(K : Int)) = 45 :: dec 20 K) := itoa_neg K h0 (by omega)
  go_enter Tryd.func18, Tryd.ntmps18
  go_wp2
  go_loopw [0, 4] (fun x s wr => ∃ (m : Nat) (l : List UInt8), x = .int .i64 (-(m : Int)) ∧ m ≤ 9223372036854775808 ∧ Hid (DecPart K m l) ∧ s = .string ⟨l.toArray⟩ ∧ Below w.heap.size w wr) (fun x _ _ => (intOf x).natAbs)
  case atStart => exact ⟨K, [], rfl, hk, DecPart.start K (by omega), rfl, Below.refl _ _⟩
  case round =>
    obtain ⟨m, l, rfl, hm, HP, rfl, hbel⟩ := hrel
    have hll := HP.out.len
    by_cases hm0 : 0 < m
    · have ht : (-(m : Int)).tmod 10 = -((m % 10 : Nat) : Int) := by rw [Int.neg_tmod, Int.tmod_eq_emod_of_nonneg (by omega)]; omega
      have hq : (-(m : Int)).tdiv 10 = -((m / 10 : Nat) : Int) := by rw [Int.neg_tdiv, Int.tdiv_eq_ediv_of_nonneg (by omega)]; omega
      have hr : m % 10 < 10 := by omega
      have HP' : Hid (DecPart K (m / 10) (UInt8.ofNat (48 + m % 10) :: l)) := HP.out.step hm0
      have hcv := fun x hx => conv1 wr x (m % 10) hx hr
      have hdq : m / 10 < m := by omega
      generalize m / 10 = q at *
      generalize UInt8.ofNat (48 + m % 10) = d at *
      generalize m % 10 = r at *
      by_cases hr0 : 0 < r
      · have hcv' := hcv (48 + (r : Int)) rfl
        have hbel' : Below w.heap.size w (wr.alloc (.cells #[.int .u8 (48 + (r : Int))] 5)) := hbel.alloc hbel.size _
        clear hcv
        go_wp2
        go_roundw
        case rel => exact ⟨q, d :: l, by go_num, by omega, HP', by rw [dstr_cons d l], hbel'⟩
        case measure => simp [intOf]; omega
      · obtain rfl : r = 0 := by omega
        have hcv' := hcv 48 rfl
        have hbel' : Below w.heap.size w (wr.alloc (.cells #[.int .u8 48] 5)) := hbel.alloc hbel.size _
        clear hcv
        simp at ht
        go_wp2
        go_roundw
        case rel => exact ⟨q, d :: l, by go_num, by omega, HP', by rw [dstr_cons d l], hbel'⟩
        case measure => simp [intOf]; omega
    · go_wp2
      go_ret
      refine ⟨?_, hbel⟩
      obtain rfl : m = 0 := by omega
      rw [HM.out, ← HP.out.last, dstr_cons 45 l]
      rfl

theorem specDigits (n : Int) (w : World) (h1 : -9223372036854775808 ≤ n) (h2 : n ≤ 9223372036854775807) :
    Calls Tryd.prog 18 #[.int .i64 n] w fun e w' => e = .returned (.string ⟨(Lib.itoa n).toArray⟩) ∧ Below w.heap.size w w' := by
  rcases Int.lt_trichotomy n 0 with h | h | h
  · obtain ⟨K, rfl⟩ : ∃ K : Nat, n = -(K : Int) := ⟨n.natAbs, by omega⟩
    exact specDigNeg K w (by omega) (by omega)
  · subst h
    rw [itoa_zero]
    go_enter Tryd.func18, Tryd.ntmps18
    go_wp2
    go_ret
    exact ⟨rfl, Below.refl _ _⟩
  · obtain ⟨K, rfl⟩ : ∃ K : Nat, n = (K : Int) := ⟨n.toNat, by omega⟩
    exact specDigPos K w (by omega) (by omega)

theorem implDigits (n : Int) (w : World) (h1 : -9223372036854775808 ≤ n) (h2 : n ≤ 9223372036854775807) (htab : Lib.TabIs Tryd.prog w "internal/strconv.uint64pow10" .u64 Lib.pow10Tab) :
    Calls Tryd.prog 19 #[.int .i64 n] w fun e w' => e = .returned (.string ⟨(Lib.itoa n).toArray⟩) ∧ Below w.heap.size w w' := by
  have HT : Hid (Lib.TabIs Tryd.prog w "internal/strconv.uint64pow10" .u64 Lib.pow10Tab) := htab
  clear htab
  go_enter Tryd.func19, Tryd.ntmps19
  go_wp2_with fail
  refine (Tryd.strconv_Itoa n h1 h2 _ HT.out).mono ?_
  rintro e w1 ⟨rfl, k, os, rfl⟩
  go_wp2
  go_ret
  exact ⟨rfl, Lib.below_grow _ _ (Nat.le_refl _) _ _⟩
end Go.Proofs.YtgibihacbhjlnaaDoor
