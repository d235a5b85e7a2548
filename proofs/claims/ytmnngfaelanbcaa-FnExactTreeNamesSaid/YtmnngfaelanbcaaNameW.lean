/-
  Own text: whether a text is a name: the program's way, rune by rune, and the other one, byte by byte.
-/
import Derived.Test.YtmnngfaelanbcaaBtB
import Derived.Test.YtmnngfaelanbcaaInW
import Derived.Laws.RangeAny
namespace Go.Proofs.Ytmnngfaelanbcaa
open Go.RowKit

/-- A number of a name's byte. -/
def nr (r : Int) : Bool := (decide (97 ≤ r) && decide (r ≤ 122)) || (decide (48 ≤ r) && decide (r ≤ 57))
theorem nr_nb (b : UInt8) : nr (b.toNat : Int) = nb b := by
  unfold nr nb
  simp only [Int.ofNat_le, show (97 : Int) = ((97 : Nat) : Int) from rfl, show (122 : Int) = ((122 : Nat) : Int) from rfl, show (48 : Int) = ((48 : Nat) : Int) from rfl, show (57 : Int) = ((57 : Nat) : Int) from rfl]
theorem nr_high {r : Int} (h : 128 ≤ r) : nr r = false := by
  unfold nr
  simp
  omega

theorem runeW (r : Int) (w : World) :
    Calls Try.prog 61 #[.int .i32 r] w fun e w' => e = .returned (.bool (nr r)) ∧ w' = w := by
  have HR : Hid (nr r = ((decide (97 ≤ r) && decide (r ≤ 122)) || (decide (48 ≤ r) && decide (r ≤ 57)))) := rfl
  by_cases h1 : 97 ≤ r <;> by_cases h2 : r ≤ 122 <;> by_cases h3 : 48 ≤ r <;> by_cases h4 : r ≤ 57
  all_goals first
    | (exfalso; omega)
    | (go_enter Try.func61, Try.ntmps61
       go_wp2
       go_ret
       exact ⟨by rw [HR.out]; simp [h1, h2, h3, h4], rfl⟩)

theorem below_iter {w : World} (s : ByteArray) (k : Nat) : Below w.heap.size w (w.iter s k) := (Below.refl _ _).alloc (Nat.le_refl _) _

theorem all_take {s : ByteArray} {k : Nat} (hk : k < s.size) (h : ((bt s).take k).all nb = true) (hb : nb s[k] = true) : ((bt s).take (k + 1)).all nb = true := by
  rw [List.take_succ_eq_append_getElem (by rw [bt_len]; exact hk), bt_get s k hk, List.all_append, h]
  simp [hb]
theorem all_not {s : ByteArray} {k : Nat} (hk : k < s.size) (hb : nb s[k] = false) : nmOk (bt s) = false := by
  unfold nmOk
  have : (bt s).all nb = false := by
    rw [List.all_eq_false]
    exact ⟨s[k], by rw [← bt_get s k hk]; exact List.getElem_mem _, by simp [hb]⟩
  rw [this]; simp
theorem all_end {s : ByteArray} (h : ((bt s).take s.size).all nb = true) : nmOk (bt s) = (decide (1 ≤ s.size) && decide (s.size ≤ 6)) := by
  rw [List.take_of_length_le (by rw [bt_len]; exact Nat.le_refl _)] at h
  unfold nmOk
  rw [h, bt_len]; simp

set_option maxRecDepth 20000 in
set_option maxHeartbeats 400000 in
theorem implName (s : ByteArray) (w : World) :
    Calls Try.prog 63 #[.string s] w fun e w' => e = .returned (.bool (nmOk (bt s))) ∧ Below w.heap.size w w' := by
  go_enter Try.func63, Try.ntmps63
  go_wp2
  go_loopw [2] (fun x w' => x = .bool false ∧ ∃ pos : Nat, w' = w.iter s pos ∧ pos ≤ s.size ∧ Hid (((bt s).take pos).all nb = true)) (fun _ w' => s.size - w'.iterPos w.heap.size)
  case atStart => exact ⟨rfl, 0, rfl, Nat.zero_le _, by show _ = _; simp⟩
  case round =>
    obtain ⟨rfl, pos, rfl, hle, HA⟩ := hrel
    by_cases hp : pos < s.size
    · by_cases ha : (s[pos]'hp).toNat < 128
      · have hnx : ∀ ty, (Instr.next (.pointer (some ⟨w.heap.size, 0, none⟩)) true ty).run Try.prog (w.iter s pos) = _ := fun ty => run_next_ascii w s pos ty hp ha
        have HB : Hid (nr ((s[pos]'hp).toNat : Int) = nb (s[pos]'hp)) := nr_nb _
        have HT : Hid (nb (s[pos]'hp) = true → ((bt s).take (pos + 1)).all nb = true) := all_take hp HA.out
        have HF : Hid (nb (s[pos]'hp) = false → nmOk (bt s) = false) := all_not hp
        generalize (s[pos]'hp) = b at *
        cases hb : nb b with
        | true =>
          go_wp2_with (go_at_call 61; refine (runeW _ _).mono ?_; rintro e w1 ⟨rfl, hw1⟩; subst w1; rw [HB.out, hb])
          go_roundw
          case rel => exact ⟨rfl, pos + 1, rfl, by omega, HT.out hb⟩
          case measure => simp; omega
        | false =>
          go_wp2_with (go_at_call 61; refine (runeW _ _).mono ?_; rintro e w1 ⟨rfl, hw1⟩; subst w1; rw [HB.out, hb])
          go_ret
          exact ⟨by rw [HF.out hb]; rfl, below_iter _ _⟩
      · have hnx : ∀ ty, (Instr.next (.pointer (some ⟨w.heap.size, 0, none⟩)) true ty).run Try.prog (w.iter s pos) = _ := fun ty => run_next_any w s pos ty hp
        have HH : Hid (nr ((Utf8.decode s pos).1 : Int) = false) := nr_high (by have := (decode_high s pos hp (by omega)).1; omega)
        have HF : Hid (nmOk (bt s) = false) := all_not hp (by rw [← nr_nb]; exact nr_high (by omega))
        generalize Utf8.decode s pos = d at *
        obtain ⟨d1, d2⟩ := d
        simp only at hnx HH
        go_wp2_with (go_at_call 61; refine (runeW _ _).mono ?_; rintro e w1 ⟨rfl, hw1⟩; subst w1; rw [HH.out])
        go_ret
        exact ⟨by rw [HF.out]; rfl, below_iter _ _⟩
    · obtain rfl : pos = s.size := by omega
      have hnx : ∀ ty, (Instr.next (.pointer (some ⟨w.heap.size, 0, none⟩)) true ty).run Try.prog (w.iter s s.size) = _ := fun ty => run_next_end w s s.size ty hp
      have HE : Hid (nmOk (bt s) = (decide (1 ≤ s.size) && decide (s.size ≤ 6))) := all_end HA.out
      by_cases h1 : 0 < s.size
      · by_cases h2 : s.size ≤ 6
        · go_wp2
          go_ret
          exact ⟨by rw [HE.out]; simp [h2]; omega, below_iter _ _⟩
        · go_wp2
          go_ret
          refine ⟨?_, below_iter _ _⟩
          rw [HE.out]
          simp [h2, show ¬ (s.size : Int) ≤ 6 by omega]
      · go_wp2
        go_ret
        exact ⟨by rw [HE.out]; simp; omega, below_iter _ _⟩

set_option maxRecDepth 20000 in
set_option maxHeartbeats 400000 in
theorem specName (s : ByteArray) (w : World) :
    Calls Try.prog 42 #[.string s] w fun e w' => e = .returned (.bool (nmOk (bt s))) ∧ w' = w := by
  have HL : Hid ((bt s).length = s.size) := bt_len s
  by_cases h16 : 1 ≤ s.size ∧ s.size ≤ 6
  · obtain ⟨h1, h6⟩ := h16
    have hin : (decide ((1 : Int) ≤ (s.size : Int)) && decide ((s.size : Int) ≤ 6)) = true := by simp; omega
    go_enter Try.func42, Try.ntmps42
    go_wp2_with (go_at_call 25; refine (inW _ _ _ _).mono ?_; rintro e w1 ⟨rfl, hw1⟩; subst w1; rw [hin])
    go_loopw [3] (fun x w' => ∃ k : Nat, x = .int .i64 k ∧ w' = w ∧ k ≤ s.size ∧ Hid (((bt s).take k).all nb = true)) (fun x _ => s.size - (intOf x).toNat)
    case atStart => exact ⟨0, rfl, rfl, Nat.zero_le _, by show _ = _; simp⟩
    case round =>
      obtain ⟨k, rfl, hw1, hk, HA⟩ := hrel
      subst hw1
      by_cases hp : k < s.size
      · have HB : Hid (nr ((s[k]'hp).toNat : Int) = nb (s[k]'hp)) := nr_nb _
        have HT : Hid (nb (s[k]'hp) = true → ((bt s).take (k + 1)).all nb = true) := all_take hp HA.out
        have HF : Hid (nb (s[k]'hp) = false → nmOk (bt s) = false) := all_not hp
        have hsk := getElem!_pos s k hp
        generalize hb0 : (s[k]'hp) = b at *
        have hb1 : b.toNat < 256 := b.toNat_lt
        have HNB : Hid (nb b = ((decide ((97 : Int) ≤ (b.toNat : Int)) && decide ((b.toNat : Int) ≤ 122)) || (decide ((48 : Int) ≤ (b.toNat : Int)) && decide ((b.toNat : Int) ≤ 57)))) := HB.out.symm
        by_cases c1 : (97 : Int) ≤ (b.toNat : Int) <;> by_cases c2 : (b.toNat : Int) ≤ 122 <;> by_cases c3 : (48 : Int) ≤ (b.toNat : Int) <;> by_cases c4 : (b.toNat : Int) ≤ 57
        all_goals first
          | (exfalso; omega)
          | (have hb : nb b = true := by rw [HNB.out]; simp; omega
             clear HNB
             go_wp2
             go_roundw
             case rel => exact ⟨k + 1, by go_num, by trivial, by omega, HT.out hb⟩
             case measure => simp [intOf]; omega)
          | (have hb : nb b = false := by rw [HNB.out]; simp; omega
             clear HNB
             go_wp2
             go_ret
             exact ⟨by rw [HF.out hb]; rfl, rfl⟩)
      · obtain rfl : k = s.size := by omega
        have HE : Hid (nmOk (bt s) = (decide (1 ≤ s.size) && decide (s.size ≤ 6))) := all_end HA.out
        go_wp2
        go_ret
        exact ⟨by rw [HE.out]; simp; omega, rfl⟩
  · have hin : (decide ((1 : Int) ≤ (s.size : Int)) && decide ((s.size : Int) ≤ 6)) = false := by simp; omega
    have HN : Hid (nmOk (bt s) = false) := by
      show _ = _
      unfold nmOk
      rw [bt_len]
      by_cases h : 1 ≤ s.size
      · simp [show ¬ s.size ≤ 6 by omega]
      · simp [show ¬ 1 ≤ s.size by omega]
    go_enter Try.func42, Try.ntmps42
    go_wp2_with (go_at_call 25; refine (inW _ _ _ _).mono ?_; rintro e w1 ⟨rfl, hw1⟩; subst w1; rw [hin])
    go_ret
    exact ⟨by rw [HN.out]; rfl, rfl⟩
end Go.Proofs.Ytmnngfaelanbcaa
