/-
  Own text: whether a text is a path: the program's way, rune by rune, and the other one, part by part.
-/
import Derived.Test.YtmnngfaelanbcaaNameW
namespace Go.Proofs.Ytmnngfaelanbcaa
open Go.RowKit

theorem root_at {s : ByteArray} {k : Nat} (h : bt s = [47]) (hk : k < s.size) : k = 0 ∧ s[k] = 47 := by
  have h1 : s.size = 1 := by rw [← bt_len, h]; rfl
  have h0 : k = 0 := by omega
  subst h0
  refine ⟨rfl, ?_⟩
  rw [← bt_get s 0 hk]
  simp [h]
theorem drop_at {s : ByteArray} {k : Nat} (hk : k < s.size) : (bt s).drop k = s[k] :: (bt s).drop (k + 1) := by
  rw [List.drop_eq_getElem_cons (by rw [bt_len]; exact hk), bt_get s k hk]
theorem ptOk_false {s : ByteArray} (h : ¬ bt s = [47]) (hf : scanP (bt s) 0 0 = false) : ptOk (bt s) = false := by
  rw [← scanP_all, hf]; simpa using h

set_option maxRecDepth 20000 in
set_option maxHeartbeats 1000000 in
theorem implPath (s : ByteArray) (w : World) (hs : s.size ≤ 4194304) :
    Calls Try.prog 51 #[.string s] w fun e w' => e = .returned (.bool (ptOk (bt s))) ∧ Below w.heap.size w w' := by
  go_enter Try.func51, Try.ntmps51
  go_wp2
  go_loopw [3, 4] (fun x y w' => ∃ pos d z : Nat, x = .int .i64 d ∧ y = .int .i64 z ∧ w' = w.iter s pos ∧ pos ≤ s.size ∧ d ≤ pos ∧ z ≤ pos ∧ Hid (scanP (bt s) 0 0 = scanP ((bt s).drop pos) d z)) (fun _ _ w' => s.size - w'.iterPos w.heap.size)
  case atStart => exact ⟨0, 0, 0, rfl, rfl, rfl, Nat.zero_le _, Nat.le_refl _, Nat.le_refl _, by show _ = _; simp⟩
  case round =>
    obtain ⟨pos, d, z, rfl, rfl, rfl, hle, hd, hz, HA⟩ := hrel
    by_cases hp : pos < s.size
    · have HS : Hid (scanP (bt s) 0 0 = scanP ((s[pos]'hp) :: (bt s).drop (pos + 1)) d z) := by rw [← drop_at hp]; exact HA.out
      have HRT : Hid (bt s = [47] → pos = 0 ∧ (s[pos]'hp) = 47) := fun h => root_at h hp
      by_cases ha : (s[pos]'hp).toNat < 128
      · have hnx : ∀ ty, (Instr.next (.pointer (some ⟨w.heap.size, 0, none⟩)) true ty).run Try.prog (w.iter s pos) = _ := fun ty => run_next_ascii w s pos ty hp ha
        have HB : Hid (nr ((s[pos]'hp).toNat : Int) = nb (s[pos]'hp)) := nr_nb _
        generalize (s[pos]'hp) = b at *
        clear HA
        by_cases h47 : (b.toNat : Int) = 47
        · have hb47 : b = 47 := UInt8.toNat_inj.1 (by rw [show (47 : UInt8).toNat = 47 from rfl]; omega)
          by_cases hbad : 0 < d ∧ z = 0
          · obtain ⟨hd0, hz0⟩ := hbad
            have HF : Hid (ptOk (bt s) = false) := ptOk_false (fun h => by have := HRT.out h; omega) (by rw [HS.out, scanP, if_pos hb47, if_pos ⟨hd0, hz0⟩])
            go_wp2
            go_ret
            exact ⟨by rw [HF.out]; rfl, below_iter _ _⟩
          · have HN : Hid (scanP (bt s) 0 0 = scanP ((bt s).drop (pos + 1)) (d + 1) 0) := by show _ = _; rw [HS.out, scanP, if_pos hb47, if_neg hbad]
            by_cases hd0 : 0 < d
            · have hz0 : ¬ (z : Int) = 0 := by omega
              clear hbad
              go_wp2
              go_roundw
              case rel => exact ⟨pos + 1, d + 1, 0, by go_num, by go_num, rfl, by omega, by omega, by omega, HN⟩
              case measure => simp; omega
            · clear hbad
              go_wp2
              go_roundw
              case rel => exact ⟨pos + 1, d + 1, 0, by go_num, by go_num, rfl, by omega, by omega, by omega, HN⟩
              case measure => simp; omega
        · have hb47 : ¬ b = 47 := by intro h; subst h; exact h47 rfl
          have HNR : Hid (¬ bt s = [47]) := fun h => hb47 (HRT.out h).2
          have HST : Hid (scanP (bt s) 0 0 = if d = 0 ∨ 6 < z + 1 ∨ nb b = false then false else scanP ((bt s).drop (pos + 1)) d (z + 1)) := by show _ = _; rw [HS.out, scanP, if_neg hb47]
          clear HRT HS hb47
          by_cases hd0 : d = 0
          · have HF : Hid (ptOk (bt s) = false) := ptOk_false HNR.out (by rw [HST.out, if_pos (Or.inl hd0)])
            subst hd0
            go_wp2
            go_ret
            exact ⟨by rw [HF.out]; rfl, below_iter _ _⟩
          · have hd1 : ¬ (d : Int) = 0 := by omega
            by_cases hz6 : 6 < z + 1
            · have HF : Hid (ptOk (bt s) = false) := ptOk_false HNR.out (by rw [HST.out, if_pos (Or.inr (Or.inl hz6))])
              have hz6' : (6 : Int) < (z : Int) + 1 := by omega
              go_wp2
              go_ret
              exact ⟨by rw [HF.out]; rfl, below_iter _ _⟩
            · have hz6' : ¬ (6 : Int) < (z : Int) + 1 := by omega
              cases hb : nb b with
              | false =>
                have HF : Hid (ptOk (bt s) = false) := ptOk_false HNR.out (by rw [HST.out, if_pos (Or.inr (Or.inr hb))])
                go_wp2_with (go_at_call 61; refine (runeW _ _).mono ?_; rintro e w1 ⟨rfl, hw1⟩; subst w1; rw [HB.out, hb])
                go_ret
                exact ⟨by rw [HF.out]; rfl, below_iter _ _⟩
              | true =>
                have HN : Hid (scanP (bt s) 0 0 = scanP ((bt s).drop (pos + 1)) d (z + 1)) := by show _ = _; rw [HST.out, if_neg (by simp [hb]; omega)]
                go_wp2_with (go_at_call 61; refine (runeW _ _).mono ?_; rintro e w1 ⟨rfl, hw1⟩; subst w1; rw [HB.out, hb])
                go_roundw
                case rel => exact ⟨pos + 1, d, z + 1, by go_num, by go_num, rfl, by omega, by omega, by omega, HN⟩
                case measure => simp; omega
      · have hnx : ∀ ty, (Instr.next (.pointer (some ⟨w.heap.size, 0, none⟩)) true ty).run Try.prog (w.iter s pos) = _ := fun ty => run_next_any w s pos ty hp
        have hdh := (decode_high s pos hp (by omega)).1
        have HH : Hid (nr ((Utf8.decode s pos).1 : Int) = false) := nr_high (by omega)
        have hnb : nb (s[pos]'hp) = false := by rw [← nr_nb]; exact nr_high (by omega)
        have hb47 : ¬ (s[pos]'hp) = 47 := by intro h; rw [h] at ha; exact ha (by decide)
        have HF : Hid (ptOk (bt s) = false) := ptOk_false (fun h => hb47 (HRT.out h).2) (by rw [HS.out, scanP, if_neg hb47, if_pos (Or.inr (Or.inr hnb))])
        clear HRT HS HA hnb hb47 ha
        generalize Utf8.decode s pos = dd at *
        obtain ⟨d1, d2⟩ := dd
        simp only at hnx HH hdh
        have hd47 : ¬ (d1 : Int) = 47 := by omega
        by_cases hd0 : d = 0
        · subst hd0
          go_wp2
          go_ret
          exact ⟨by rw [HF.out]; rfl, below_iter _ _⟩
        · have hd1 : ¬ (d : Int) = 0 := by omega
          by_cases hz6 : 6 < z + 1
          · have hz6' : (6 : Int) < (z : Int) + 1 := by omega
            go_wp2
            go_ret
            exact ⟨by rw [HF.out]; rfl, below_iter _ _⟩
          · have hz6' : ¬ (6 : Int) < (z : Int) + 1 := by omega
            go_wp2_with (go_at_call 61; refine (runeW _ _).mono ?_; rintro e w1 ⟨rfl, hw1⟩; subst w1; rw [HH.out])
            go_ret
            exact ⟨by rw [HF.out]; rfl, below_iter _ _⟩
    · obtain rfl : pos = s.size := by omega
      have hnx : ∀ ty, (Instr.next (.pointer (some ⟨w.heap.size, 0, none⟩)) true ty).run Try.prog (w.iter s s.size) = _ := fun ty => run_next_end w s s.size ty hp
      have HE : Hid (ptOk (bt s) = ((bt s == [47]) || (decide (0 < z) && decide (d ≤ 4)))) := by
        show _ = _
        rw [← scanP_all, HA.out, List.drop_of_length_le (by rw [bt_len]; exact Nat.le_refl _), scanP]
      by_cases hr : bt s = [47]
      · have hst : (s.toList == [47]) = true := lit_same hr
        go_wp2
        go_ret
        exact ⟨by rw [HE.out, hr]; rfl, below_iter _ _⟩
      · have hst : (s.toList == [47]) = false := lit_other hr
        have hrb : (bt s == [47]) = false := by simpa using hr
        by_cases hz0 : 0 < z
        · by_cases hd4 : d ≤ 4
          · have hd4' : (d : Int) ≤ 4 := by omega
            go_wp2
            go_ret
            exact ⟨by rw [HE.out, hrb]; simp [hz0, hd4], below_iter _ _⟩
          · have hd4' : ¬ (d : Int) ≤ 4 := by omega
            go_wp2
            go_ret
            exact ⟨by rw [HE.out, hrb]; simp [hd4], below_iter _ _⟩
        · go_wp2
          go_ret
          exact ⟨by rw [HE.out, hrb]; simp [hz0], below_iter _ _⟩
end Go.Proofs.Ytmnngfaelanbcaa
