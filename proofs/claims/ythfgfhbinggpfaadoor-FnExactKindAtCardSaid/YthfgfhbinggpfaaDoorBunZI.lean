/-
  Own texts, several together.
-/
import Derived.Test.YthfgfhbinggpfaaDoorBunZF
import Derived.Test.YthfgfhbinggpfaaDoorBunZB
import Derived.Test.YthfgfhbinggpfaaDoorShelf
import Derived.Test.YthfgfhbinggpfaaDoorBunZA
/-
  Own text: whether a text is a path: the program's way, rune by rune, and the other one, part by part.
-/
namespace Go.Proofs.YthfgfhbinggpfaaDoor
open Go.RowKit

theorem root_at {s : ByteArray} {k : Nat} (h : bt s = [47]) (hk : k < s.size) : k = 0 ∧ s[k] = 47 := by
  have h1 : s.size = 1 := by rw [← bt_len, h]; rfl
  have h0 : k = 0 := by omega
  subst h0
  refine ⟨rfl, ?_⟩
  rw [← bt_get s 0 hk]
  simp [h]
theorem drop_at {s : ByteArray} {k : Nat} (hk : k < s.size) : (bt s).drop k = s[k] :: (bt s).drop (k + 1) := by
  rw [List.drop_eq_getElem_cons (by rw [bt_len]; exact hk), bt_get s k hk]
theorem ptOk_false {s : ByteArray} (h : ¬ bt s = [47]) (hf : scanP (bt s) 0 0 = false) : ptOk (bt s) = false := by
  rw [← scanP_all, hf]; simpa using h

set_option maxRecDepth 20000 in
set_option maxHeartbeats 1000000 in
theorem implPath (s : ByteArray) (w : World) (hs : s.size ≤ 4194304) :
    Calls Tryd.prog 33 #[.string s] w fun e w' => e = .returned (.bool (ptOk (bt s))) ∧ Below w.heap.size w w' := by
  go_enter Tryd.func33, Tryd.ntmps33
  go_wp2
  go_loopw [3, 4] (fun x y w' => ∃ pos d z : Nat, x = .int .i64 d ∧ y = .int .i64 z ∧ w' = w.iter s pos ∧ pos ≤ s.size ∧ d ≤ pos ∧ z ≤ pos ∧ Hid (scanP (bt s) 0 0 = scanP ((bt s).drop pos) d z)) (fun _ _ w' => s.size - w'.iterPos w.heap.size)
  case atStart => exact ⟨0, 0, 0, rfl, rfl, rfl, Nat.zero_le _, Nat.le_refl _, Nat.le_refl _, by show _ = _; simp⟩
  case round =>
    obtain ⟨pos, d, z, rfl, rfl, rfl, hle, hd, hz, HA⟩ := hrel
    by_cases hp : pos < s.size
    · have HS : Hid (scanP (bt s) 0 0 = scanP ((s[pos]'hp) :: (bt s).drop (pos + 1)) d z) := by rw [← drop_at hp]; exact HA.out
      have HRT : Hid (bt s = [47] → pos = 0 ∧ (s[pos]'hp) = 47) := fun h => root_at h hp
      by_cases ha : (s[pos]'hp).toNat < 128
      · have hnx : ∀ ty, (Instr.next (.pointer (some ⟨w.heap.size, 0, none⟩)) true ty).run Tryd.prog (w.iter s pos) = _ := fun ty => run_next_ascii w s pos ty hp ha
        have HB : Hid (nr ((s[pos]'hp).toNat : Int) = nb (s[pos]'hp)) := nr_nb _
        generalize (s[pos]'hp) = b at *
        clear HA
        by_cases h47 : (b.toNat : Int) = 47
        · have hb47 : b = 47 := UInt8.toNat_inj.1 (by rw [show (47 : UInt8).toNat = 47 from rfl]; omega)
          by_cases hbad : 0 < d ∧ z = 0
          · obtain ⟨hd0, hz0⟩ := hbad
            have HF : Hid (ptOk (bt s) = false) := ptOk_false (fun h => by have := HRT.out h; omega) (by rw [HS.out, scanP, if_pos hb47, if_pos ⟨hd0, hz0⟩])
            go_wp2
            go_ret
            exact ⟨by rw [HF.out]; rfl, below_iter _ _⟩
          · have HN : Hid (scanP (bt s) 0 0 = scanP ((bt s).drop (pos + 1)) (d + 1) 0) := by show _ = _; rw [HS.out, scanP, if_pos hb47, if_neg hbad]
            by_cases hd0 : 0 < d
            · have hz0 : ¬ (z : Int) = 0 := by omega
              clear hbad
              go_wp2
              go_roundw
              case rel => exact ⟨pos + 1, d + 1, 0, by go_num, by go_num, rfl, by omega, by omega, by omega, HN⟩
              case measure => simp; omega
            · clear hbad
              go_wp2
              go_roundw
              case rel => exact ⟨pos + 1, d + 1, 0, by go_num, by go_num, rfl, by omega, by omega, by omega, HN⟩
              case measure => simp; omega
        · have hb47 : ¬ b = 47 := by intro h; subst h; exact h47 rfl
          have HNR : Hid (¬ bt s = [47]) := fun h => hb47 (HRT.out h).2
          have HST : Hid (scanP (bt s) 0 0 = if d = 0 ∨ 6 < z + 1 ∨ nb b = false then false else scanP ((bt s).drop (pos + 1)) d (z + 1)) := by show _ = _; rw [HS.out, scanP, if_neg hb47]
          clear HRT HS hb47
          by_cases hd0 : d = 0
          · have HF : Hid (ptOk (bt s) = false) := ptOk_false HNR.out (by rw [HST.out, if_pos (Or.inl hd0)])
            subst hd0
            go_wp2
            go_ret
            exact ⟨by rw [HF.out]; rfl, below_iter _ _⟩
          · have hd1 : ¬ (d : Int) = 0 := by omega
            by_cases hz6 : 6 < z + 1
            · have HF : Hid (ptOk (bt s) = false) := ptOk_false HNR.out (by rw [HST.out, if_pos (Or.inr (Or.inl hz6))])
              have hz6' : (6 : Int) < (z : Int) + 1 := by omega
              go_wp2
              go_ret
              exact ⟨by rw [HF.out]; rfl, below_iter _ _⟩
            · have hz6' : ¬ (6 : Int) < (z : Int) + 1 := by omega
              cases hb : nb b with
              | false =>
                have HF : Hid (ptOk (bt s) = false) := ptOk_false HNR.out (by rw [HST.out, if_pos (Or.inr (Or.inr hb))])
                go_wp2_with (go_at_call 58; refine (runeW _ _).mono ?_; rintro e w1 ⟨rfl, hw1⟩; subst w1; rw [HB.out, hb])
                go_ret
                exact ⟨by rw [HF.out]; rfl, below_iter _ _⟩
              | true =>
                have HN : Hid (scanP (bt s) 0 0 = scanP ((bt s).drop (pos + 1)) d (z + 1)) := by show _ = _; rw [HST.out, if_neg (by simp [hb]; omega)]
                go_wp2_with (go_at_call 58; refine (runeW _ _).mono ?_; rintro e w1 ⟨rfl, hw1⟩; subst w1; rw [HB.out, hb])
                go_roundw
                case rel => exact ⟨pos + 1, d, z + 1, by go_num, by go_num, rfl, by omega, by omega, by omega, HN⟩
                case measure => simp; omega
      · have hnx : ∀ ty, (Instr.next (.pointer (some ⟨w.heap.size, 0, none⟩)) true ty).run Tryd.prog (w.iter s pos) = _ := fun ty => run_next_any w s pos ty hp
        have hdh := (decode_high s pos hp (by omega)).1
        have HH : Hid (nr ((Utf8.decode s pos).1 : Int) = false) := nr_high (by omega)
        have hnb : nb (s[pos]'hp) = false := by rw [← nr_nb]; exact nr_high (by omega)
        have hb47 : ¬ (s[pos]'hp) = 47 := by intro h; rw [h] at ha; exact ha (by decide)
        have HF : Hid (ptOk (bt s) = false) := ptOk_false (fun h => hb47 (HRT.out h).2) (by rw [HS.out, scanP, if_neg hb47, if_pos (Or.inr (Or.inr hnb))])
        clear HRT HS HA hnb hb47 ha
        generalize Utf8.decode s pos = dd at *
        obtain ⟨d1, d2⟩ := dd
        simp only at hnx HH hdh
        have hd47 : ¬ (d1 : Int) = 47 := by omega
        by_cases hd0 : d = 0
        · subst hd0
          go_wp2
          go_ret
          exact ⟨by rw [HF.out]; rfl, below_iter _ _⟩
        · have hd1 : ¬ (d : Int) = 0 := by omega
          by_cases hz6 : 6 < z + 1
          · have hz6' : (6 : Int) < (z : Int) + 1 := by omega
            go_wp2
            go_ret
            exact ⟨by rw [HF.out]; rfl, below_iter _ _⟩
          · have hz6' : ¬ (6 : Int) < (z : Int) + 1 := by omega
            go_wp2_with (go_at_call 58; refine (runeW _ _).mono ?_; rintro e w1 ⟨rfl, hw1⟩; subst w1; rw [HH.out])
            go_ret
            exact ⟨by rw [HF.out]; rfl, below_iter _ _⟩
    · obtain rfl : pos = s.size := by omega
      have hnx : ∀ ty, (Instr.next (.pointer (some ⟨w.heap.size, 0, none⟩)) true ty).run Tryd.prog (w.iter s s.size) = _ := fun ty => run_next_end w s s.size ty hp
      have HE : Hid (ptOk (bt s) = ((bt s == [47]) || (decide (0 < z) && decide (d ≤ 4)))) := by
        show _ = _
        rw [← scanP_all, HA.out, List.drop_of_length_le (by rw [bt_len]; exact Nat.le_refl _), scanP]
      by_cases hr : bt s = [47]
      · have hst : (s.toList == [47]) = true := lit_same hr
        go_wp2
        go_ret
        exact ⟨by rw [HE.out, hr]; rfl, below_iter _ _⟩
      · have hst : (s.toList == [47]) = false := lit_other hr
        have hrb : (bt s == [47]) = false := by simpa using hr
        by_cases hz0 : 0 < z
        · by_cases hd4 : d ≤ 4
          · have hd4' : (d : Int) ≤ 4 := by omega
            go_wp2
            go_ret
            exact ⟨by rw [HE.out, hrb]; simp [hz0, hd4], below_iter _ _⟩
          · have hd4' : ¬ (d : Int) ≤ 4 := by omega
            go_wp2
            go_ret
            exact ⟨by rw [HE.out, hrb]; simp [hd4], below_iter _ _⟩
        · go_wp2
          go_ret
          exact ⟨by rw [HE.out, hrb]; simp [hz0], below_iter _ _⟩
end Go.Proofs.YthfgfhbinggpfaaDoor

/-
  Own text: the two Parts functions answer a new row of the texts between such bytes, and turn nothing that was there.
-/
namespace Go.Proofs.YthfgfhbinggpfaaDoor
open Go.RowKit

/-- Does a part end at place k? -/
def hit (s : ByteArray) (c : Int) (k : Nat) : Bool := if h : k < s.size then decide ((s[k].toNat : Int) = c) else k == s.size
/-- The parts that end ahead of place k, and where the next one begins. -/
def pst (s : ByteArray) (c : Int) : Nat → List ByteArray × Nat
  | 0 => ([], 0)
  | k + 1 => if hit s c k then ((pst s c k).1 ++ [s.extract (pst s c k).2 k], k + 1) else pst s c k
def parts (s : ByteArray) (c : Int) : List ByteArray := (pst s c (s.size + 1)).1
theorem pst_hit {s : ByteArray} {c : Int} {k : Nat} (h : hit s c k = true) : pst s c (k + 1) = ((pst s c k).1 ++ [s.extract (pst s c k).2 k], k + 1) := by rw [pst, if_pos h]
theorem pst_not {s : ByteArray} {c : Int} {k : Nat} (h : hit s c k = false) : pst s c (k + 1) = pst s c k := by rw [pst, if_neg (by simp [h])]
theorem pst_le (s : ByteArray) (c : Int) : ∀ k, (pst s c k).2 ≤ k ∧ (pst s c k).1.length ≤ k
  | 0 => by simp [pst]
  | k + 1 => by
    have := pst_le s c k
    by_cases h : hit s c k = true
    · rw [pst_hit h]; simp; omega
    · rw [pst_not (by simpa using h)]; omega
theorem hit_end (s : ByteArray) (c : Int) : hit s c s.size = true := by simp [hit]
theorem hit_in {s : ByteArray} {c : Int} {k : Nat} (h : k < s.size) : hit s c k = decide ((s[k].toNat : Int) = c) := by simp [hit, h]

theorem Tryd.infoStr : (Tryd.prog.info? 9).map (fun i => (i.zero, i.size, i.bytes)) = some (some (.string ⟨#[]⟩), 1, 16) := by kernel_rfl

theorem clone (s : ByteArray) (w : World) (hs : s.size ≤ 281474976710656) :
    Calls Tryd.prog 101 #[.string s] w fun e w' => e = .returned (.string s) ∧ Below w.heap.size w w' := by
  go_enter Tryd.func101, Tryd.ntmps101
  go_wp2_with (go_at_call 107; refine (Tryd.stringslite_Clone s _ hs).mono ?_; rintro e w' ⟨rfl, hb⟩)
  go_ret
  exact ⟨rfl, hb⟩

theorem extract_size_le (s : ByteArray) (a b : Nat) (h : b ≤ s.size) : (s.extract a b).size ≤ s.size := by
  simp [ByteArray.size_extract]; omega

set_option maxRecDepth 20000 in
set_option maxHeartbeats 800000 in
theorem specParts (s : ByteArray) (c : Int) (w : World) (hs : s.size ≤ 4194304) :
    Calls Tryd.prog 54 #[.string s, .int .u8 c] w fun e w' => ∃ v, e = .returned v ∧ w'.ownsRow w.heap.size 9 1 v (parts s c).length ((parts s c).map Value.string) ∧ Below w.heap.size w w' := by
  obtain ⟨i0, hi, hz0, hz1, hz2⟩ := info_parts Tryd.infoStr
  have ho0 : (w.alloc (.cells #[] 9)).ownsRow w.heap.size 9 1 (.slice (some ⟨w.heap.size, 0, none⟩) 0 0) 0 [] := World.ownsRow_made w #[] 0 (Nat.le_refl _) (Nat.zero_le _) rfl
  have hb0 : Below w.heap.size w (w.alloc (.cells #[] 9)) := (Below.refl _ _).alloc (Nat.le_refl _) _
  go_enter Tryd.func54, Tryd.ntmps54
  go_wp2
  go_loopw [5, 6, 7] (fun v f i wr => ∃ k : Nat, k ≤ s.size + 1 ∧ i = .int .i64 k ∧ f = .int .i64 (pst s c k).2 ∧ wr.ownsRow w.heap.size 9 1 v (pst s c k).1.length ((pst s c k).1.map Value.string) ∧ Below w.heap.size w wr) (fun _ _ i _ => s.size + 1 - (intOf i).toNat)
  case atStart => exact ⟨0, Nat.zero_le _, rfl, rfl, ho0, hb0⟩
  case round =>
    obtain ⟨k, hk, rfl, rfl, hown, hbel⟩ := hrel
    have hple := pst_le s c k
    obtain ⟨hp1, hp2⟩ := hple
    have HIT : Hid (hit s c k = true → pst s c (k + 1) = ((pst s c k).1 ++ [s.extract (pst s c k).2 k], k + 1)) := pst_hit
    have HNOT : Hid (hit s c k = false → pst s c (k + 1) = pst s c k) := pst_not
    clear ho0 hb0
    by_cases hlt : k < s.size
    · have hne : ((k : Int) == (s.size : Int)) = false := by simp; omega
      by_cases hsc : (s[k].toNat : Int) = c
      · have hsc' : ((s[k].toNat : Int) == c) = true := by simpa using hsc
        have HS := HIT.out (by rw [hit_in hlt]; simpa using hsc)
        clear HIT HNOT hsc
        generalize hq : pst s c k = q at *
        obtain ⟨o, f⟩ := q
        simp only at hown hp1 hp2 HS
        have HS' := HS
        have HH : Hid (pst s c (k + 1) = (o ++ [s.extract f k], k + 1)) := HS'
        clear HS HS' hq
        have hsl : ∀ W, (Instr.slice 9 (.string s) (some (.int .i64 (f : Int))) (some (.int .i64 (k : Int))) none).run Tryd.prog W = .ok (.string (s.extract f k)) W := fun W => by
          have := run_slice_string (P := Tryd.prog) W 9 s .i64 .i64 (f : Int) (k : Int) Tryd.underlying9 (by omega) (by omega) (by omega)
          simpa using this
        generalize s.extract f k = part at *
        go_wp2_with (at_builtin; refine wpList_append_own _ rfl _ _ 23 rfl w.heap.size 9 i0 (.string ⟨#[]⟩) 1 16 Tryd.underlying23 hi hz0 hz1 hz2 rfl (by decide) _ _ _ rfl (hown.alloc _) ⟨wr.heap.size, 0, none⟩ 1 1 [.string part] rfl rfl ?c1 ?c2 ?c3 ?c4 ?c5 ?_)
        case c1 =>
          intro j u hj
          match j, hj with
          | 0, hj => simp at hj; subst hj; simp [Addr.add]
        case c2 => intro u hu; simp at hu; subst hu; rfl
        case c3 => unfold maxLen; omega
        case c4 => omega
        case c5 => have := hbel.size; simp; omega
        intro v' w1 hown' hgrow _
        have hbel' : Below w.heap.size w w1 := below_append hbel hbel.size hown hgrow
        clear hgrow hown hbel hsl
        go_wp2
        go_roundw
        case rel => exact ⟨k + 1, by omega, by go_num, by rw [HH.out]; go_num, by rw [HH.out]; simpa using hown', hbel'⟩
        case measure => simp [intOf]; omega
      · have hsc' : ((s[k].toNat : Int) == c) = false := by simpa using hsc
        have HS : Hid (pst s c (k + 1) = pst s c k) := HNOT.out (by rw [hit_in hlt]; simpa using hsc)
        clear HIT HNOT
        go_wp2
        go_roundw
        case rel => exact ⟨k + 1, by omega, by go_num, by rw [HS.out], by rw [HS.out]; exact hown, hbel⟩
        case measure => simp [intOf]; omega
    · by_cases hle : k ≤ s.size
      · have hks : k = s.size := by omega
        have HS := HIT.out (by rw [hks]; exact hit_end s c)
        have hne : ((k : Int) == (s.size : Int)) = true := by simp; omega
        clear HIT HNOT hks
        generalize hq : pst s c k = q at *
        obtain ⟨o, f⟩ := q
        simp only at hown hp1 hp2 HS
        have HH : Hid (pst s c (k + 1) = (o ++ [s.extract f k], k + 1)) := HS
        clear HS hq
        have hsl : ∀ W, (Instr.slice 9 (.string s) (some (.int .i64 (f : Int))) (some (.int .i64 (k : Int))) none).run Tryd.prog W = .ok (.string (s.extract f k)) W := fun W => by
          have := run_slice_string (P := Tryd.prog) W 9 s .i64 .i64 (f : Int) (k : Int) Tryd.underlying9 (by omega) (by omega) (by omega)
          simpa using this
        generalize s.extract f k = part at *
        go_wp2_with (at_builtin; refine wpList_append_own _ rfl _ _ 23 rfl w.heap.size 9 i0 (.string ⟨#[]⟩) 1 16 Tryd.underlying23 hi hz0 hz1 hz2 rfl (by decide) _ _ _ rfl (hown.alloc _) ⟨wr.heap.size, 0, none⟩ 1 1 [.string part] rfl rfl ?d1 ?d2 ?d3 ?d4 ?d5 ?_)
        case d1 =>
          intro j u hj
          match j, hj with
          | 0, hj => simp at hj; subst hj; simp [Addr.add]
        case d2 => intro u hu; simp at hu; subst hu; rfl
        case d3 => unfold maxLen; omega
        case d4 => omega
        case d5 => have := hbel.size; simp; omega
        intro v' w1 hown' hgrow _
        have hbel' : Below w.heap.size w w1 := below_append hbel hbel.size hown hgrow
        clear hgrow hown hbel hsl
        go_wp2
        go_roundw
        case rel => exact ⟨k + 1, by omega, by go_num, by rw [HH.out]; go_num, by rw [HH.out]; simpa using hown', hbel'⟩
        case measure => simp [intOf]; omega
      · obtain rfl : k = s.size + 1 := by omega
        clear HIT HNOT
        go_wp2
        go_ret
        exact ⟨_, rfl, hown, hbel⟩

set_option maxRecDepth 20000 in
set_option maxHeartbeats 800000 in
theorem implParts (s : ByteArray) (c : Int) (w : World) (hs : s.size ≤ 4194304) :
    Calls Tryd.prog 91 #[.string s, .int .u8 c] w fun e w' => ∃ v, e = .returned v ∧ w'.ownsRow w.heap.size 9 1 v (parts s c).length ((parts s c).map Value.string) ∧ Below w.heap.size w w' := by
  obtain ⟨i0, hi, hz0, hz1, hz2⟩ := info_parts Tryd.infoStr
  go_enter Tryd.func91, Tryd.ntmps91
  go_wp2
  go_loopw [5, 6, 7] (fun v f i wr => ∃ k : Nat, k ≤ s.size ∧ i = .int .i64 k ∧ f = .int .i64 (pst s c k).2 ∧ wr.ownsRow w.heap.size 9 1 v (pst s c k).1.length ((pst s c k).1.map Value.string) ∧ Below w.heap.size w wr) (fun _ _ i _ => s.size - (intOf i).toNat)
  case atStart => exact ⟨0, Nat.zero_le _, rfl, rfl, World.ownsRow_nil _ _ _ _, Below.refl _ _⟩
  case round =>
    obtain ⟨k, hk, rfl, rfl, hown, hbel⟩ := hrel
    have hple := pst_le s c k
    obtain ⟨hp1, hp2⟩ := hple
    have HIT : Hid (hit s c k = true → pst s c (k + 1) = ((pst s c k).1 ++ [s.extract (pst s c k).2 k], k + 1)) := pst_hit
    have HNOT : Hid (hit s c k = false → pst s c (k + 1) = pst s c k) := pst_not
    by_cases hlt : k < s.size
    · by_cases hsc : (s[k].toNat : Int) = c
      · have hsc' : ((s[k].toNat : Int) == c) = true := by simpa using hsc
        have HS := HIT.out (by rw [hit_in hlt]; simpa using hsc)
        clear HIT HNOT hsc
        generalize hq : pst s c k = q at *
        obtain ⟨o, f⟩ := q
        simp only at hown hp1 hp2 HS
        have HH : Hid (pst s c (k + 1) = (o ++ [s.extract f k], k + 1)) := HS
        clear HS hq
        have hsl : ∀ W, (Instr.slice 9 (.string s) (some (.int .i64 (f : Int))) (some (.int .i64 (k : Int))) none).run Tryd.prog W = .ok (.string (s.extract f k)) W := fun W => by
          have := run_slice_string (P := Tryd.prog) W 9 s .i64 .i64 (f : Int) (k : Int) Tryd.underlying9 (by omega) (by omega) (by omega)
          simpa using this
        have hpz : (s.extract f k).size ≤ 281474976710656 := by have := extract_size_le s f k hk; omega
        generalize s.extract f k = part at *
        go_wp2_with fail
        refine (clone part _ hpz).mono ?_
        rintro e w1 ⟨rfl, hbc⟩
        have ho1 := ownsRow_below hown hbc (Nat.le_refl _)
        have hb1 : Below w.heap.size w w1 := hbel.trans (hbc.mono hbel.size)
        clear hown hbel hbc
        go_wp2_with (at_builtin; refine wpList_append_own _ rfl _ _ 23 rfl w.heap.size 9 i0 (.string ⟨#[]⟩) 1 16 Tryd.underlying23 hi hz0 hz1 hz2 rfl (by decide) _ _ _ rfl (ho1.alloc _) ⟨w1.heap.size, 0, none⟩ 1 1 [.string part] rfl rfl ?c1 ?c2 ?c3 ?c4 ?c5 ?_)
        case c1 =>
          intro j u hj
          match j, hj with
          | 0, hj => simp at hj; subst hj; simp [Addr.add]
        case c2 => intro u hu; simp at hu; subst hu; rfl
        case c3 => unfold maxLen; omega
        case c4 => omega
        case c5 => have := hb1.size; simp; omega
        intro v' w2 hown' hgrow _
        have hbel' : Below w.heap.size w w2 := below_append hb1 hb1.size ho1 hgrow
        clear hgrow ho1 hb1 hsl
        go_wp2
        go_roundw
        case rel => exact ⟨k + 1, by omega, by go_num, by rw [HH.out]; go_num, by rw [HH.out]; simpa using hown', hbel'⟩
        case measure => simp [intOf]; omega
      · have hsc' : ((s[k].toNat : Int) == c) = false := by simpa using hsc
        have HS : Hid (pst s c (k + 1) = pst s c k) := HNOT.out (by rw [hit_in hlt]; simpa using hsc)
        clear HIT HNOT
        go_wp2
        go_roundw
        case rel => exact ⟨k + 1, by omega, by go_num, by rw [HS.out], by rw [HS.out]; exact hown, hbel⟩
        case measure => simp [intOf]; omega
    · obtain rfl : k = s.size := by omega
      have HS := HIT.out (hit_end s c)
      clear HIT HNOT
      generalize hq : pst s c s.size = q at *
      obtain ⟨o, f⟩ := q
      simp only at hown hp1 hp2 HS
      have HH : Hid (parts s c = o ++ [s.extract f s.size]) := by show (pst s c (s.size + 1)).1 = _; rw [HS]
      clear HS hq
      have hsl : ∀ W, (Instr.slice 9 (.string s) (some (.int .i64 (f : Int))) none none).run Tryd.prog W = .ok (.string (s.extract f s.size)) W := fun W => by
        rw [run_slice_string_from_if (P := Tryd.prog) W 9 s .i64 (f : Int) Tryd.underlying9, if_pos (by omega)]
        simp
      have hpz : (s.extract f s.size).size ≤ 281474976710656 := by have := extract_size_le s f s.size (Nat.le_refl _); omega
      generalize s.extract f s.size = part at *
      go_wp2_with fail
      refine (clone part _ hpz).mono ?_
      rintro e w1 ⟨rfl, hbc⟩
      have ho1 := ownsRow_below hown hbc (Nat.le_refl _)
      have hb1 : Below w.heap.size w w1 := hbel.trans (hbc.mono hbel.size)
      clear hown hbel hbc
      go_wp2_with (at_builtin; refine wpList_append_own _ rfl _ _ 23 rfl w.heap.size 9 i0 (.string ⟨#[]⟩) 1 16 Tryd.underlying23 hi hz0 hz1 hz2 rfl (by decide) _ _ _ rfl (ho1.alloc _) ⟨w1.heap.size, 0, none⟩ 1 1 [.string part] rfl rfl ?d1 ?d2 ?d3 ?d4 ?d5 ?_)
      case d1 =>
        intro j u hj
        match j, hj with
        | 0, hj => simp at hj; subst hj; simp [Addr.add]
      case d2 => intro u hu; simp at hu; subst hu; rfl
      case d3 => unfold maxLen; omega
      case d4 => omega
      case d5 => have := hb1.size; simp; omega
      intro v' w2 hown' hgrow _
      have hbel' : Below w.heap.size w w2 := below_append hb1 hb1.size ho1 hgrow
      clear hgrow ho1 hb1 hsl
      go_wp2
      go_ret
      refine ⟨_, rfl, ?_, hbel'⟩
      rw [HH.out]
      simpa using hown'
end Go.Proofs.YthfgfhbinggpfaaDoor

/-
  Own text: texts as lists of bytes, and the parts of a text as what is cut at its slashes.
-/
namespace Go.Proofs.YthfgfhbinggpfaaDoor
open Go.RowKit

def glue (x : List UInt8) : List (List UInt8) → List (List UInt8)
  | [] => [x]
  | h :: r => (x ++ h) :: r

theorem pst_cut (s : ByteArray) : ∀ n k, k + n = s.size → (parts s 47).map bt = (pst s 47 k).1.map bt ++ glue (bt (s.extract (pst s 47 k).2 k)) (cutL ((bt s).drop k))
  | 0, k, h => by
    obtain rfl : k = s.size := by omega
    unfold parts
    rw [pst_hit (hit_end s 47), List.drop_of_length_le (by rw [bt_len]; exact Nat.le_refl _)]
    simp [cutL, glue]
  | n + 1, k, h => by
    have hk : k < s.size := by omega
    rw [pst_cut s n (k + 1) (by omega)]
    have hd : (bt s).drop k = s[k] :: (bt s).drop (k + 1) := by
      rw [List.drop_eq_getElem_cons (by rw [bt_len]; exact hk), bt_get s k hk]
    have hple := (pst_le s 47 k).1
    by_cases hh : hit s 47 k = true
    · rw [pst_hit hh]
      rw [hit_in hk] at hh
      have e47 : s[k] = 47 := by
        have h1 : s[k].toNat = 47 := by have h2 := of_decide_eq_true hh; omega
        exact UInt8.toNat_inj.1 (h1.trans (by decide))
      rw [hd, e47, cutL_slash]
      obtain ⟨h', r', e⟩ := cutL_cons ((bt s).drop (k + 1))
      simp [glue, e, bt_empty]
    · have hh' : hit s 47 k = false := by simpa using hh
      rw [pst_not hh']
      rw [hit_in hk] at hh'
      have e47 : s[k] ≠ 47 := by
        intro e
        rw [e] at hh'
        simp at hh'
      obtain ⟨h', r', e⟩ := cutL_cons ((bt s).drop (k + 1))
      rw [hd, cutL_step e47 e, e]
      have e1 : bt (s.extract (pst s 47 k).2 (k + 1)) = bt (s.extract (pst s 47 k).2 k) ++ [s[k]] := by
        rw [bt_extract, bt_extract, List.take_succ_eq_append_getElem (by rw [bt_len]; exact hk), bt_get s k hk]
        rw [List.drop_append_of_le_length (by simp [bt_len]; omega)]
      simp [glue, e1]
theorem parts_cut (s : ByteArray) : (parts s 47).map bt = cutL (bt s) := by
  rw [pst_cut s s.size 0 (by omega)]
  obtain ⟨h, r, e⟩ := cutL_cons (bt s)
  simp [pst, glue, e, bt_empty]
theorem parts_tx (s : ByteArray) : parts s 47 = (cutL (bt s)).map tx := by
  rw [← parts_cut, List.map_map]
  have : (tx ∘ bt) = id := funext tx_bt
  rw [this, List.map_id]
theorem parts_len (s : ByteArray) : (parts s 47).length = (cutL (bt s)).length := by rw [parts_tx, List.length_map]
end Go.Proofs.YthfgfhbinggpfaaDoor

/-
  Own text: whether a text is a path: the other way, part by part.
-/
namespace Go.Proofs.YthfgfhbinggpfaaDoor
open Go.RowKit

theorem tails_len {L : List ByteArray} (h : ¬ (2 ≤ L.length ∧ L.length ≤ 5)) : tailsOk (L.map bt) = false := by
  rw [Bool.eq_false_iff]
  intro ht
  obtain ⟨r, e, h1, h2, _⟩ := tailsOk_iff.1 ht
  have := congrArg List.length e
  simp at this
  omega
theorem tails_head {L : List ByteArray} (h0 : 0 < L.length) (h : ¬ bt L[0] = []) : tailsOk (L.map bt) = false := by
  rw [Bool.eq_false_iff]
  intro ht
  obtain ⟨r, e, _⟩ := tailsOk_iff.1 ht
  cases L with
  | nil => simp at h0
  | cons x L => simp at e h; exact h e.1
theorem tails_bad {L : List ByteArray} {k : Nat} (hk : k < L.length) (h1 : 1 ≤ k) (h : nmOk (bt L[k]) = false) : tailsOk (L.map bt) = false := by
  rw [Bool.eq_false_iff]
  intro ht
  obtain ⟨r, e, _, _, ha⟩ := tailsOk_iff.1 ht
  cases L with
  | nil => simp at hk
  | cons x L =>
    simp at e
    obtain ⟨j, rfl⟩ : ∃ j, k = j + 1 := ⟨k - 1, by omega⟩
    simp at hk h
    rw [List.all_eq_true] at ha
    have := ha (bt L[j]) (by rw [← e.2]; exact List.mem_map_of_mem (List.getElem_mem hk))
    rw [h] at this
    cases this
theorem tails_all {L : List ByteArray} (h2 : 2 ≤ L.length) (h5 : L.length ≤ 5) (h0 : bt L[0] = []) (h : ∀ j (hj : j < L.length), 1 ≤ j → nmOk (bt L[j]) = true) : tailsOk (L.map bt) = true := by
  cases L with
  | nil => simp at h2
  | cons x L =>
    simp at h2 h5 h0
    refine tailsOk_iff.2 ⟨L.map bt, by simp [h0], by simp; omega, by simp; omega, ?_⟩
    rw [List.all_eq_true]
    intro y hy
    obtain ⟨z, hz, rfl⟩ := List.mem_map.1 hy
    obtain ⟨j, hj, rfl⟩ := List.mem_iff_getElem.1 hz
    have := h (j + 1) (by simp; omega) (by omega)
    simpa using this

/-- The cell of a row that can be read. -/
theorem RdS.cellS {w : World} {a : Option Addr} {l : List ByteArray} (h : RdS w a l) (k : Nat) (hk : k < l.length) : ∃ b off, a = some ⟨b, off, none⟩ ∧ b < w.heap.size ∧ w.cell? ⟨b, off + k, none⟩ = some (.string l[k]) := by
  rcases h with rfl | ⟨b, off, rfl, hlt, hc⟩
  · simp at hk
  · exact ⟨b, off, rfl, hlt, hc k hk⟩

set_option maxRecDepth 20000 in
set_option maxHeartbeats 1000000 in
theorem specPath (s : ByteArray) (w : World) (hs : s.size ≤ 4194304) :
    Calls Tryd.prog 30 #[.string s] w fun e w' => e = .returned (.bool (ptOk (bt s))) ∧ Below w.heap.size w w' := by
  by_cases hr : bt s = [47]
  · have hst : (s.toList == [47]) = true := lit_same hr
    have HE : Hid (ptOk (bt s) = true) := by show _ = _; rw [hr]; exact ptOk_root
    go_enter Tryd.func30, Tryd.ntmps30
    go_wp2
    go_ret
    exact ⟨by rw [HE.out]; rfl, Below.refl _ _⟩
  have hst : (s.toList == [47]) = false := lit_other hr
  have HE : Hid (ptOk (bt s) = tailsOk ((parts s 47).map bt)) := by show _ = _; rw [parts_cut]; simp [ptOk, hr]
  have hlen : (parts s 47).length ≤ 4194305 := by have := (pst_le s 47 (s.size + 1)).2; unfold parts; omega
  clear hr
  go_enter Tryd.func30, Tryd.ntmps30
  go_wp2_with fail
  refine (specParts s 47 _ hs).mono ?_
  rintro e w1 ⟨v1, rfl, ho1, hb1⟩
  obtain ⟨a, cap, rfl, _, hr1⟩ := own_rdS ho1
  have HC : Hid (∀ k (hk : k < (parts s 47).length), ∃ b off, a = some ⟨b, off, none⟩ ∧ b < w1.heap.size ∧ w1.cell? ⟨b, off + k, none⟩ = some (.string (parts s 47)[k])) := fun k hk => hr1.cellS k hk
  clear ho1 hr1
  generalize parts s 47 = L at *
  by_cases h25 : 2 ≤ L.length ∧ L.length ≤ 5
  · obtain ⟨h2, h5⟩ := h25
    have hin : (decide ((2 : Int) ≤ (L.length : Int)) && decide ((L.length : Int) ≤ 5)) = true := by simp; omega
    obtain ⟨b, off, rfl, hblt, hcell⟩ := HC.out 0 (by omega)
    have HT0 : Hid (¬ bt L[0] = [] → tailsOk (L.map bt) = false) := tails_head (by omega)
    have HTA : Hid (bt L[0] = [] → (∀ j (hj : j < L.length), 1 ≤ j → nmOk (bt L[j]) = true) → tailsOk (L.map bt) = true) := tails_all h2 h5
    have HTB : Hid (∀ k (hk : k < L.length), 1 ≤ k → nmOk (bt L[k]) = false → tailsOk (L.map bt) = false) := fun k hk h1 h => tails_bad hk h1 h
    have hcell' : w1.cell? ⟨b, off, none⟩ = some (.string L[0]) := hcell
    clear hcell
    generalize L[0] = x at *
    by_cases hx : bt x = []
    · have hxl : (x.toList == []) = true := lit_same hx
      go_wp2_with (go_at_call 40; refine (inW _ _ _ _).mono ?_; rintro e w2 ⟨rfl, hw1⟩; subst w2; rw [hin])
      go_loopw [4] (fun i wr => ∃ k : Nat, 1 ≤ k ∧ k ≤ L.length ∧ i = .int .i64 k ∧ wr = w1 ∧ Hid (∀ j (hj : j < L.length), 1 ≤ j → j < k → nmOk (bt L[j]) = true)) (fun i _ => L.length - (intOf i).toNat)
      case atStart => exact ⟨1, Nat.le_refl _, by omega, rfl, rfl, fun j hj h1 h2 => by omega⟩
      case round =>
        obtain ⟨k, hk1, hk, rfl, hwr, HA⟩ := hrel
        subst hwr
        by_cases hlt : k < L.length
        · obtain ⟨b', off', hbo, _, hck⟩ := HC.out k hlt
          simp at hbo
          obtain ⟨rfl, rfl⟩ := hbo
          have HB : Hid (nmOk (bt L[k]) = false → tailsOk (L.map bt) = false) := HTB.out k hlt hk1
          have HN : Hid (nmOk (bt L[k]) = true → ∀ j (hj : j < L.length), 1 ≤ j → j < k + 1 → nmOk (bt L[j]) = true) := by
            intro h j hj h1 h2
            by_cases e : j = k
            · subst e; exact h
            · exact HA.out j hj h1 (by omega)
          generalize L[k] = y at *
          cases hy : nmOk (bt y) with
          | true =>
            go_wp2_with (go_at_call 55; refine (specName _ _).mono ?_; rintro e w2 ⟨rfl, hw1⟩; subst w2; rw [hy])
            go_roundw
            case rel => exact ⟨k + 1, by omega, by omega, by go_num, by trivial, HN.out hy⟩
            case measure => simp [intOf]; omega
          | false =>
            go_wp2_with (go_at_call 55; refine (specName _ _).mono ?_; rintro e w2 ⟨rfl, hw1⟩; subst w2; rw [hy])
            go_ret
            exact ⟨by rw [HE.out, HB.out hy]; rfl, hb1⟩
        · obtain rfl : k = L.length := by omega
          have HT := HTA.out hx (fun j hj h1 => HA.out j hj h1 hj)
          have HT' : Hid (tailsOk (L.map bt) = true) := HT
          clear HT
          go_wp2
          go_ret
          exact ⟨by rw [HE.out, HT'.out]; rfl, hb1⟩
    · have hxl : (x.toList == []) = false := lit_other hx
      have HF : Hid (tailsOk (L.map bt) = false) := HT0.out hx
      go_wp2_with (go_at_call 40; refine (inW _ _ _ _).mono ?_; rintro e w2 ⟨rfl, hw1⟩; subst w2; rw [hin])
      go_ret
      exact ⟨by rw [HE.out, HF.out]; rfl, hb1⟩
  · have hin : (decide ((2 : Int) ≤ (L.length : Int)) && decide ((L.length : Int) ≤ 5)) = false := by simp; omega
    have HF : Hid (tailsOk (L.map bt) = false) := tails_len h25
    go_wp2_with (go_at_call 40; refine (inW _ _ _ _).mono ?_; rintro e w2 ⟨rfl, hw1⟩; subst w2; rw [hin])
    go_ret
    exact ⟨by rw [HE.out, HF.out]; rfl, hb1⟩
end Go.Proofs.YthfgfhbinggpfaaDoor

/-
  Own text: the names of a path: a new row of its names, the program's and the other one's.
-/
namespace Go.Proofs.YthfgfhbinggpfaaDoor
open Go.RowKit

/-- The names of a path, as texts. -/
def nmT (s : ByteArray) : List ByteArray := (nms (bt s)).map tx
theorem nmT_len (s : ByteArray) : (nmT s).length = (nms (bt s)).length := by simp [nmT]
theorem nmT_le (s : ByteArray) : (nmT s).length ≤ 4 := by rw [nmT_len]; exact (nms_all (bt s)).1
theorem nmT_bt (s : ByteArray) : (nmT s).map bt = nms (bt s) := by
  unfold nmT
  rw [List.map_map, show bt ∘ tx = id from funext bt_tx, List.map_id]
theorem nmT_none {s : ByteArray} (h : nms (bt s) = []) : nmT s = [] := by simp [nmT, h]
theorem map_tx {l : List ByteArray} {q : List (List UInt8)} (h : l.map bt = q) : l = q.map tx := by
  rw [← h, List.map_map, show tx ∘ bt = id from funext tx_bt, List.map_id]

theorem own_cap {w : World} {base : Nat} {e : TypeId} {a : Option Addr} {m cap n : Nat} {xs : List Value} (h : w.ownsRow base e 1 (.slice a m cap) n xs) : n ≤ cap := by
  rcases h.2 with ⟨_, h0⟩ | ⟨g, cap', cur, hv, _, _, hn, _⟩
  · omega
  · cases hv; exact hn

theorem src_rdS {w : World} {a : Option Addr} {l : List ByteArray} (cap : Nat) (h : RdS w a l) : Src Tryd.prog 1 23 (.slice a l.length cap) l.length (l.map Value.string) w := by
  cases a with
  | none =>
    rcases h with rfl | ⟨b, off, h, _⟩
    · exact Src.ofNil w Tryd.underlying23 cap
    · cases h
  | some x =>
    refine Src.ofSlice w Tryd.underlying23 x l.length cap _ (by simp) ?_ ?_
    · intro j u hj
      rcases h with rfl | ⟨b, off, h, hlt, hc⟩
      · simp at hj
      · cases h
        rw [List.getElem?_map] at hj
        obtain ⟨y, hy, rfl⟩ := Option.map_eq_some_iff.1 hj
        obtain ⟨hj', rfl⟩ := List.getElem?_eq_some_iff.1 hy
        have := hc j hj'
        rw [Go.WideShapes.add_plain]
        exact this
    · intro u hu
      obtain ⟨y, _, rfl⟩ := List.mem_map.1 hu
      rfl

set_option maxRecDepth 20000 in
set_option maxHeartbeats 400000 in
theorem copyS (a : Option Addr) (cap : Nat) (l : List ByteArray) (w : World) (hl : l.length ≤ 4194305) (hr : RdS w a l) :
    Calls Tryd.prog 57 #[.slice a l.length cap] w fun e w' => ∃ v, e = .returned v ∧ w'.ownsRow w.heap.size 9 1 v l.length (l.map Value.string) ∧ Below w.heap.size w w' := by
  obtain ⟨i0, hi, hz0, hz1, hz2⟩ := info_parts Tryd.infoStr
  have ho0 : (w.alloc (.cells #[] 9)).ownsRow w.heap.size 9 1 (.slice (some ⟨w.heap.size, 0, none⟩) 0 0) 0 [] := World.ownsRow_made w #[] 0 (Nat.le_refl _) (Nat.zero_le _) rfl
  have hb0 : Below w.heap.size w (w.alloc (.cells #[] 9)) := (Below.refl _ _).alloc (Nat.le_refl _) _
  have HR : Hid (RdS (w.alloc (.cells #[] 9)) a l) := hr.below hb0 (Nat.le_refl _)
  clear hr
  go_enter Tryd.func57, Tryd.ntmps57
  go_wp2_with (at_builtin; refine wpList_append_own_src _ rfl _ _ 23 23 rfl w.heap.size 9 i0 (.string ⟨#[]⟩) 1 16 Tryd.underlying23 hi hz0 hz1 hz2 rfl _ _ _ rfl ho0 _ l.length (l.map Value.string) rfl (src_rdS cap HR.out) (by unfold maxLen; omega) (by omega) hb0.size ?_)
  intro v' w2 ho2 hg2
  have hb2 : Below w.heap.size w w2 := hb0.grown hg2 hb0.size (fun k hk => (ho0.lt k hk).1)
  clear hg2
  go_wp2
  go_ret
  exact ⟨_, rfl, by simpa using ho2, hb2⟩

theorem tail_path {s : ByteArray} (h : ptOk (bt s) = true) (hr : ¬ bt s = [47]) : parts (s.extract 1 s.size) 47 = nmT s ∧ (parts s 47).length = (nmT s).length + 1 ∧ (parts s 47).tail = nmT s ∧ 1 ≤ s.size ∧ 1 ≤ (nmT s).length := by
  obtain ⟨hc, hj, h1, _, _⟩ := pt_names h hr
  have h1' : 1 ≤ (nmT s).length := by rw [nmT_len]; exact h1
  have hp : parts s 47 = tx [] :: nmT s := by rw [parts_tx, hc]; rfl
  refine ⟨?_, by rw [hp]; simp, by rw [hp]; rfl, ?_, h1'⟩
  · rw [parts_tx, bt_extract, List.take_of_length_le (by rw [bt_len]; exact Nat.le_refl _)]
    show _ = (nms (bt s)).map tx
    congr 1
    cases hb : bt s with
    | nil => rw [hb] at hc h1; simp [cutL] at hc; rw [hc] at h1; simp at h1
    | cons b t =>
      by_cases h47 : b = 47
      · rw [hb, h47, cutL_slash] at hc
        simp at hc
        rw [h47]
        simp [hc]
      · obtain ⟨x, r, e⟩ := cutL_cons t
        rw [hb, cutL_step h47 e] at hc
        simp at hc
  · rw [← bt_len]; exact (pt_len h).1

set_option maxRecDepth 20000 in
set_option maxHeartbeats 400000 in
theorem implNames (s : ByteArray) (w : World) (hs : s.size ≤ 4194304) :
    Calls Tryd.prog 77 #[.string s] w fun e w' => ∃ v, e = .returned v ∧ w'.ownsRow w.heap.size 9 1 v (nmT s).length ((nmT s).map Value.string) ∧ Below w.heap.size w w' := by
  by_cases hr : bt s = [47]
  · have hst : (s.toList == [47]) = true := lit_same hr
    have HN : Hid (nmT s = []) := nmT_none (by rw [hr]; exact nms_root)
    go_enter Tryd.func77, Tryd.ntmps77
    go_wp2
    go_ret
    exact ⟨_, rfl, by rw [HN.out]; exact World.ownsRow_nil _ _ _ _, Below.refl _ _⟩
  have hst : (s.toList == [47]) = false := lit_other hr
  cases hp : ptOk (bt s) with
  | false =>
    have HN : Hid (nmT s = []) := nmT_none (nms_not hp)
    go_enter Tryd.func77, Tryd.ntmps77
    go_wp2_with (go_at_call 33; refine (implPath _ _ hs).mono ?_; rintro e w1 ⟨rfl, hb1⟩; rw [hp])
    go_ret
    exact ⟨_, rfl, by rw [HN.out]; exact World.ownsRow_nil _ _ _ _, hb1⟩
  | true =>
    obtain ⟨ht, _, _, h1, _⟩ := tail_path hp hr
    have HT : Hid (parts (s.extract 1 s.size) 47 = nmT s) := ht
    have hsz : (s.extract 1 s.size).size ≤ 4194304 := by have := extract_size_le s 1 s.size (Nat.le_refl _); omega
    clear ht hr
    have hsl : ∀ W, (Instr.slice 9 (.string s) (some (.int .i64 1)) none none).run Tryd.prog W = .ok (.string (s.extract 1 s.size)) W := fun W => by
      rw [run_slice_string_from_if (P := Tryd.prog) W 9 s .i64 1 Tryd.underlying9, if_pos (by omega)]
      simp
    generalize s.extract 1 s.size = q at *
    go_enter Tryd.func77, Tryd.ntmps77
    go_wp2_with (go_at_call 33; refine (implPath _ _ hs).mono ?_; rintro e w1 ⟨rfl, hb1⟩; rw [hp])
    go_wp2_with fail
    refine (implParts q 47 _ hsz).mono ?_
    rintro e w2 ⟨v2, rfl, ho2, hb2⟩
    rw [HT.out] at ho2
    go_wp2
    go_ret
    exact ⟨_, rfl, ownsRow_base ho2 hb1.size, hb1.trans (hb2.mono hb1.size)⟩

set_option maxRecDepth 20000 in
set_option maxHeartbeats 400000 in
theorem specNames (s : ByteArray) (w : World) (hs : s.size ≤ 4194304) :
    Calls Tryd.prog 32 #[.string s] w fun e w' => ∃ v, e = .returned v ∧ w'.ownsRow w.heap.size 9 1 v (nmT s).length ((nmT s).map Value.string) ∧ Below w.heap.size w w' := by
  cases hp : ptOk (bt s) with
  | false =>
    have HN : Hid (nmT s = []) := nmT_none (nms_not hp)
    go_enter Tryd.func32, Tryd.ntmps32
    go_wp2_with (go_at_call 30; refine (specPath _ _ hs).mono ?_; rintro e w1 ⟨rfl, hb1⟩; rw [hp])
    go_ret
    exact ⟨_, rfl, by rw [HN.out]; exact World.ownsRow_made w1 #[] 0 hb1.size (Nat.zero_le _) rfl, hb1.alloc hb1.size _⟩
  | true =>
    by_cases hr : bt s = [47]
    · have hst : (s.toList == [47]) = true := lit_same hr
      have HN : Hid (nmT s = []) := nmT_none (by rw [hr]; exact nms_root)
      go_enter Tryd.func32, Tryd.ntmps32
      go_wp2_with (go_at_call 30; refine (specPath _ _ hs).mono ?_; rintro e w1 ⟨rfl, hb1⟩; rw [hp])
      go_ret
      exact ⟨_, rfl, by rw [HN.out]; exact World.ownsRow_made w1 #[] 0 hb1.size (Nat.zero_le _) rfl, hb1.alloc hb1.size _⟩
    · have hst : (s.toList == [47]) = false := lit_other hr
      obtain ⟨_, hlen, htl, _, hl1⟩ := tail_path hp hr
      have hle := nmT_le s
      have HTL : Hid ((parts s 47).tail = nmT s) := htl
      clear htl hr
      go_enter Tryd.func32, Tryd.ntmps32
      go_wp2_with (go_at_call 30; refine (specPath _ _ hs).mono ?_; rintro e w1 ⟨rfl, hb1⟩; rw [hp])
      go_wp2_with fail
      refine (specParts s 47 _ hs).mono ?_
      rintro e w2 ⟨v2, rfl, ho2, hb2⟩
      obtain ⟨a, cap, rfl, _, hr2⟩ := own_rdS ho2
      have hcap : ¬ cap = 1 := by have := own_cap ho2; omega
      clear ho2
      generalize hn : nmT s = l at *
      have HNM : Hid (nmT s = l) := hn
      clear hn
      generalize hL : parts s 47 = L at *
      have hb12 : Below w.heap.size w w2 := hb1.trans (hb2.mono hb1.size)
      rcases hr2 with rfl | ⟨b, off, rfl, hlt, hc⟩
      · simp at hlen
      · have HRT : Hid (RdS w2 (some ⟨b, off + 1, none⟩) l) := by
          refine .inr ⟨b, off + 1, rfl, hlt, fun i hi => ?_⟩
          have := hc (i + 1) (by omega)
          rw [show off + 1 + i = off + (i + 1) by omega, this]
          congr 2
          have e2 := HTL.out
          subst e2
          simp
        clear hc hL HTL hb1 hb2
        go_wp2_with fail
        refine (copyS _ _ l _ (by omega) HRT.out).mono ?_
        rintro e w3 ⟨v3, rfl, ho3, hb3⟩
        go_wp2
        go_ret
        exact ⟨v3, rfl, by rw [HNM.out]; exact ownsRow_base ho3 hb12.size, hb12.trans (hb3.mono hb12.size)⟩
end Go.Proofs.YthfgfhbinggpfaaDoor

/-
  Own text: the path of names, the program's and the other one's.
-/
namespace Go.Proofs.YthfgfhbinggpfaaDoor
open Go.RowKit

/-- How many bytes names take, each with its slash. -/
def szL (l : List ByteArray) : Nat := (joinL (l.map bt)).length
theorem tx_app (a b : List UInt8) : tx a ++ tx b = tx (a ++ b) := bt_inj (by rw [bt_app, bt_tx, bt_tx, bt_tx])
theorem join_take {l : List ByteArray} {k : Nat} (h : k < l.length) : joinL ((l.take (k + 1)).map bt) = joinL ((l.take k).map bt) ++ 47 :: bt l[k] := by
  rw [List.take_succ_eq_append_getElem h, List.map_append, joinL_app]
  simp [joinL]
theorem join_le {l : List ByteArray} (k : Nat) : (joinL ((l.take k).map bt)).length ≤ szL l := by
  unfold szL
  conv => rhs; rw [← List.take_append_drop k l, List.map_append, joinL_app, List.length_append]
  omega
theorem name_size {y : ByteArray} (h : nmOk (bt y) = true) : y.size ≤ 6 := by
  rw [← bt_len]
  simp [nmOk] at h
  omega
theorem join_small {l : List ByteArray} {k : Nat} (h4 : ¬ 4 < l.length) (h : ∀ j (hj : j < l.length), j < k → nmOk (bt l[j]) = true) : (joinL ((l.take k).map bt)).length ≤ 28 := by
  have : ((l.take k).map bt).all nmOk = true := by
    rw [List.all_eq_true]
    intro y hy
    obtain ⟨z, hz, rfl⟩ := List.mem_map.1 hy
    obtain ⟨j, hj, rfl⟩ := List.mem_iff_getElem.1 hz
    simp at hj
    rw [List.getElem_take]
    exact h j (by omega) (by omega)
  have h2 := join_len this
  rw [List.length_map, List.length_take] at h2
  omega
theorem join_all (l : List ByteArray) : joinL ((l.take l.length).map bt) = joinL (l.map bt) := by rw [List.take_length]
theorem ptOf_bad {l : List ByteArray} {k : Nat} (h : k < l.length) (hb : nmOk (bt l[k]) = false) : ptOf (l.map bt) = [] := by
  unfold ptOf
  rw [if_neg (by intro e; simp at e; subst e; simp at h)]
  have : (l.map bt).all nmOk = false := by
    rw [List.all_eq_false]
    exact ⟨bt l[k], List.mem_map_of_mem (List.getElem_mem h), by simp [hb]⟩
  rw [this]
  simp
theorem ptOf_long {l : List ByteArray} (h : 4 < l.length) : ptOf (l.map bt) = [] := by
  unfold ptOf
  rw [if_neg (by intro e; simp at e; subst e; simp at h)]
  simp [show ¬ l.length ≤ 4 by omega]
theorem all_of {l : List ByteArray} (h : ∀ j (hj : j < l.length), nmOk (bt l[j]) = true) : (l.map bt).all nmOk = true := by
  rw [List.all_eq_true]
  intro y hy
  obtain ⟨z, hz, rfl⟩ := List.mem_map.1 hy
  obtain ⟨j, hj, rfl⟩ := List.mem_iff_getElem.1 hz
  exact h j hj

set_option maxRecDepth 20000 in
set_option maxHeartbeats 400000 in
theorem implPathOf (a : Option Addr) (cap : Nat) (l : List ByteArray) (w : World) (hl : l.length ≤ 4194304) (hr : RdS w a l) :
    Calls Tryd.prog 76 #[.slice a l.length cap] w fun e w' => e = .returned (.string (tx (ptOf (l.map bt)))) ∧ Below w.heap.size w w' := by
  have HC : Hid (∀ k (hk : k < l.length), ∃ b off, a = some ⟨b, off, none⟩ ∧ b < w.heap.size ∧ w.cell? ⟨b, off + k, none⟩ = some (.string l[k])) := fun k hk => hr.cellS k hk
  clear hr
  by_cases h0 : l.length = 0
  · have HE : Hid (ptOf (l.map bt) = [47]) := by
      show _ = _
      rw [List.eq_nil_of_length_eq_zero h0]; exact ptOf_nil
    rw [h0]
    go_enter Tryd.func76, Tryd.ntmps76
    go_wp2
    go_ret
    exact ⟨by rw [HE.out]; rfl, Below.refl _ _⟩
  have h0' : ¬ (l.length : Int) = 0 := by omega
  by_cases h4 : 4 < l.length
  · have HE : Hid (ptOf (l.map bt) = []) := ptOf_long h4
    have h4' : (4 : Int) < (l.length : Int) := by omega
    go_enter Tryd.func76, Tryd.ntmps76
    go_wp2
    go_ret
    exact ⟨by rw [HE.out]; rfl, Below.refl _ _⟩
  have h4' : ¬ (4 : Int) < (l.length : Int) := by omega
  go_enter Tryd.func76, Tryd.ntmps76
  go_wp2
  go_loopw [3, 14] (fun x i wr => ∃ (k : Nat) (p : ByteArray), k ≤ l.length ∧ x = .string p ∧ i = .int .i64 k ∧ Below w.heap.size w wr ∧ Hid (bt p = joinL ((l.take k).map bt)) ∧ Hid (∀ j (hj : j < l.length), j < k → nmOk (bt l[j]) = true)) (fun _ i _ => l.length - (intOf i).toNat)
  case atStart => exact ⟨0, ⟨#[]⟩, Nat.zero_le _, rfl, rfl, Below.refl _ _, by show _ = _; simp [joinL, bt], fun j hj h => by omega⟩
  case round =>
    obtain ⟨k, p, hk, rfl, rfl, hbel, HP, HA⟩ := hrel
    by_cases hlt : k < l.length
    · obtain ⟨b, off, rfl, hblt, hck⟩ := HC.out k hlt
      have hcr : wr.cell? ⟨b, off + k, none⟩ = some (.string l[k]) := (hbel.cell hblt).trans hck
      have HB : Hid (nmOk (bt l[k]) = false → ptOf (l.map bt) = []) := ptOf_bad hlt
      have HJ : Hid (joinL ((l.take (k + 1)).map bt) = joinL ((l.take k).map bt) ++ 47 :: bt l[k]) := join_take hlt
      have HN : Hid (nmOk (bt l[k]) = true → ∀ j (hj : j < l.length), j < k + 1 → nmOk (bt l[j]) = true) := by
        intro h j hj h2
        by_cases e : j = k
        · subst e; exact h
        · exact HA.out j hj (by omega)
      generalize l[k] = y at *
      clear hck
      cases hy : nmOk (bt y) with
      | true =>
        have hys := name_size hy
        have hps : p.size ≤ 28 := by rw [← bt_len, HP.out]; exact join_small h4 HA.out
        go_wp2_with (go_at_call 90; refine (implName _ _).mono ?_; rintro e w2 ⟨rfl, hb2⟩; rw [hy])
        go_roundw
        case rel => exact ⟨k + 1, p ++ (⟨#[47]⟩ ++ y), by omega, rfl, by go_num, hbel.trans (hb2.mono hbel.size), by show _ = _; rw [HJ.out, bt_app, bt_app, HP.out]; rfl, HN.out hy⟩
        case measure => simp [intOf]; omega
      | false =>
        go_wp2_with (go_at_call 90; refine (implName _ _).mono ?_; rintro e w2 ⟨rfl, hb2⟩; rw [hy])
        go_ret
        exact ⟨by rw [HB.out hy]; rfl, hbel.trans (hb2.mono hbel.size)⟩
    · obtain rfl : k = l.length := by omega
      have HE : Hid (tx (ptOf (l.map bt)) = p) := by
        show _ = _
        rw [ptOf_ok (by simp; omega) (by simp; omega) (all_of fun j hj => HA.out j hj hj), ← join_all, ← HP.out, tx_bt]
      go_wp2
      go_ret
      exact ⟨by rw [HE.out]; rfl, hbel⟩

end Go.Proofs.YthfgfhbinggpfaaDoor

/-
  Own text: the path above, and the last name, the program's and the other one's.
-/
namespace Go.Proofs.YthfgfhbinggpfaaDoor
open Go.RowKit

def abv (p : List UInt8) : List UInt8 := if ptOk p = true then ptOf (nms p).dropLast else []
def lst (p : List UInt8) : List UInt8 := (nms p).getLast?.getD []
theorem abv_not {p : List UInt8} (h : ptOk p = false) : abv p = [] := by simp [abv, h]
theorem abv_ok {s : ByteArray} (h : ptOk (bt s) = true) : abv (bt s) = ptOf ((nmT s).dropLast.map bt) := by
  rw [abv, if_pos h, ← nmT_bt, List.map_dropLast]
theorem lst_none {s : ByteArray} (h : (nmT s).length = 0) : lst (bt s) = [] := by
  unfold lst
  rw [← nmT_bt, List.eq_nil_of_length_eq_zero h]; rfl
theorem lst_some {s : ByteArray} (h : 0 < (nmT s).length) : tx (lst (bt s)) = (nmT s)[(nmT s).length - 1] := by
  unfold lst
  have hn : (nms (bt s)).length = (nmT s).length := (nmT_len s).symm
  rw [List.getLast?_eq_getElem?]
  simp only [nmT, List.getElem_map, List.length_map]
  rw [List.getElem?_eq_getElem (by omega)]
  rfl
theorem RdS.dropLast {w : World} {a : Option Addr} {l : List ByteArray} (h : RdS w a l) : RdS w a l.dropLast := by
  rcases h with rfl | ⟨b, off, ha, hlt, hc⟩
  · exact .inl rfl
  · refine .inr ⟨b, off, ha, hlt, fun i hi => ?_⟩
    rw [List.getElem_dropLast]
    exact hc i (by rw [List.length_dropLast] at hi; omega)
theorem szL_small {l : List ByteArray} (h4 : l.length ≤ 4) (h : (l.map bt).all nmOk = true) : szL l ≤ 28 := by
  have := join_len h
  unfold szL
  simp at this
  omega
theorem nmT_small (s : ByteArray) : szL (nmT s).dropLast ≤ 28 := by
  refine szL_small (by have := nmT_le s; simp; omega) ?_
  rw [List.map_dropLast, nmT_bt, List.all_eq_true]
  intro y hy
  exact List.all_eq_true.1 (nms_all (bt s)).2 y (List.dropLast_subset _ hy)

end Go.Proofs.YthfgfhbinggpfaaDoor

/-
  Own text: a path and one name more, the program's and the other one's.
-/
namespace Go.Proofs.YthfgfhbinggpfaaDoor
open Go.RowKit

def jn (p n : List UInt8) : List UInt8 := if ptOk p = true then ptOf (nms p ++ [n]) else []
theorem jn_not {p n : List UInt8} (h : ptOk p = false) : jn p n = [] := by simp [jn, h]
theorem jn_ok {s nm : ByteArray} (h : ptOk (bt s) = true) : jn (bt s) (bt nm) = ptOf ((nmT s ++ [nm]).map bt) := by
  rw [jn, if_pos h, List.map_append, nmT_bt]; rfl
theorem nmT_join (s nm : ByteArray) : szL (nmT s ++ [nm]) ≤ 29 + nm.size := by
  unfold szL
  rw [List.map_append, joinL_app, nmT_bt, List.length_append]
  have := join_len (nms_all (bt s)).2
  have h4 := (nms_all (bt s)).1
  have h1 : (joinL (List.map bt [nm])).length = 1 + nm.size := by simp [joinL, bt_len]; omega
  omega

set_option maxRecDepth 20000 in
set_option maxHeartbeats 400000 in
theorem implJoin (s nm : ByteArray) (w : World) (hs : s.size ≤ 4194304) :
    Calls Tryd.prog 51 #[.string s, .string nm] w fun e w' => e = .returned (.string (tx (jn (bt s) (bt nm)))) ∧ Below w.heap.size w w' := by
  cases hp : ptOk (bt s) with
  | false =>
    have HF : Hid (jn (bt s) (bt nm) = []) := jn_not hp
    go_enter Tryd.func51, Tryd.ntmps51
    go_wp2_with (go_at_call 33; refine (implPath _ _ hs).mono ?_; rintro e w1 ⟨rfl, hb1⟩; rw [hp])
    go_ret
    exact ⟨by rw [HF.out]; rfl, hb1⟩
  | true =>
    obtain ⟨i0, hi, hz0, hz1, hz2⟩ := info_parts Tryd.infoStr
    have HE : Hid (jn (bt s) (bt nm) = ptOf ((nmT s ++ [nm]).map bt)) := jn_ok hp
    have hle := nmT_le s
    have hsz := nmT_join s nm
    go_enter Tryd.func51, Tryd.ntmps51
    go_wp2_with (go_at_call 33; refine (implPath _ _ hs).mono ?_; rintro e w1 ⟨rfl, hb1⟩; rw [hp])
    go_wp2_with fail
    refine (implNames _ _ hs).mono ?_
    rintro e w2 ⟨v2, rfl, ho2, hb2⟩
    have ho2' := ownsRow_base ho2 hb1.size
    have hb12 : Below w.heap.size w w2 := hb1.trans (hb2.mono hb1.size)
    clear ho2 hb1 hb2
    go_wp2_with (at_builtin; refine wpList_append_own _ rfl _ _ 23 rfl w.heap.size 9 i0 (.string ⟨#[]⟩) 1 16 Tryd.underlying23 hi hz0 hz1 hz2 rfl (by decide) _ _ _ rfl (ho2'.alloc _) ⟨w2.heap.size, 0, none⟩ 1 1 [.string nm] rfl rfl ?c1 ?c2 ?c3 ?c4 ?c5 ?_)
    case c1 =>
      intro j u hj
      match j, hj with
      | 0, hj => simp at hj; subst hj; simp [Addr.add]
    case c2 => intro u hu; simp at hu; subst hu; rfl
    case c3 => unfold maxLen; omega
    case c4 => omega
    case c5 => have := hb12.size; simp; omega
    intro v' w3 hown' hgrow _
    have hb13 : Below w.heap.size w w3 := below_append hb12 hb12.size ho2' hgrow
    have ho3 : w3.ownsRow w.heap.size 9 1 v' (nmT s ++ [nm]).length ((nmT s ++ [nm]).map Value.string) := by simpa using hown'
    clear hgrow ho2' hown' hb12
    obtain ⟨a, cap, rfl, _, hr3⟩ := own_rdS ho3
    clear ho3
    have hlen : (nmT s ++ [nm]).length ≤ 5 := by simp; omega
    generalize nmT s ++ [nm] = l at *
    go_wp2_with fail
    refine (implPathOf _ _ l _ (by omega) (by exact hr3)).mono ?_
    rintro e w4 ⟨rfl, hb4⟩
    go_wp2
    go_ret
    exact ⟨by rw [HE.out]; rfl, hb13.trans (hb4.mono hb13.size)⟩

end Go.Proofs.YthfgfhbinggpfaaDoor
