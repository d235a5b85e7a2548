/-
  Own text: the two Parts functions answer a new row of the texts between such bytes, and turn nothing that was there.
-/
import Derived.Test.YtmnngfaelanbcaaStrW
import Derived.Test.YtmnngfaelanbcaaShelf
namespace Go.Proofs.Ytmnngfaelanbcaa
open Go.RowKit

/-- Does a part end at place k? -/
def hit (s : ByteArray) (c : Int) (k : Nat) : Bool := if h : k < s.size then decide ((s[k].toNat : Int) = c) else k == s.size
/-- The parts that end ahead of place k, and where the next one begins. -/
def pst (s : ByteArray) (c : Int) : Nat → List ByteArray × Nat
  | 0 => ([], 0)
  | k + 1 => if hit s c k then ((pst s c k).1 ++ [s.extract (pst s c k).2 k], k + 1) else pst s c k
def parts (s : ByteArray) (c : Int) : List ByteArray := (pst s c (s.size + 1)).1
theorem pst_hit {s : ByteArray} {c : Int} {k : Nat} (h : hit s c k = true) : pst s c (k + 1) = ((pst s c k).1 ++ [s.extract (pst s c k).2 k], k + 1) := by rw [pst, if_pos h]
theorem pst_not {s : ByteArray} {c : Int} {k : Nat} (h : hit s c k = false) : pst s c (k + 1) = pst s c k := by rw [pst, if_neg (by simp [h])]
theorem pst_le (s : ByteArray) (c : Int) : ∀ k, (pst s c k).2 ≤ k ∧ (pst s c k).1.length ≤ k
  | 0 => by simp [pst]
  | k + 1 => by
    have := pst_le s c k
    by_cases h : hit s c k = true
    · rw [pst_hit h]; simp; omega
    · rw [pst_not (by simpa using h)]; omega
theorem hit_end (s : ByteArray) (c : Int) : hit s c s.size = true := by simp [hit]
theorem hit_in {s : ByteArray} {c : Int} {k : Nat} (h : k < s.size) : hit s c k = decide ((s[k].toNat : Int) = c) := by simp [hit, h]

theorem Try.infoStr : (Try.prog.info? 9).map (fun i => (i.zero, i.size, i.bytes)) = some (some (.string ⟨#[]⟩), 1, 16) := by kernel_rfl

theorem clone (s : ByteArray) (w : World) (hs : s.size ≤ 281474976710656) :
    Calls Try.prog 50 #[.string s] w fun e w' => e = .returned (.string s) ∧ Below w.heap.size w w' := by
  go_enter Try.func50, Try.ntmps50
  go_wp2_with (go_at_call 60; refine (Try.stringslite_Clone s _ hs).mono ?_; rintro e w' ⟨rfl, hb⟩)
  go_ret
  exact ⟨rfl, hb⟩

theorem extract_size_le (s : ByteArray) (a b : Nat) (h : b ≤ s.size) : (s.extract a b).size ≤ s.size := by
  simp [ByteArray.size_extract]; omega

set_option maxRecDepth 20000 in
set_option maxHeartbeats 800000 in
theorem specParts (s : ByteArray) (c : Int) (w : World) (hs : s.size ≤ 4194304) :
    Calls Try.prog 41 #[.string s, .int .u8 c] w fun e w' => ∃ v, e = .returned v ∧ w'.ownsRow w.heap.size 9 1 v (parts s c).length ((parts s c).map Value.string) ∧ Below w.heap.size w w' := by
  obtain ⟨i0, hi, hz0, hz1, hz2⟩ := info_parts Try.infoStr
  have ho0 : (w.alloc (.cells #[] 9)).ownsRow w.heap.size 9 1 (.slice (some ⟨w.heap.size, 0, none⟩) 0 0) 0 [] := World.ownsRow_made w #[] 0 (Nat.le_refl _) (Nat.zero_le _) rfl
  have hb0 : Below w.heap.size w (w.alloc (.cells #[] 9)) := (Below.refl _ _).alloc (Nat.le_refl _) _
  go_enter Try.func41, Try.ntmps41
  go_wp2
  go_loopw [5, 6, 7] (fun v f i wr => ∃ k : Nat, k ≤ s.size + 1 ∧ i = .int .i64 k ∧ f = .int .i64 (pst s c k).2 ∧ wr.ownsRow w.heap.size 9 1 v (pst s c k).1.length ((pst s c k).1.map Value.string) ∧ Below w.heap.size w wr) (fun _ _ i _ => s.size + 1 - (intOf i).toNat)
  case atStart => exact ⟨0, Nat.zero_le _, rfl, rfl, ho0, hb0⟩
  case round =>
    obtain ⟨k, hk, rfl, rfl, hown, hbel⟩ := hrel
    have hple := pst_le s c k
    obtain ⟨hp1, hp2⟩ := hple
    have HIT : Hid (hit s c k = true → pst s c (k + 1) = ((pst s c k).1 ++ [s.extract (pst s c k).2 k], k + 1)) := pst_hit
    have HNOT : Hid (hit s c k = false → pst s c (k + 1) = pst s c k) := pst_not
    clear ho0 hb0
    by_cases hlt : k < s.size
    · have hne : ((k : Int) == (s.size : Int)) = false := by simp; omega
      by_cases hsc : (s[k].toNat : Int) = c
      · have hsc' : ((s[k].toNat : Int) == c) = true := by simpa using hsc
        have HS := HIT.out (by rw [hit_in hlt]; simpa using hsc)
        clear HIT HNOT hsc
        generalize hq : pst s c k = q at *
        obtain ⟨o, f⟩ := q
        simp only at hown hp1 hp2 HS
        have HS' := HS
        have HH : Hid (pst s c (k + 1) = (o ++ [s.extract f k], k + 1)) := HS'
        clear HS HS' hq
        have hsl : ∀ W, (Instr.slice 9 (.string s) (some (.int .i64 (f : Int))) (some (.int .i64 (k : Int))) none).run Try.prog W = .ok (.string (s.extract f k)) W := fun W => by
          have := run_slice_string (P := Try.prog) W 9 s .i64 .i64 (f : Int) (k : Int) Try.underlying9 (by omega) (by omega) (by omega)
          simpa using this
        generalize s.extract f k = part at *
        go_wp2_with (at_builtin; refine wpList_append_own _ rfl _ _ 39 rfl w.heap.size 9 i0 (.string ⟨#[]⟩) 1 16 Try.underlying39 hi hz0 hz1 hz2 rfl (by decide) _ _ _ rfl (hown.alloc _) ⟨wr.heap.size, 0, none⟩ 1 1 [.string part] rfl rfl ?c1 ?c2 ?c3 ?c4 ?c5 ?_)
        case c1 =>
          intro j u hj
          match j, hj with
          | 0, hj => simp at hj; subst hj; simp [Addr.add]
        case c2 => intro u hu; simp at hu; subst hu; rfl
        case c3 => unfold maxLen; omega
        case c4 => omega
        case c5 => have := hbel.size; simp; omega
        intro v' w1 hown' hgrow _
        have hbel' : Below w.heap.size w w1 := below_append hbel hbel.size hown hgrow
        clear hgrow hown hbel hsl
        go_wp2
        go_roundw
        case rel => exact ⟨k + 1, by omega, by go_num, by rw [HH.out]; go_num, by rw [HH.out]; simpa using hown', hbel'⟩
        case measure => simp [intOf]; omega
      · have hsc' : ((s[k].toNat : Int) == c) = false := by simpa using hsc
        have HS : Hid (pst s c (k + 1) = pst s c k) := HNOT.out (by rw [hit_in hlt]; simpa using hsc)
        clear HIT HNOT
        go_wp2
        go_roundw
        case rel => exact ⟨k + 1, by omega, by go_num, by rw [HS.out], by rw [HS.out]; exact hown, hbel⟩
        case measure => simp [intOf]; omega
    · by_cases hle : k ≤ s.size
      · have hks : k = s.size := by omega
        have HS := HIT.out (by rw [hks]; exact hit_end s c)
        have hne : ((k : Int) == (s.size : Int)) = true := by simp; omega
        clear HIT HNOT hks
        generalize hq : pst s c k = q at *
        obtain ⟨o, f⟩ := q
        simp only at hown hp1 hp2 HS
        have HH : Hid (pst s c (k + 1) = (o ++ [s.extract f k], k + 1)) := HS
        clear HS hq
        have hsl : ∀ W, (Instr.slice 9 (.string s) (some (.int .i64 (f : Int))) (some (.int .i64 (k : Int))) none).run Try.prog W = .ok (.string (s.extract f k)) W := fun W => by
          have := run_slice_string (P := Try.prog) W 9 s .i64 .i64 (f : Int) (k : Int) Try.underlying9 (by omega) (by omega) (by omega)
          simpa using this
        generalize s.extract f k = part at *
        go_wp2_with (at_builtin; refine wpList_append_own _ rfl _ _ 39 rfl w.heap.size 9 i0 (.string ⟨#[]⟩) 1 16 Try.underlying39 hi hz0 hz1 hz2 rfl (by decide) _ _ _ rfl (hown.alloc _) ⟨wr.heap.size, 0, none⟩ 1 1 [.string part] rfl rfl ?d1 ?d2 ?d3 ?d4 ?d5 ?_)
        case d1 =>
          intro j u hj
          match j, hj with
          | 0, hj => simp at hj; subst hj; simp [Addr.add]
        case d2 => intro u hu; simp at hu; subst hu; rfl
        case d3 => unfold maxLen; omega
        case d4 => omega
        case d5 => have := hbel.size; simp; omega
        intro v' w1 hown' hgrow _
        have hbel' : Below w.heap.size w w1 := below_append hbel hbel.size hown hgrow
        clear hgrow hown hbel hsl
        go_wp2
        go_roundw
        case rel => exact ⟨k + 1, by omega, by go_num, by rw [HH.out]; go_num, by rw [HH.out]; simpa using hown', hbel'⟩
        case measure => simp [intOf]; omega
      · obtain rfl : k = s.size + 1 := by omega
        clear HIT HNOT
        go_wp2
        go_ret
        exact ⟨_, rfl, hown, hbel⟩

set_option maxRecDepth 20000 in
set_option maxHeartbeats 800000 in
theorem implParts (s : ByteArray) (c : Int) (w : World) (hs : s.size ≤ 4194304) :
    Calls Try.prog 62 #[.string s, .int .u8 c] w fun e w' => ∃ v, e = .returned v ∧ w'.ownsRow w.heap.size 9 1 v (parts s c).length ((parts s c).map Value.string) ∧ Below w.heap.size w w' := by
  obtain ⟨i0, hi, hz0, hz1, hz2⟩ := info_parts Try.infoStr
  go_enter Try.func62, Try.ntmps62
  go_wp2
  go_loopw [5, 6, 7] (fun v f i wr => ∃ k : Nat, k ≤ s.size ∧ i = .int .i64 k ∧ f = .int .i64 (pst s c k).2 ∧ wr.ownsRow w.heap.size 9 1 v (pst s c k).1.length ((pst s c k).1.map Value.string) ∧ Below w.heap.size w wr) (fun _ _ i _ => s.size - (intOf i).toNat)
  case atStart => exact ⟨0, Nat.zero_le _, rfl, rfl, World.ownsRow_nil _ _ _ _, Below.refl _ _⟩
  case round =>
    obtain ⟨k, hk, rfl, rfl, hown, hbel⟩ := hrel
    have hple := pst_le s c k
    obtain ⟨hp1, hp2⟩ := hple
    have HIT : Hid (hit s c k = true → pst s c (k + 1) = ((pst s c k).1 ++ [s.extract (pst s c k).2 k], k + 1)) := pst_hit
    have HNOT : Hid (hit s c k = false → pst s c (k + 1) = pst s c k) := pst_not
    by_cases hlt : k < s.size
    · by_cases hsc : (s[k].toNat : Int) = c
      · have hsc' : ((s[k].toNat : Int) == c) = true := by simpa using hsc
        have HS := HIT.out (by rw [hit_in hlt]; simpa using hsc)
        clear HIT HNOT hsc
        generalize hq : pst s c k = q at *
        obtain ⟨o, f⟩ := q
        simp only at hown hp1 hp2 HS
        have HH : Hid (pst s c (k + 1) = (o ++ [s.extract f k], k + 1)) := HS
        clear HS hq
        have hsl : ∀ W, (Instr.slice 9 (.string s) (some (.int .i64 (f : Int))) (some (.int .i64 (k : Int))) none).run Try.prog W = .ok (.string (s.extract f k)) W := fun W => by
          have := run_slice_string (P := Try.prog) W 9 s .i64 .i64 (f : Int) (k : Int) Try.underlying9 (by omega) (by omega) (by omega)
          simpa using this
        have hpz : (s.extract f k).size ≤ 281474976710656 := by have := extract_size_le s f k hk; omega
        generalize s.extract f k = part at *
        go_wp2_with fail
        refine (clone part _ hpz).mono ?_
        rintro e w1 ⟨rfl, hbc⟩
        have ho1 := ownsRow_below hown hbc (Nat.le_refl _)
        have hb1 : Below w.heap.size w w1 := hbel.trans (hbc.mono hbel.size)
        clear hown hbel hbc
        go_wp2_with (at_builtin; refine wpList_append_own _ rfl _ _ 39 rfl w.heap.size 9 i0 (.string ⟨#[]⟩) 1 16 Try.underlying39 hi hz0 hz1 hz2 rfl (by decide) _ _ _ rfl (ho1.alloc _) ⟨w1.heap.size, 0, none⟩ 1 1 [.string part] rfl rfl ?c1 ?c2 ?c3 ?c4 ?c5 ?_)
        case c1 =>
          intro j u hj
          match j, hj with
          | 0, hj => simp at hj; subst hj; simp [Addr.add]
        case c2 => intro u hu; simp at hu; subst hu; rfl
        case c3 => unfold maxLen; omega
        case c4 => omega
        case c5 => have := hb1.size; simp; omega
        intro v' w2 hown' hgrow _
        have hbel' : Below w.heap.size w w2 := below_append hb1 hb1.size ho1 hgrow
        clear hgrow ho1 hb1 hsl
        go_wp2
        go_roundw
        case rel => exact ⟨k + 1, by omega, by go_num, by rw [HH.out]; go_num, by rw [HH.out]; simpa using hown', hbel'⟩
        case measure => simp [intOf]; omega
      · have hsc' : ((s[k].toNat : Int) == c) = false := by simpa using hsc
        have HS : Hid (pst s c (k + 1) = pst s c k) := HNOT.out (by rw [hit_in hlt]; simpa using hsc)
        clear HIT HNOT
        go_wp2
        go_roundw
        case rel => exact ⟨k + 1, by omega, by go_num, by rw [HS.out], by rw [HS.out]; exact hown, hbel⟩
        case measure => simp [intOf]; omega
    · obtain rfl : k = s.size := by omega
      have HS := HIT.out (hit_end s c)
      clear HIT HNOT
      generalize hq : pst s c s.size = q at *
      obtain ⟨o, f⟩ := q
      simp only at hown hp1 hp2 HS
      have HH : Hid (parts s c = o ++ [s.extract f s.size]) := by show (pst s c (s.size + 1)).1 = _; rw [HS]
      clear HS hq
      have hsl : ∀ W, (Instr.slice 9 (.string s) (some (.int .i64 (f : Int))) none none).run Try.prog W = .ok (.string (s.extract f s.size)) W := fun W => by
        rw [run_slice_string_from_if (P := Try.prog) W 9 s .i64 (f : Int) Try.underlying9, if_pos (by omega)]
        simp
      have hpz : (s.extract f s.size).size ≤ 281474976710656 := by have := extract_size_le s f s.size (Nat.le_refl _); omega
      generalize s.extract f s.size = part at *
      go_wp2_with fail
      refine (clone part _ hpz).mono ?_
      rintro e w1 ⟨rfl, hbc⟩
      have ho1 := ownsRow_below hown hbc (Nat.le_refl _)
      have hb1 : Below w.heap.size w w1 := hbel.trans (hbc.mono hbel.size)
      clear hown hbel hbc
      go_wp2_with (at_builtin; refine wpList_append_own _ rfl _ _ 39 rfl w.heap.size 9 i0 (.string ⟨#[]⟩) 1 16 Try.underlying39 hi hz0 hz1 hz2 rfl (by decide) _ _ _ rfl (ho1.alloc _) ⟨w1.heap.size, 0, none⟩ 1 1 [.string part] rfl rfl ?d1 ?d2 ?d3 ?d4 ?d5 ?_)
      case d1 =>
        intro j u hj
        match j, hj with
        | 0, hj => simp at hj; subst hj; simp [Addr.add]
      case d2 => intro u hu; simp at hu; subst hu; rfl
      case d3 => unfold maxLen; omega
      case d4 => omega
      case d5 => have := hb1.size; simp; omega
      intro v' w2 hown' hgrow _
      have hbel' : Below w.heap.size w w2 := below_append hb1 hb1.size ho1 hgrow
      clear hgrow ho1 hb1 hsl
      go_wp2
      go_ret
      refine ⟨_, rfl, ?_, hbel'⟩
      rw [HH.out]
      simpa using hown'
end Go.Proofs.Ytmnngfaelanbcaa
