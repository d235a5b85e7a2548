/-
  Own text: what FnEntries draws.
-/
import Derived.Test.YtogpgocldgdeaaaDoorEntDW
namespace Go.Proofs.YtogpgocldgdeaaaDoor
open Go.RowKit

theorem dig_size (K : Nat) : (⟨(dec 20 K).toArray⟩ : ByteArray).size ≤ 20 := by
  have := dec_len 20 K
  simpa [ByteArray.size] using this

set_option maxRecDepth 20000 in
set_option maxHeartbeats 4000000 in
theorem draw8 (P : Nat) (x : Option Addr) (cap : Nat) (l : List Int) (w : World) (hd : Drw w P x cap l) :
    Calls Tryd.prog 19 #[.pointer (some ⟨P, 0, none⟩)] w fun e w' => ∃ v D, e = .returned v ∧ szEn D ≤ 300 ∧ RowD w.heap.size w' v D ∧ Drw w' P x cap l ∧ OnlyP P w w' := by
  obtain ⟨i0, hi, hz0, hz1, hz2⟩ := info_parts Tryd.infoEnt
  have hlt := hd.lt
  go_enter Tryd.func19, Tryd.ntmps19
  go_wp2_with fail
  refine (right8 P x cap l _ hd).mono ?_
  rintro e w1 ⟨v, D, rfl, hsz, hrow1, hd1, ho1⟩
  go_wp2_with fail
  refine (belowO P x cap l 10 _ hd1 (by omega) (by omega)).mono ?_
  rintro e w2 ⟨r, rfl, hr, hd2, hp2⟩
  have HI : Hid (szEn D ≤ 42 ∧ RowD w.heap.size w2 v D ∧ OnlyP P w w2) := ⟨hsz, hrow1.onlyP hp2 hlt, ho1.trans hp2⟩
  clear hsz hrow1 hd1 ho1 hp2 hd
  by_cases h0 : r = 0
  · subst h0
    have hd3 := hd2.alloc (.cells #[.string ⟨#[122, 122]⟩, .string ⟨#[65]⟩, .string ⟨#[]⟩, .string ⟨#[97]⟩] 9)
    have HCL : Hid (∀ j, j < ([⟨#[122, 122]⟩, ⟨#[65]⟩, ⟨#[]⟩, ⟨#[97]⟩] : List ByteArray).length → (w2.alloc (.cells #[.string ⟨#[122, 122]⟩, .string ⟨#[65]⟩, .string ⟨#[]⟩, .string ⟨#[97]⟩] 9)).cell? ⟨w2.heap.size, j, none⟩ = some (.string (([⟨#[122, 122]⟩, ⟨#[65]⟩, ⟨#[]⟩, ⟨#[97]⟩] : List ByteArray).getD j ⟨#[]⟩))) := fun j hj => cells_list _ Value.string ⟨#[]⟩ w2 _ _ rfl j hj
    have HI3 : Hid (szEn D ≤ 42 ∧ RowD w.heap.size (w2.alloc (.cells #[.string ⟨#[122, 122]⟩, .string ⟨#[65]⟩, .string ⟨#[]⟩, .string ⟨#[97]⟩] 9)) v D ∧ OnlyP P w (w2.alloc (.cells #[.string ⟨#[122, 122]⟩, .string ⟨#[65]⟩, .string ⟨#[]⟩, .string ⟨#[97]⟩] 9))) := ⟨HI.out.1, HI.out.2.1.below (below1 w2 _), HI.out.2.2.trans (onlyP_new (below1 w2 _))⟩
    have hl2 := hd2.lt
    clear HI hd2
    go_wp2_with fail
    refine (pickO P w2.heap.size x cap l [⟨#[122, 122]⟩, ⟨#[65]⟩, ⟨#[]⟩, ⟨#[97]⟩] _ hd3 4 rfl (by omega) (by omega) (by omega) HCL.out).mono ?_
    rintro e w4 ⟨s, hs, rfl, hd4, hp4⟩
    have hs6 : s.size ≤ 2 := by
      simp only [List.mem_cons, List.not_mem_nil, or_false] at hs
      rcases hs with rfl | rfl | rfl | rfl <;> decide
    have HI4 : Hid (szEn D ≤ 42 ∧ RowD w.heap.size w4 v D ∧ OnlyP P w w4) := ⟨HI3.out.1, HI3.out.2.1.onlyP hp4 hlt, HI3.out.2.2.trans hp4⟩
    clear hs HCL HI3 hd3 hp4
    have hd5 := hd4.alloc (.cells #[.int .i64 0, .int .i64 10, .int .i64 5, .int .i64 (-1), .int .i64 9223372036854775807] 3)
    have HCI : Hid (∀ j, j < List.length ([0, 10, 5, (-1), 9223372036854775807] : List Int) → (w4.alloc (.cells #[.int .i64 0, .int .i64 10, .int .i64 5, .int .i64 (-1), .int .i64 9223372036854775807] 3)).cell? ⟨w4.heap.size, j, none⟩ = some (.int .i64 (([0, 10, 5, (-1), 9223372036854775807] : List Int).getD j 0))) := fun j hj => cells_list _ (Value.int .i64) 0 w4 _ _ rfl j hj
    have HI5 : Hid (szEn D ≤ 42 ∧ RowD w.heap.size (w4.alloc (.cells #[.int .i64 0, .int .i64 10, .int .i64 5, .int .i64 (-1), .int .i64 9223372036854775807] 3)) v D ∧ OnlyP P w (w4.alloc (.cells #[.int .i64 0, .int .i64 10, .int .i64 5, .int .i64 (-1), .int .i64 9223372036854775807] 3))) := ⟨HI4.out.1, HI4.out.2.1.below (below1 w4 _), HI4.out.2.2.trans (onlyP_new (below1 w4 _))⟩
    have hl4 := hd4.lt
    clear HI4 hd4
    go_wp2_with fail
    refine (pickIntO P w4.heap.size x cap l [0, 10, 5, (-1), 9223372036854775807] _ hd5 5 rfl (by omega) (by omega) (by omega) HCI.out).mono ?_
    rintro e w6 ⟨m, _, rfl, hd6, hp6⟩
    have HI6 : Hid (szEn D ≤ 42 ∧ RowD w.heap.size (w6.alloc (.cells #[.string s, .int .i64 m] 32)) v D ∧ OnlyP P w (w6.alloc (.cells #[.string s, .int .i64 m] 32))) := ⟨HI5.out.1, (HI5.out.2.1.onlyP hp6 hlt).below (below1 w6 _), (HI5.out.2.2.trans hp6).trans (onlyP_new (below1 w6 _))⟩
    have hd7 := hd6.alloc (.cells #[.string s, .int .i64 m] 32)
    have HS : Hid (Src Tryd.prog 2 24 (.slice (some ⟨w6.heap.size, 0, none⟩) 1 1) 1 [.string s, .int .i64 m] (w6.alloc (.cells #[.string s, .int .i64 m] 32))) := srcEnOne w6 s m
    have hDl : D.length ≤ 42 := Nat.le_trans (szEn_len D) HI6.out.1
    have hsz6 := HI6.out.2.2.size
    clear HI5 HCI hd5 hp6 hd6
    go_wp2_with (at_builtin; refine wpList_append_own_src _ rfl (.tmp 11) (.tmp 19) 24 24 rfl w.heap.size 32 i0 _ 2 24 Tryd.underlying24 hi hz0 hz1 hz2 rfl v D.length _ rfl HI6.out.2.1 _ 1 [.string s, .int .i64 m] rfl HS.out (by unfold maxLen; omega) (by omega) hsz6 ?_)
    intro v8 w8 ho8 hg8
    have hOn : Only (fun k => w.heap.size ≤ k) (w6.alloc (.cells #[.string s, .int .i64 m] 32)) w8 := (Only.of_grown hg8).mono fun k _ hk => (HI6.out.2.1.lt k hk).1
    have HI8 : Hid (szEn (D ++ [(s, m)]) ≤ 300 ∧ RowD w.heap.size w8 v8 (D ++ [(s, m)]) ∧ Drw w8 P x cap l ∧ OnlyP P w w8) := by
      refine ⟨?_, ?_, hd7.only hOn (fun k hk h => by omega), onlyP_row HI6.out.2.2 (Nat.le_refl _) hOn⟩
      · have := HI6.out.1
        rw [szEn_app]
        show szEn D + szEn [(s, m)] ≤ 300
        have : szEn [(s, m)] = 1 + s.size := by simp [szEn]
        omega
      · unfold RowD
        rw [List.length_append, List.flatMap_append]
        exact ho8
    clear ho8 hg8 hOn HI6 HS hd7
    go_wp2
    go_ret
    exact ⟨_, _, rfl, HI8.out⟩
  have hn0 : ¬ (r : Int) = 0 := by omega
  by_cases h1 : r = 1
  · subst h1
    by_cases hlen : 1 < D.length
    · obtain ⟨g, cp, rfl, hbg, c2, c3, c0, c1, f0, f1, hR⟩ := rowD_two HI.out.2.1 hlen
      obtain ⟨o0, c0⟩ := Option.isSome_iff_exists.1 c0
      obtain ⟨o1, c1⟩ := Option.isSome_iff_exists.1 c1
      have hlI : (1 : Int) < (D.length : Int) := by omega
      have hOn : Only (fun k => w.heap.size ≤ k) w2 ((w2.setCell ⟨g, 0, none⟩ (.string (D[1]).1)).setCell ⟨g, 1, none⟩ (.int .i64 (D[1]).2)) := ((Only.refl _ _).setCell (p := ⟨g, 0, none⟩) hbg _).setCell (p := ⟨g, 1, none⟩) hbg _
      have HI8 : Hid (szEn (D.set 0 D[1]) ≤ 300 ∧ RowD w.heap.size ((w2.setCell ⟨g, 0, none⟩ (.string (D[1]).1)).setCell ⟨g, 1, none⟩ (.int .i64 (D[1]).2)) (.slice (some ⟨g, 0, none⟩) D.length cp) (D.set 0 D[1]) ∧ Drw ((w2.setCell ⟨g, 0, none⟩ (.string (D[1]).1)).setCell ⟨g, 1, none⟩ (.int .i64 (D[1]).2)) P x cap l ∧ OnlyP P w ((w2.setCell ⟨g, 0, none⟩ (.string (D[1]).1)).setCell ⟨g, 1, none⟩ (.int .i64 (D[1]).2))) := by
        refine ⟨?_, hR, hd2.only hOn (fun k hk h => by omega), onlyP_row HI.out.2.2 (Nat.le_refl _) hOn⟩
        have h1 := szEn_set D 0 D[1]
        have h2 := szEn_mem (List.getElem_mem hlen)
        have h3 := HI.out.1
        omega
      clear hR hOn HI hd2
      generalize D.set 0 D[1] = D2 at *
      generalize (D[1]).1 = t at *
      generalize (D[1]).2 = m at *
      go_wp2
      go_ret
      exact ⟨_, _, rfl, HI8.out⟩
    · have hlI : ¬ (1 : Int) < (D.length : Int) := by omega
      obtain ⟨av, cv, rfl⟩ : ∃ av cv, v = .slice av D.length cv := by
        rcases HI.out.2.1.2 with ⟨rfl, h0⟩ | ⟨g, cap, cur, rfl, _⟩
        · exact ⟨none, 0, by rw [h0]⟩
        · exact ⟨_, _, rfl⟩
      go_wp2
      go_ret
      exact ⟨_, D, rfl, by have := HI.out.1; omega, HI.out.2.1, hd2, HI.out.2.2⟩
  have hn1 : ¬ (r : Int) = 1 := by omega
  by_cases h2 : r = 2
  · subst h2
    have ho2 := HI.out.2.2
    have HR0 : Hid (RowD w.heap.size w2 (.slice none 0 0) []) := World.ownsRow_nil _ _ _ _
    clear HI
    go_wp2
    go_loopw [3, 4] (fun v i wr => ∃ (k : Nat) (v' : Value) (D : List EntD), v' = v ∧ 1 ≤ k ∧ k ≤ 10 ∧ i = .int .i64 k ∧ Hid (szEn D ≤ 26 * k ∧ RowD w.heap.size wr v' D ∧ OnlyP P w wr) ∧ Drw wr P x cap l) (fun _ i _ => 10 - (intOf i).toNat)
    case atStart => exact ⟨1, _, [], rfl, by omega, by omega, rfl, ⟨by simp [szEn], HR0.out, ho2⟩, hd2⟩
    case round =>
      clear HR0 ho2 hd2
      obtain ⟨k, v', D', rfl, hk1, hk10, rfl, HJ, hdr⟩ := hrel
      by_cases hlt9 : k < 10
      · go_wp2_with fail
        refine (specDigPos k _ (by omega) (by omega)).mono ?_
        rintro e w3 ⟨rfl, hb3⟩
        have hT := dig_size k
        generalize (⟨(dec 20 k).toArray⟩ : ByteArray) = T at *
        have hts : ((⟨#[115, 105, 120, 115, 105]⟩ : ByteArray) ++ T).size ≤ 25 := by
          rw [ByteArray.size_append]
          have : (⟨#[115, 105, 120, 115, 105]⟩ : ByteArray).size = 5 := rfl
          omega
        have HJ3 : Hid (szEn D' ≤ 26 * k ∧ RowD w.heap.size (w3.alloc (.cells #[.string ((⟨#[115, 105, 120, 115, 105]⟩ : ByteArray) ++ T), .int .i64 (k : Int)] 32)) v' D' ∧ OnlyP P w (w3.alloc (.cells #[.string ((⟨#[115, 105, 120, 115, 105]⟩ : ByteArray) ++ T), .int .i64 (k : Int)] 32))) := ⟨HJ.out.1, (HJ.out.2.1.below hb3).below (below1 w3 _), (HJ.out.2.2.trans (onlyP_new hb3)).trans (onlyP_new (below1 w3 _))⟩
        have hd4 : Drw (w3.alloc (.cells #[.string ((⟨#[115, 105, 120, 115, 105]⟩ : ByteArray) ++ T), .int .i64 (k : Int)] 32)) P x cap l := (hdr.far hb3 hdr.lt).alloc _
        have HS : Hid (Src Tryd.prog 2 24 (.slice (some ⟨w3.heap.size, 0, none⟩) 1 1) 1 [.string ((⟨#[115, 105, 120, 115, 105]⟩ : ByteArray) ++ T), .int .i64 (k : Int)] (w3.alloc (.cells #[.string ((⟨#[115, 105, 120, 115, 105]⟩ : ByteArray) ++ T), .int .i64 (k : Int)] 32))) := srcEnOne w3 _ _
        have hDl : D'.length ≤ 260 := Nat.le_trans (szEn_len D') (by have := HJ3.out.1; omega)
        have hsz6 := HJ3.out.2.2.size
        clear HJ hdr hb3
        go_wp2_with (at_builtin; refine wpList_append_own_src _ rfl (.tmp 37) (.tmp 43) 24 24 rfl w.heap.size 32 i0 _ 2 24 Tryd.underlying24 hi hz0 hz1 hz2 rfl v' D'.length _ rfl HJ3.out.2.1 _ 1 [.string ((⟨#[115, 105, 120, 115, 105]⟩ : ByteArray) ++ T), .int .i64 (k : Int)] rfl HS.out (by unfold maxLen; omega) (by omega) hsz6 ?_)
        intro v8 w8 ho8 hg8
        have hOn : Only (fun k => w.heap.size ≤ k) (w3.alloc (.cells #[.string ((⟨#[115, 105, 120, 115, 105]⟩ : ByteArray) ++ T), .int .i64 (k : Int)] 32)) w8 := (Only.of_grown hg8).mono fun k _ hk => (HJ3.out.2.1.lt k hk).1
        have HJ8 : Hid (szEn (D' ++ [((⟨#[115, 105, 120, 115, 105]⟩ : ByteArray) ++ T, (k : Int))]) ≤ 26 * (k + 1) ∧ RowD w.heap.size w8 v8 (D' ++ [((⟨#[115, 105, 120, 115, 105]⟩ : ByteArray) ++ T, (k : Int))]) ∧ OnlyP P w w8) := by
          refine ⟨?_, ?_, onlyP_row HJ3.out.2.2 (Nat.le_refl _) hOn⟩
          · have h7 := HJ3.out.1
            rw [szEn_app]
            have : szEn [((⟨#[115, 105, 120, 115, 105]⟩ : ByteArray) ++ T, (k : Int))] = 1 + ((⟨#[115, 105, 120, 115, 105]⟩ : ByteArray) ++ T).size := by simp [szEn]
            omega
          · unfold RowD
            rw [List.length_append, List.flatMap_append]
            exact ho8
        have hd8 : Drw w8 P x cap l := hd4.only hOn (fun k hk h => by omega)
        clear ho8 hg8 hOn HJ3 HS hd4
        go_wp2
        go_roundw
        case rel => exact ⟨k + 1, _, _, rfl, by omega, by omega, by go_num, HJ8, hd8⟩
        case measure => simp [intOf]; omega
      · go_wp2
        go_ret
        exact ⟨_, D', rfl, by have := HJ.out.1; omega, HJ.out.2.1, hdr, HJ.out.2.2⟩
  · have hn2 : ¬ (r : Int) = 2 := by omega
    go_wp2
    go_ret
    exact ⟨_, D, rfl, by have := HI.out.1; omega, HI.out.2.1, hd2, HI.out.2.2⟩

set_option maxRecDepth 20000 in
set_option maxHeartbeats 2000000 in
theorem drawAdd (x : Option Addr) (cap : Nat) (l : List Int) (w : World) (hl : l.length ≤ 1048576) (hu : U8 l) (hr : Rd .u8 w x l) :
    Calls Tryd.prog 6 #[.slice x l.length cap] w fun e w' => ∃ v D s m, e = .returned (.tuple #[v, .string s, .int .i64 m]) ∧ szEn D ≤ 300 ∧ s.size ≤ 2 ∧ RowD w.heap.size w' v D ∧ Below w.heap.size w w' := by
  go_enter Tryd.func6, Tryd.ntmps6
  go_wp2_with fail
  refine (newD x cap l _ hl hu hr).mono ?_
  rintro e w1 ⟨P, rfl, hP, hd1, hb1⟩
  go_wp2_with fail
  refine (draw8 P x cap l _ hd1).mono ?_
  rintro e w2 ⟨v, D, rfl, hsz, hrow2, hd2, ho2⟩
  have hl1 := hd1.lt
  have HB2 : Hid (Below w.heap.size w w2) := hb1.trans (ho2.belowB hb1.size hP)
  have hd3 := hd2.alloc (.cells #[.string ⟨#[97]⟩, .string ⟨#[98]⟩, .string ⟨#[109]⟩, .string ⟨#[120]⟩, .string ⟨#[126]⟩, .string ⟨#[65]⟩, .string ⟨#[113, 49]⟩] 9)
  have HCL : Hid (∀ j, j < ([⟨#[97]⟩, ⟨#[98]⟩, ⟨#[109]⟩, ⟨#[120]⟩, ⟨#[126]⟩, ⟨#[65]⟩, ⟨#[113, 49]⟩] : List ByteArray).length → (w2.alloc (.cells #[.string ⟨#[97]⟩, .string ⟨#[98]⟩, .string ⟨#[109]⟩, .string ⟨#[120]⟩, .string ⟨#[126]⟩, .string ⟨#[65]⟩, .string ⟨#[113, 49]⟩] 9)).cell? ⟨w2.heap.size, j, none⟩ = some (.string (([⟨#[97]⟩, ⟨#[98]⟩, ⟨#[109]⟩, ⟨#[120]⟩, ⟨#[126]⟩, ⟨#[65]⟩, ⟨#[113, 49]⟩] : List ByteArray).getD j ⟨#[]⟩))) := fun j hj => cells_list _ Value.string ⟨#[]⟩ w2 _ _ rfl j hj
  have HR3 : Hid (RowD w1.heap.size (w2.alloc (.cells #[.string ⟨#[97]⟩, .string ⟨#[98]⟩, .string ⟨#[109]⟩, .string ⟨#[120]⟩, .string ⟨#[126]⟩, .string ⟨#[65]⟩, .string ⟨#[113, 49]⟩] 9)) v D ∧ Below w.heap.size w (w2.alloc (.cells #[.string ⟨#[97]⟩, .string ⟨#[98]⟩, .string ⟨#[109]⟩, .string ⟨#[120]⟩, .string ⟨#[126]⟩, .string ⟨#[65]⟩, .string ⟨#[113, 49]⟩] 9))) := ⟨hrow2.below (below1 w2 _), HB2.out.alloc HB2.out.size _⟩
  have hl2 := hd2.lt
  have hz1 := hb1.size
  clear hrow2 hd2 hd1 ho2 HB2 hb1
  go_wp2_with fail
  refine (pickO P w2.heap.size x cap l [⟨#[97]⟩, ⟨#[98]⟩, ⟨#[109]⟩, ⟨#[120]⟩, ⟨#[126]⟩, ⟨#[65]⟩, ⟨#[113, 49]⟩] _ hd3 7 rfl (by omega) (by omega) (by omega) HCL.out).mono ?_
  rintro e w4 ⟨s, hs, rfl, hd4, hp4⟩
  have hs6 : s.size ≤ 2 := by
    simp only [List.mem_cons, List.not_mem_nil, or_false] at hs
    rcases hs with rfl | rfl | rfl | rfl | rfl | rfl | rfl <;> decide
  have HR4 : Hid (RowD w1.heap.size w4 v D ∧ Below w.heap.size w w4) := ⟨HR3.out.1.onlyP hp4 hl1, HR3.out.2.trans (hp4.belowB HR3.out.2.size hP)⟩
  clear hs HCL HR3 hd3 hp4
  go_wp2_with fail
  refine (belowO P x cap l 9 _ hd4 (by omega) (by omega)).mono ?_
  rintro e w5 ⟨m, rfl, hm, hd5, hp5⟩
  have HR5 : Hid (RowD w1.heap.size w5 v D ∧ Below w.heap.size w w5) := ⟨HR4.out.1.onlyP hp5 hl1, HR4.out.2.trans (hp5.belowB HR4.out.2.size hP)⟩
  have hd6 := hd5.alloc (.cells #[.int .i64 1, .int .i64 2, .int .i64 3, .int .i64 9, .int .i64 10, .int .i64 0, .int .i64 (1 + (m : Int))] 3)
  have HCI : Hid (∀ j, j < List.length ([1, 2, 3, 9, 10, 0, 1 + (m : Int)] : List Int) → (w5.alloc (.cells #[.int .i64 1, .int .i64 2, .int .i64 3, .int .i64 9, .int .i64 10, .int .i64 0, .int .i64 (1 + (m : Int))] 3)).cell? ⟨w5.heap.size, j, none⟩ = some (.int .i64 (([1, 2, 3, 9, 10, 0, 1 + (m : Int)] : List Int).getD j 0))) := fun j hj => cells_list _ (Value.int .i64) 0 w5 _ _ rfl j hj
  have HR6 : Hid (RowD w1.heap.size (w5.alloc (.cells #[.int .i64 1, .int .i64 2, .int .i64 3, .int .i64 9, .int .i64 10, .int .i64 0, .int .i64 (1 + (m : Int))] 3)) v D ∧ Below w.heap.size w (w5.alloc (.cells #[.int .i64 1, .int .i64 2, .int .i64 3, .int .i64 9, .int .i64 10, .int .i64 0, .int .i64 (1 + (m : Int))] 3))) := ⟨HR5.out.1.below (below1 w5 _), HR5.out.2.alloc HR5.out.2.size _⟩
  have hl5 := hd5.lt
  clear HR4 HR5 hd4 hd5 hp5
  go_wp2_with fail
  refine (pickIntO P w5.heap.size x cap l [1, 2, 3, 9, 10, 0, 1 + (m : Int)] _ hd6 7 rfl (by omega) (by omega) (by omega) HCI.out).mono ?_
  rintro e w7 ⟨z, _, rfl, hd7, hp7⟩
  have HR7 : Hid (RowD w1.heap.size w7 v D ∧ Below w.heap.size w w7) := ⟨HR6.out.1.onlyP hp7 hl1, HR6.out.2.trans (hp7.belowB HR6.out.2.size hP)⟩
  clear HR6 hd6 hp7 HCI
  go_wp2
  go_returns
  exact ⟨v, D, s, z, rfl, hsz, hs6, ownsRow_base HR7.out.1 hz1, HR7.out.2⟩
end Go.Proofs.YtogpgocldgdeaaaDoor
