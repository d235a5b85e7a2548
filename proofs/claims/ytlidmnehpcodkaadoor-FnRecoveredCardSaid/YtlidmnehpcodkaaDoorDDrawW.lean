/-
  Own text: the disks that the laws draw: a text of a sector, rows of yes and no, a disk of some sectors.
-/
import Derived.Test.YtlidmnehpcodkaaDoorCurO
import Derived.Test.YtlidmnehpcodkaaDoorBoolW
import Derived.Test.YtlidmnehpcodkaaDoorBunS
namespace Go.Proofs.YtlidmnehpcodkaaDoor
open Go.RowKit

theorem conv_own {w : World} {base g cap n : Nat} {m : List UInt8} (hm : m.length = n) (h : w.ownsRow base 5 1 (.slice (some ⟨g, 0, none⟩) n cap) n (m.map fun b => Value.int .u8 b.toNat)) :
    (convert 22 9 (.slice (some ⟨g, 0, none⟩) n cap)).run Tryd.prog w = .ok (.string ⟨m.toArray⟩) w := by
  subst hm
  refine run_convert_bytes_back (P := Tryd.prog) w 22 9 5 ⟨g, 0, none⟩ cap m Tryd.underlying22 Tryd.underlying5 Tryd.underlying9 ?_
  intro j hj
  rw [Go.WideShapes.add_plain, Nat.zero_add, h.cellAt j (by omega)]
  simp [hj]

set_option maxRecDepth 20000 in
set_option maxHeartbeats 400000 in
theorem dataO (P : Nat) (x : Option Addr) (cap : Nat) (l : List Int) (w : World) (hd : Drw w P x cap l) :
    Calls Tryd.prog 89 #[.pointer (some ⟨P, 0, none⟩)] w fun e w' => ∃ s : ByteArray, e = .returned (.string s) ∧ s.size ≤ 5 ∧ Drw w' P x cap l ∧ OnlyP P w w' := by
  have HD : Hid (Drw w P x cap l) := hd
  clear hd
  go_enter Tryd.func89, Tryd.ntmps89
  go_wp2_with fail
  refine (bytesO P x cap l 5 _ HD.out (by omega)).mono ?_
  rintro e w1 ⟨v, m, rfl, hm, ho1, hd1, hon1⟩
  have HD1 : Hid (Drw w1 P x cap l) := hd1
  have hlt1 := hd1.lt
  clear hd1
  rcases ho1.2 with ⟨_, h0⟩ | ⟨g, c, cur, rfl, _⟩
  · omega
  have hcv := conv_own hm ho1
  have HS5 : Hid ((⟨m.toArray⟩ : ByteArray).size = 5) := by show _ = _; simp [ByteArray.size, hm]
  clear ho1 hm
  generalize (⟨m.toArray⟩ : ByteArray) = y at *
  go_wp2_with fail
  refine (pickO P w1.heap.size x cap l [⟨#[]⟩, ⟨#[97]⟩, ⟨#[98, 99]⟩, ⟨#[100, 101, 102]⟩, y] _ (HD1.out.alloc _) 5 rfl (by omega) (by omega) (by omega) (fun j hj => cells_list [⟨#[]⟩, ⟨#[97]⟩, ⟨#[98, 99]⟩, ⟨#[100, 101, 102]⟩, y] Value.string ⟨#[]⟩ w1 _ _ rfl j hj)).mono ?_
  rintro e w2 ⟨s, hs, rfl, hd2, hon2⟩
  have HD2 : Hid (Drw w2 P x cap l) := hd2
  have hon : OnlyP P w w2 := (hon1.trans (Only.of_new (below1 w1 _))).trans hon2
  have HS : Hid (s.size ≤ 5) := by
    simp only [List.mem_cons, List.not_mem_nil, or_false] at hs
    show _ ≤ _
    rcases hs with rfl | rfl | rfl | rfl | rfl
    · decide
    · decide
    · decide
    · decide
    · rw [HS5.out]; exact Nat.le_refl _
  clear hs hd2 hon1 hon2 hcv
  go_wp2
  go_ret
  exact ⟨s, rfl, HS.out, HD2.out, hon⟩

set_option maxRecDepth 20000 in
set_option maxHeartbeats 400000 in
theorem keepO (P : Nat) (x : Option Addr) (cap : Nat) (l : List Int) (w : World) (hd : Drw w P x cap l) :
    Calls Tryd.prog 44 #[.pointer (some ⟨P, 0, none⟩)] w fun e w' => ∃ (v : Value) (ks : List Bool), e = .returned v ∧ ks.length ≤ 9 ∧ w'.ownsRow w.heap.size 4 1 v ks.length (ks.flatMap encB) ∧ Drw w' P x cap l ∧ OnlyP P w w' := by
  obtain ⟨i0, hi, hz0, hz1, hz2⟩ := info_parts Tryd.infoBool
  have hlt := hd.lt
  have HD0 : Hid (Drw (w.alloc (.cells #[] 4)) P x cap l) := hd.alloc _
  have ho0 : (w.alloc (.cells #[] 4)).ownsRow w.heap.size 4 1 (.slice (some ⟨w.heap.size, 0, none⟩) 0 0) 0 [] := World.ownsRow_made w #[] 0 (Nat.le_refl _) (Nat.zero_le _) rfl
  have hb0 : OnlyP P w (w.alloc (.cells #[] 4)) := Only.of_new (below1 w _)
  clear hd
  go_enter Tryd.func44, Tryd.ntmps44
  go_wp2_with fail
  refine (belowO P x cap l 9 _ HD0.out (by omega) (by omega)).mono ?_
  rintro e w1 ⟨n, rfl, hn, hd1, hon1⟩
  have ho1 := own_only ho0 hon1 (fun j hj => by have := (ho0.lt j hj).1; omega)
  have HD1 : Hid (Drw w1 P x cap l) := hd1
  have hb1 := hb0.trans hon1
  clear hd1 hon1 ho0 hb0 HD0
  go_wp2
  go_loopw [3, 5] (fun v i wr => ∃ (k : Nat) (m : List Bool), k ≤ n ∧ m.length = k ∧ i = .int .i64 k ∧ wr.ownsRow w.heap.size 4 1 v k (m.map Value.bool) ∧ Hid (Drw wr P x cap l) ∧ OnlyP P w wr) (fun _ i _ => n - (intOf i).toNat)
  case atStart => exact ⟨0, [], Nat.zero_le _, rfl, rfl, ho1, HD1, hb1⟩
  case round =>
    obtain ⟨k, m, hk, hm, rfl, hown, HD, hbel⟩ := hrel
    clear ho1 hb1 HD1
    by_cases hlt2 : k < n
    · go_wp2_with fail
      refine (onceO P x cap l 2 _ HD.out (by omega) (by omega)).mono ?_
      rintro e w1 ⟨b, rfl, hd1, hb1⟩
      have ho1 := own_only hown hb1 (fun j hj => by have := (hown.lt j hj).1; omega)
      have hbel1 := hbel.trans hb1
      have HD1 : Hid (Drw w1 P x cap l) := hd1
      clear hd1 hown hbel hb1
      go_wp2_with (at_builtin; refine wpList_append_own _ rfl _ _ 32 rfl w.heap.size 4 i0 (.bool false) 1 1 Tryd.underlying32 hi hz0 hz1 hz2 rfl (by decide) _ _ _ rfl (ho1.alloc _) ⟨w1.heap.size, 0, none⟩ 1 1 [.bool b] rfl rfl ?c1 ?c2 ?c3 ?c4 ?c5 ?_)
      case c1 =>
        intro j u hj
        match j, hj with
        | 0, hj => simp at hj; subst hj; simp [Addr.add]
      case c2 => intro u hu; simp at hu; subst hu; rfl
      case c3 => unfold maxLen; omega
      case c4 => omega
      case c5 => have := hbel1.size; simp; omega
      intro v' w2 hown' hgrow _
      have hon2 : Only (fun j => w.heap.size ≤ j) w1 w2 := ((Only.of_new (below1 w1 _)).trans ((Only.of_grown hgrow).mono fun j _ hj => (ho1.lt j hj).1))
      have hbel2 : OnlyP P w w2 := hbel1.trans' hon2
      have HD2 : Hid (Drw w2 P x cap l) := HD1.out.only hon2 (fun j hj h => by omega)
      have ho2 : w2.ownsRow w.heap.size 4 1 v' (k + 1) ((m ++ [b]).map Value.bool) := by simpa using hown'
      have hm2 : (m ++ [b]).length = k + 1 := by simp [hm]
      clear hgrow ho1 hbel1 hown' hon2
      generalize m ++ [b] = m2 at *
      go_wp2
      go_roundw
      case rel => exact ⟨k + 1, m2, by omega, hm2, by go_num, ho2, HD2, hbel2⟩
      case measure => simp [intOf]; omega
    · obtain rfl : k = n := by omega
      go_wp2
      go_ret
      exact ⟨_, m, rfl, by omega, by rw [flatB, hm]; exact hown, HD.out, hbel⟩
end Go.Proofs.YtlidmnehpcodkaaDoor
