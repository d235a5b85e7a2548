/-
  Own text: both Number functions answer as 'IsNum' says.
-/
import Derived.Test.YtgibihacbhjlnaaDoorNbrBase
import Derived.Test.YtgibihacbhjlnaaDoorAtW
import Derived.Test.YtgibihacbhjlnaaDoorPowW
import Derived.Test.YtgibihacbhjlnaaDoorRecW
import Derived.Test.YtgibihacbhjlnaaDoorShelfA
import Derived.Lib.AtoiErrMem
namespace Go.Proofs.YtgibihacbhjlnaaDoor
open Go.RowKit

theorem take_snoc (s : ByteArray) (k : Nat) (h : k < s.size) : s.data.toList.take (k + 1) = s.data.toList.take k ++ [s[k]] := by
  rw [List.take_succ_eq_append_getElem (by simpa using h)]; rfl
theorem toList_data (s : ByteArray) : s.toList = s.data.toList := ByteArray.toList_eq s

set_option maxRecDepth 20000 in
set_option maxHeartbeats 800000 in
theorem specNumber (s : ByteArray) (w : World) (hs : s.size ≤ 1048576) :
    Calls Tryd.prog 20 #[.string s] w fun e w' => ((∃ n : Nat, IsNum s n ∧ e = .returned (.tuple #[.int .i64 n, .bool true])) ∨ ((∀ n, ¬ IsNum s n) ∧ e = .returned (.tuple #[.int .i64 0, .bool false]))) ∧ Below w.heap.size w w' := by
  by_cases hlen : s.size < 1 ∨ 6 < s.size
  · have HN : Hid (∀ n, ¬ IsNum s n) := fun n h => by have := h.facts; omega
    by_cases h1 : s.size < 1
    · go_enter Tryd.func20, Tryd.ntmps20
      go_wp2
      go_ret2
      exact ⟨.inr ⟨HN.out, rfl⟩, Below.refl _ _⟩
    · have h6 : 6 < s.size := by omega
      clear hlen
      go_enter Tryd.func20, Tryd.ntmps20
      go_wp2
      go_ret2
      exact ⟨.inr ⟨HN.out, rfl⟩, Below.refl _ _⟩
  · have h1 : 1 ≤ s.size := by omega
    have h6 : s.size ≤ 6 := by omega
    clear hlen hs
    go_enter Tryd.func20, Tryd.ntmps20
    go_wp2
    go_loop [4, 5] (fun n i => ∃ k : Nat, k ≤ s.size ∧ i = .int .i64 k ∧ n = .int .i64 (val10 (s.data.toList.take k) : Nat) ∧ Hid (AllDig (s.data.toList.take k))) (fun _ i => s.size - (intOf i).toNat)
    case atStart => exact ⟨0, Nat.zero_le _, rfl, rfl, fun c hc => by simp at hc⟩
    case round =>
      obtain ⟨k, hk, rfl, rfl, HA⟩ := hrel
      have hvl := val10_lt _ HA.out
      have hvb : val10 (s.data.toList.take k) < 1000000 := by
        have h2 : (s.data.toList.take k).length ≤ 6 := by have := List.length_take_le k s.data.toList; omega
        have h3 : 10 ^ (s.data.toList.take k).length ≤ 10 ^ 6 := Nat.pow_le_pow_right (by omega) h2
        have h4 : (10 : Nat) ^ 6 = 1000000 := by decide
        omega
      clear hvl
      by_cases hlt : k < s.size
      · have HT := take_snoc s k hlt
        by_cases hdig : 48 ≤ s[k].toNat ∧ s[k].toNat ≤ 57
        · have HA2 : Hid (AllDig (s.data.toList.take (k + 1))) := by show AllDig _; rw [HT]; exact allDig_snoc HA.out hdig
          have HV : Hid (val10 (s.data.toList.take (k + 1)) = val10 (s.data.toList.take k) * 10 + (s[k].toNat - 48)) := by show _ = _; rw [HT]; exact val10_snoc _ _
          obtain ⟨hd1, hd2⟩ := hdig
          clear HT HA
          generalize val10 (s.data.toList.take k) = N at *
          go_wp2
          go_round
          case rel => exact ⟨k + 1, by omega, by go_num, by rw [HV.out]; go_num, HA2.out⟩
          case measure => simp [intOf]; omega
        · have HN : Hid (∀ n, ¬ IsNum s n) := by
            intro n h
            have hm : s[k] ∈ s.data.toList := by
              have : s[k] ∈ s.data.toList.take (k + 1) := by rw [HT]; simp
              exact List.mem_of_mem_take this
            exact hdig (h.facts.1 _ hm)
          clear HT HA
          by_cases hd1 : s[k].toNat < 48
          · go_wp2
            go_ret2
            exact ⟨.inr ⟨HN.out, rfl⟩, Below.refl _ _⟩
          · have hd2 : 57 < s[k].toNat := by omega
            clear hdig
            go_wp2
            go_ret2
            exact ⟨.inr ⟨HN.out, rfl⟩, Below.refl _ _⟩
      · obtain rfl : k = s.size := by omega
        have e : s.data.toList.take s.size = s.data.toList := List.take_of_length_le (by simp)
        rw [e] at hvb ⊢
        have HU : Hid (∀ n, IsNum s n → n = val10 s.data.toList) := fun n h => h.facts.2.1.symm
        clear HA e
        have HT : Hid (s.toList = s.data.toList) := toList_data s
        generalize val10 s.data.toList = N at *
        by_cases heq : s.data.toList = Lib.itoa (N : Int)
        · have HY : Hid (IsNum s N) := ⟨heq, by omega⟩
          have hb : (Lib.itoa (N : Int) == s.toList) = true := by rw [HT.out, heq]; simp
          clear heq HU HT
          go_wp2_with fail
          refine (specDigits (N : Int) _ (by omega) (by omega)).mono ?_
          rintro e w1 ⟨rfl, hb1⟩
          generalize Lib.itoa (N : Int) = t at *
          go_wp2
          go_ret2
          exact ⟨.inl ⟨N, HY.out, rfl⟩, hb1⟩
        · have HN : Hid (∀ n, ¬ IsNum s n) := by
            intro n h
            have := HU.out n h
            subst this
            exact heq h.1
          have hb : (Lib.itoa (N : Int) == s.toList) = false := by rw [HT.out]; simpa using fun h => heq h.symm
          clear heq HU HT
          go_wp2_with fail
          refine (specDigits (N : Int) _ (by omega) (by omega)).mono ?_
          rintro e w1 ⟨rfl, hb1⟩
          generalize Lib.itoa (N : Int) = t at *
          go_wp2
          go_ret2
          exact ⟨.inr ⟨HN.out, rfl⟩, hb1⟩

/-- Atoi of a text that spells no int: an error that is not nil. -/
theorem atoiBad (s : ByteArray) (w : World) (hs : s.size ≤ 1048576) (hn : ∀ v, Lib.atoiAll s.data.toList ≠ .ok v) (x2 x3 : Addr)
    (h2 : w.cell? ⟨2, 0, none⟩ = some (.iface 91 (.pointer (some x2)))) (h3 : w.cell? ⟨3, 0, none⟩ = some (.iface 91 (.pointer (some x3)))) :
    Calls Tryd.prog 40 #[.string s] w fun e w' => ∃ (v : Int) (N : Addr), e = .returned (.tuple #[.int .i64 v, .iface 74 (.pointer (some N))]) ∧ Below w.heap.size w w' := by
  rcases hx : Lib.atoiAll s.data.toList with v | _ | _
  · exact absurd hx (hn v)
  · refine (Any.strconv_Atoi_syntax Tryd.laysC172 s (by omega) hx _ w h2 (.inr ⟨_, _, rfl⟩)).mono ?_
    rintro e w' ⟨N, rfl, _, _, hb⟩
    exact ⟨0, _, rfl, hb⟩
  · refine (Any.strconv_Atoi_range Tryd.laysC172 s (by omega) hx _ w h3 (.inr ⟨_, _, rfl⟩)).mono ?_
    rintro e w' ⟨N, rfl, _, _, hb⟩
    exact ⟨_, _, rfl, hb⟩
theorem atoiOk (s : ByteArray) (w : World) (hs : s.size ≤ 1048576) (v : Int) (h : Lib.atoiAll s.data.toList = .ok v) :
    Calls Tryd.prog 40 #[.string s] w fun e w' => e = .returned (.tuple #[.int .i64 v, .nilIface]) ∧ Below w.heap.size w w' := by
  refine (Tryd.strconv_Atoi_ok s (by omega) v h w).mono ?_
  rintro e w' ⟨rfl, rfl | ⟨t, rfl⟩⟩
  · exact ⟨rfl, Below.refl _ _⟩
  · exact ⟨rfl, Lib.bytesWorld_below w _ t⟩
end Go.Proofs.YtgibihacbhjlnaaDoor
