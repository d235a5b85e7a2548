/-
  Own text: the cursor from which the laws draw: it is made, and gives a byte.
-/
import Derived.Test.YtgndkdoefmjdhaaDoorRows
import Derived.Test.YtgndkdoefmjdhaaDoorBase
import Derived.WalkLawsBesides
namespace Go.Proofs.YtgndkdoefmjdhaaDoor
open Go.RowKit

theorem and_small (x : Int) (m : Nat) (hm : m < 4611686018427387904) : ∃ r : Nat, bits .and .i64 x (m : Int) = (r : Int) ∧ r ≤ m := by
  have h2 : (BitVec.ofInt 64 (m : Int)).toNat = m := by rw [BitVec.ofInt_natCast, BitVec.toNat_ofNat]; omega
  have h3 : bits .and .i64 x (m : Int) = IntKind.wrap .i64 ((BitVec.ofInt 64 x &&& BitVec.ofInt 64 (m : Int)).toNat : Int) := by rfl
  have h4 : (BitVec.ofInt 64 x).toNat &&& m ≤ m := Nat.and_le_right
  refine ⟨(BitVec.ofInt 64 x).toNat &&& m, ?_, h4⟩
  rw [h3, BitVec.toNat_and, h2, IntKind.wrap_i64]
  omega

/-- The cursor in block P: what it draws from, how far it is, its number. -/
def Cur (w : World) (P : Nat) (a : Option Addr) (len cap : Nat) (i : Nat) (h : Int) : Prop :=
  w.heap[P]? = some (.cells #[.slice a len cap, .int .i64 i, .int .i64 h] 53 (0, 0))
theorem Cur.lt {w : World} {P : Nat} {a : Option Addr} {len cap i : Nat} {h : Int} (hc : Cur w P a len cap i h) : P < w.heap.size := (Array.getElem?_eq_some_iff.1 hc).1

set_option maxRecDepth 20000 in
set_option maxHeartbeats 400000 in
theorem newCur (x : Option Addr) (cap : Nat) (l : List Int) (w : World) (hl : l.length ≤ 1048576) (hu : U8 l) (hr : Rd .u8 w x l) :
    Calls Tryd.prog 18 #[.slice x l.length cap] w fun e w' => ∃ P h, e = .returned (.pointer (some ⟨P, 0, none⟩)) ∧ w.heap.size ≤ P ∧ Cur w' P x l.length cap 0 h ∧ Below w.heap.size w w' := by
  have HR : Hid (Rd .u8 w x l) := hr
  have HU : Hid (U8 l) := hu
  clear hr hu
  go_enter Tryd.func18, Tryd.ntmps18
  go_wp2
  go_loop [3, 4] (fun h i => ∃ (k H : Nat), k ≤ l.length ∧ i = .int .i64 k ∧ h = .int .i64 H ∧ H ≤ 1073741823) (fun _ i => l.length - (intOf i).toNat)
  case atStart => exact ⟨0, 26583 + l.length, Nat.zero_le _, rfl, by go_num, by omega⟩
  case round =>
    obtain ⟨k, H, hk, rfl, rfl, hH⟩ := hrel
    by_cases hlt : k < l.length ∧ k < 4000
    · obtain ⟨hlt, h4⟩ := hlt
      obtain ⟨b, off, rfl, hb, hc⟩ : ∃ b off, x = some ⟨b, off, none⟩ ∧ b < w.heap.size ∧ ∀ i, i < l.length → w.cell? ⟨b, off + i, none⟩ = some (.int .u8 (l.getD i 0)) := by
        rcases HR.out with h | h
        · subst h; simp at hlt
        · exact h
      have hcell := hc k hlt
      clear hc
      have hub := HU.out.at k
      generalize l.getD k 0 = c at *
      obtain ⟨hub0, hub1⟩ := hub
      obtain ⟨r, hr, hle⟩ := and_small ((H : Int) * 131 + c + 7) 1073741823 (by omega)
      have hr' : bits .and .i64 ((H : Int) * 131 + c + 7) 1073741823 = (r : Int) := hr
      clear hr
      go_wp2
      go_round
      case rel => exact ⟨k + 1, r, by omega, by go_num, rfl, hle⟩
      case measure => simp [intOf]; omega
    · by_cases h4 : k < l.length
      · have h5 : 4000 ≤ k := by omega
        clear hlt
        go_wp2
        go_ret
        exact ⟨w.heap.size, rfl, Nat.le_refl _, ⟨_, heap_alloc_new w _⟩, (Below.refl _ _).alloc (Nat.le_refl _) _⟩
      · clear hlt
        go_wp2
        go_ret
        exact ⟨w.heap.size, rfl, Nat.le_refl _, ⟨_, heap_alloc_new w _⟩, (Below.refl _ _).alloc (Nat.le_refl _) _⟩

set_option maxRecDepth 20000 in
set_option maxHeartbeats 800000 in
theorem byteCur (P : Nat) (x : Option Addr) (cap : Nat) (l : List Int) (i : Nat) (h : Int) (w : World) (hl : l.length ≤ 1048576) (hu : U8 l) (hP : ∀ b off, x = some ⟨b, off, none⟩ → l ≠ [] → b < P) (hi : i ≤ l.length) (hr : Rd .u8 w x l) (hc : Cur w P x l.length cap i h) :
    Calls Tryd.prog 25 #[.pointer (some ⟨P, 0, none⟩)] w fun e w' => ∃ (r i' : Nat) (h' : Int), e = .returned (.int .i64 r) ∧ r < 256 ∧ i' ≤ l.length ∧ Cur w' P x l.length cap i' h' ∧ w.grownBy w' (some P) := by
  have HR : Hid (Rd .u8 w x l) := hr
  have HU : Hid (U8 l) := hu
  have HC : Hid (Cur w P x l.length cap i h) := hc
  have c0 : w.cell? ⟨P, 0, none⟩ = some (.slice x l.length cap) := by rw [cell_of_row w P 0 _ _ _ hc]; rfl
  have c1 : w.cell? ⟨P, 1, none⟩ = some (.int .i64 i) := by rw [cell_of_row w P 1 _ _ _ hc]; rfl
  have c2 : w.cell? ⟨P, 2, none⟩ = some (.int .i64 h) := by rw [cell_of_row w P 2 _ _ _ hc]; rfl
  have f1 : w.frozen? ⟨P, 1, none⟩ = false := frozen_of_row w P 1 _ _ hc
  have f2 : w.frozen? ⟨P, 2, none⟩ = false := frozen_of_row w P 2 _ _ hc
  clear hr hu hc
  by_cases hlt : i < l.length
  · obtain ⟨b, off, rfl, hb, hcl⟩ : ∃ b off, x = some ⟨b, off, none⟩ ∧ b < w.heap.size ∧ ∀ i, i < l.length → w.cell? ⟨b, off + i, none⟩ = some (.int .u8 (l.getD i 0)) := by
      rcases HR.out with h | h
      · subst h; simp at hlt
      · exact h
    have hbP := hP b off rfl (by intro h; subst h; simp at hlt)
    have hcell := hcl i hlt
    clear hcl hP
    have hub := HU.out.at i
    generalize l.getD i 0 = c at *
    obtain ⟨hub0, hub1⟩ := hub
    obtain ⟨H2, hH2⟩ : ∃ H2, wrap64 (wrap64 (h * 6364136223846793005) + 1442695040888963407) = H2 := ⟨_, rfl⟩
    obtain ⟨r1, hr1, hl1⟩ := and_small (bits .xor .i64 (H2 / 8589934592) (H2 / 35184372088832)) 255 (by omega)
    obtain ⟨r2, hr2, hl2⟩ := and_small ((r1 : Int) + c) 255 (by omega)
    have hr1' : bits .and .i64 (bits .xor .i64 (H2 / 8589934592) (H2 / 35184372088832)) 255 = (r1 : Int) := hr1
    have hr2' : bits .and .i64 ((r1 : Int) + c) 255 = (r2 : Int) := hr2
    clear hr1 hr2
    have HE : Hid (Cur ((w.setCell ⟨P, 2, none⟩ (.int .i64 H2)).setCell ⟨P, 1, none⟩ (.int .i64 ((i : Int) + 1))) P (some ⟨b, off, none⟩) l.length cap (i + 1) H2) := by
      show _ = _
      rw [heap_setCell_same _ P 1 _ _ _ (heap_setCell_same w P 2 _ _ _ HC.out)]
      rfl
    have HGR : Hid (w.grownBy ((w.setCell ⟨P, 2, none⟩ (.int .i64 H2)).setCell ⟨P, 1, none⟩ (.int .i64 ((i : Int) + 1))) (some P)) :=
      ⟨rfl, rfl, rfl, by simp, fun k _ hk => (heap_setCell_other _ _ k _ (fun e => hk (by simp [e]))).trans (heap_setCell_other _ _ k _ (fun e => hk (by simp [e])))⟩
    go_enter Tryd.func25, Tryd.ntmps25
    go_wp2
    go_region
    all_goals (go_wp2; go_region)
    all_goals (go_wp2; go_region)
    all_goals go_wp2
    all_goals go_ret
    all_goals exact ⟨r2, i + 1, H2, rfl, by omega, by omega, HE.out, ⟨HGR.out.os, HGR.out.tape, HGR.out.output, HGR.out.size, HGR.out.block⟩⟩
  · obtain ⟨H2, hH2⟩ : ∃ H2, wrap64 (wrap64 (h * 6364136223846793005) + 1442695040888963407) = H2 := ⟨_, rfl⟩
    obtain ⟨r1, hr1, hl1⟩ := and_small (bits .xor .i64 (H2 / 8589934592) (H2 / 35184372088832)) 255 (by omega)
    have hr1' : bits .and .i64 (bits .xor .i64 (H2 / 8589934592) (H2 / 35184372088832)) 255 = (r1 : Int) := hr1
    clear hr1 hP
    have HE : Hid (Cur (w.setCell ⟨P, 2, none⟩ (.int .i64 H2)) P x l.length cap i H2) := by
      show _ = _
      rw [heap_setCell_same w P 2 _ _ _ HC.out]
      rfl
    have HGR : Hid (w.grownBy (w.setCell ⟨P, 2, none⟩ (.int .i64 H2)) (some P)) :=
      ⟨rfl, rfl, rfl, by simp, fun k _ hk => heap_setCell_other _ _ k _ (fun e => hk (by simp [e]))⟩
    go_enter Tryd.func25, Tryd.ntmps25
    go_wp2
    go_region
    all_goals (go_wp2; go_region)
    all_goals go_wp2
    all_goals go_ret
    all_goals exact ⟨r1, i, H2, rfl, by omega, by omega, HE.out, ⟨HGR.out.os, HGR.out.tape, HGR.out.output, HGR.out.size, HGR.out.block⟩⟩

/-- Below a bound, from the cursor on. -/
theorem belowCur (P : Nat) (x : Option Addr) (cap : Nat) (l : List Int) (i : Nat) (h : Int) (n : Nat) (w : World) (hl : l.length ≤ 1048576) (hu : U8 l) (hP : ∀ b off, x = some ⟨b, off, none⟩ → l ≠ [] → b < P) (hi : i ≤ l.length) (hr : Rd .u8 w x l) (hc : Cur w P x l.length cap i h) (hn : 1 ≤ n) (hn2 : n ≤ 256) :
    Calls Tryd.prog 24 #[.pointer (some ⟨P, 0, none⟩), .int .i64 n] w fun e w' => ∃ (r i' : Nat) (h' : Int), e = .returned (.int .i64 r) ∧ r < n ∧ i' ≤ l.length ∧ Cur w' P x l.length cap i' h' ∧ w.grownBy w' (some P) := by
  have HR : Hid (Rd .u8 w x l) := hr
  have HU : Hid (U8 l) := hu
  have HC : Hid (Cur w P x l.length cap i h) := hc
  have HP : Hid (∀ b off, x = some ⟨b, off, none⟩ → l ≠ [] → b < P) := hP
  clear hr hu hc hP
  have hn0 : ¬ (n : Int) ≤ 0 := by omega
  have hn1 : (n : Int) ≤ 256 := by omega
  go_enter Tryd.func24, Tryd.ntmps24
  go_wp2_with fail
  refine (byteCur P x cap l i h _ hl HU.out HP.out hi HR.out HC.out).mono ?_
  rintro e w1 ⟨r, i', h', rfl, hr, hi', hc1, hg1⟩
  have HC1 : Hid (Cur w1 P x l.length cap i' h') := hc1
  clear hc1
  go_wp2
  go_ret
  exact ⟨r % n, i', h', by go_num, Nat.mod_lt _ (by omega), hi', HC1.out, hg1⟩
end Go.Proofs.YtgndkdoefmjdhaaDoor
