/-
  Own text: what FnNumbers draws: a number, a text; a byte of the code.
-/
import Derived.Test.YtdaomoopiajecaaDoorDrawW
namespace Go.Proofs.YtdaomoopiajecaaDoor
open Go.RowKit

set_option maxRecDepth 20000 in
set_option maxHeartbeats 400000 in
theorem pickInt (P Q : Nat) (x : Option Addr) (cap : Nat) (l : List Int) (i : Nat) (h : Int) (L : List Int) (w : World) (hl : l.length ≤ 1048576) (hu : U8 l) (hP : ∀ b off, x = some ⟨b, off, none⟩ → l ≠ [] → b < P) (hi : i ≤ l.length) (hr : Rd .u8 w x l) (hc : Cur w P x l.length cap i h) (n : Nat) (hLn : L.length = n) (hn : 1 ≤ n) (hn2 : n ≤ 256)
    (hQ : Q ≠ P) (hL : ∀ j, j < L.length → w.cell? ⟨Q, j, none⟩ = some (.int .i64 (L.getD j 0))) :
    Calls Tryd.prog 26 #[.pointer (some ⟨P, 0, none⟩), .slice (some ⟨Q, 0, none⟩) n n] w fun e w' => ∃ r, r < L.length ∧ e = .returned (.int .i64 (L.getD r 0)) ∧ w.grownBy w' (some P) := by
  subst hLn
  have HR : Hid (Rd .u8 w x l) := hr
  have HU : Hid (U8 l) := hu
  have HC : Hid (Cur w P x l.length cap i h) := hc
  have HP : Hid (∀ b off, x = some ⟨b, off, none⟩ → l ≠ [] → b < P) := hP
  have HL : Hid (∀ j, j < L.length → w.cell? ⟨Q, j, none⟩ = some (.int .i64 (L.getD j 0))) := hL
  clear hr hu hc hP hL
  go_enter Tryd.func26, Tryd.ntmps26
  go_wp2_with fail
  refine (belowCur P x cap l i h L.length _ hl HU.out HP.out hi HR.out HC.out hn hn2).mono ?_
  rintro e w1 ⟨r, i', h', rfl, hr, hi', hc1, hg1⟩
  have hcell : w1.cell? ⟨Q, r, none⟩ = some (.int .i64 (L.getD r 0)) := hg1.cell (HL.out r hr) (by simpa using hQ)
  clear hc1
  generalize hv : L.getD r 0 = v at *
  have HV : Hid (L.getD r 0 = v) := hv
  clear hv
  go_wp2
  go_ret
  exact ⟨r, hr, by rw [HV.out]; rfl, hg1⟩

set_option maxRecDepth 20000 in
set_option maxHeartbeats 400000 in
theorem pickStr (P Q : Nat) (x : Option Addr) (cap : Nat) (l : List Int) (i : Nat) (h : Int) (L : List ByteArray) (w : World) (hl : l.length ≤ 1048576) (hu : U8 l) (hP : ∀ b off, x = some ⟨b, off, none⟩ → l ≠ [] → b < P) (hi : i ≤ l.length) (hr : Rd .u8 w x l) (hc : Cur w P x l.length cap i h) (n : Nat) (hLn : L.length = n) (hn : 1 ≤ n) (hn2 : n ≤ 256)
    (hQ : Q ≠ P) (hL : ∀ j, j < L.length → w.cell? ⟨Q, j, none⟩ = some (.string (L.getD j ⟨#[]⟩))) :
    Calls Tryd.prog 28 #[.pointer (some ⟨P, 0, none⟩), .slice (some ⟨Q, 0, none⟩) n n] w fun e w' => ∃ r, r < L.length ∧ e = .returned (.string (L.getD r ⟨#[]⟩)) ∧ w.grownBy w' (some P) := by
  subst hLn
  have HR : Hid (Rd .u8 w x l) := hr
  have HU : Hid (U8 l) := hu
  have HC : Hid (Cur w P x l.length cap i h) := hc
  have HP : Hid (∀ b off, x = some ⟨b, off, none⟩ → l ≠ [] → b < P) := hP
  have HL : Hid (∀ j, j < L.length → w.cell? ⟨Q, j, none⟩ = some (.string (L.getD j ⟨#[]⟩))) := hL
  clear hr hu hc hP hL
  go_enter Tryd.func28, Tryd.ntmps28
  go_wp2_with fail
  refine (belowCur P x cap l i h L.length _ hl HU.out HP.out hi HR.out HC.out hn hn2).mono ?_
  rintro e w1 ⟨r, i', h', rfl, hr, hi', hc1, hg1⟩
  have hcell : w1.cell? ⟨Q, r, none⟩ = some (.string (L.getD r ⟨#[]⟩)) := hg1.cell (HL.out r hr) (by simpa using hQ)
  clear hc1
  generalize hv : L.getD r ⟨#[]⟩ = v at *
  have HV : Hid (L.getD r ⟨#[]⟩ = v) := hv
  clear hv
  go_wp2
  go_ret
  exact ⟨r, hr, by rw [HV.out]; rfl, hg1⟩

theorem Cur.alloc {w : World} {P : Nat} {a : Option Addr} {len cap i : Nat} {h : Int} (hc : Cur w P a len cap i h) (o : Obj) : Cur (w.alloc o) P a len cap i h := by
  have := hc.lt
  show (w.heap.push o)[P]? = _
  rw [Array.getElem?_push, if_neg (by omega)]
  exact hc
theorem rd_block {w : World} {x : Option Addr} {l : List Int} (hr : Rd .u8 w x l) : ∀ b off, x = some ⟨b, off, none⟩ → l ≠ [] → b < w.heap.size := by
  intro b off hx hne
  rcases hr with h | ⟨b', off', hx', hlt, _⟩
  · exact absurd h hne
  · rw [hx] at hx'
    simp at hx'
    omega

theorem cells_list {α : Type} (L : List α) (f : α → Value) (d : α) (w : World) (C : Array Value) (t : TypeId) (hC : C = (L.map f).toArray) (j : Nat) (hj : j < L.length) :
    (w.alloc (.cells C t)).cell? ⟨w.heap.size, j, none⟩ = some (f (L.getD j d)) := by
  subst hC
  rw [cell_of_row _ _ j _ _ _ (heap_alloc_new w _)]
  simp [List.getD, hj]

def numsL : List Int := [0, 1, 127, 128, 300, 16384, 2147483647, 2147483648, -1, 9223372036854775807]
def textsL : List ByteArray := [⟨#[]⟩, ⟨#[97]⟩, ⟨#[116, 119, 111, 32, 119, 111, 114, 100, 115]⟩, ⟨#[0, 255]⟩]

set_option maxRecDepth 20000 in
set_option maxHeartbeats 400000 in
theorem drawNum (x : Option Addr) (cap : Nat) (l : List Int) (w : World) (hl : l.length ≤ 1048576) (hu : U8 l) (hr : Rd .u8 w x l) :
    Calls Tryd.prog 9 #[.slice x l.length cap] w fun e w' => ∃ n ∈ numsL, e = .returned (.int .i64 n) ∧ Below w.heap.size w w' := by
  have HR : Hid (Rd .u8 w x l) := hr
  have HU : Hid (U8 l) := hu
  clear hr hu
  go_enter Tryd.func9, Tryd.ntmps9
  go_wp2_with fail
  refine (newCur x cap l _ hl HU.out HR.out).mono ?_
  rintro e w1 ⟨P, h, rfl, hP, hc1, hb1⟩
  have HC1 : Hid (Cur w1 P x l.length cap 0 h) := hc1
  have hlt := hc1.lt
  clear hc1
  go_wp2_with fail
  refine (pickInt P w1.heap.size x cap l 0 h numsL _ hl HU.out (fun b off hx hne => Nat.lt_of_lt_of_le (rd_block HR.out b off hx hne) hP) (Nat.zero_le _) ((HR.out.below hb1 (Nat.le_refl _)).below ((Below.refl _ _).alloc (Nat.le_refl _) _) (Nat.le_refl _)) (HC1.out.alloc _) 10 rfl (by omega) (by omega) (by omega) (fun j hj => cells_list numsL (Value.int .i64) 0 w1 _ _ rfl j hj)).mono ?_
  rintro e w2 ⟨r, hr, rfl, hg2⟩
  have hmem : numsL.getD r 0 ∈ numsL := by
    have e : numsL.getD r 0 = numsL[r] := by simp [List.getD, hr]
    rw [e]; exact List.getElem_mem hr
  have HM : Hid (numsL.getD r 0 ∈ numsL) := hmem
  have hb2 : Below w.heap.size w w2 := (hb1.alloc (by omega) _).grown hg2 (by simp; omega) (fun k hk => by simp at hk; omega)
  clear hmem hr hg2
  generalize numsL.getD r 0 = v at *
  go_wp2
  go_ret
  exact ⟨v, HM.out, rfl, hb2⟩

set_option maxRecDepth 20000 in
set_option maxHeartbeats 400000 in
theorem drawText (x : Option Addr) (cap : Nat) (l : List Int) (w : World) (hl : l.length ≤ 1048576) (hu : U8 l) (hr : Rd .u8 w x l) :
    Calls Tryd.prog 10 #[.slice x l.length cap] w fun e w' => ∃ s ∈ textsL, e = .returned (.string s) ∧ Below w.heap.size w w' := by
  have HR : Hid (Rd .u8 w x l) := hr
  have HU : Hid (U8 l) := hu
  clear hr hu
  go_enter Tryd.func10, Tryd.ntmps10
  go_wp2_with fail
  refine (newCur x cap l _ hl HU.out HR.out).mono ?_
  rintro e w1 ⟨P, h, rfl, hP, hc1, hb1⟩
  have HC1 : Hid (Cur w1 P x l.length cap 0 h) := hc1
  have hlt := hc1.lt
  clear hc1
  go_wp2_with fail
  refine (pickStr P w1.heap.size x cap l 0 h textsL _ hl HU.out (fun b off hx hne => Nat.lt_of_lt_of_le (rd_block HR.out b off hx hne) hP) (Nat.zero_le _) ((HR.out.below hb1 (Nat.le_refl _)).below ((Below.refl _ _).alloc (Nat.le_refl _) _) (Nat.le_refl _)) (HC1.out.alloc _) 4 rfl (by omega) (by omega) (by omega) (fun j hj => cells_list textsL Value.string ⟨#[]⟩ w1 _ _ rfl j hj)).mono ?_
  rintro e w2 ⟨r, hr, rfl, hg2⟩
  have hmem : textsL.getD r ⟨#[]⟩ ∈ textsL := by
    have e : textsL.getD r ⟨#[]⟩ = textsL[r] := by simp [List.getD, hr]
    rw [e]; exact List.getElem_mem hr
  have HM : Hid (textsL.getD r ⟨#[]⟩ ∈ textsL) := hmem
  have hb2 : Below w.heap.size w w2 := (hb1.alloc (by omega) _).grown hg2 (by simp; omega) (fun k hk => by simp at hk; omega)
  clear hmem hr hg2
  generalize textsL.getD r ⟨#[]⟩ = v at *
  go_wp2
  go_ret
  exact ⟨v, HM.out, rfl, hb2⟩

set_option maxRecDepth 20000 in
set_option maxHeartbeats 400000 in
theorem at0c (x : Option Addr) (cap : Nat) (l : List Int) (i : Nat) (w : World) (hl : l.length ≤ 1048576) (hu : U8 l) (hr : Rd .u8 w x l) (hi : i ≤ 1000) :
    Calls Tryd.prog 16 #[.slice x l.length cap, .int .i64 i] w fun e w' => ∃ r : Nat, e = .returned (.int .i64 r) ∧ r < 256 ∧ w' = w := by
  have HR : Hid (Rd .u8 w x l) := hr
  have HU : Hid (U8 l) := hu
  clear hr hu
  by_cases hlt : i < l.length
  · obtain ⟨b, off, rfl, hb, hcl⟩ : ∃ b off, x = some ⟨b, off, none⟩ ∧ b < w.heap.size ∧ ∀ i, i < l.length → w.cell? ⟨b, off + i, none⟩ = some (.int .u8 (l.getD i 0)) := by
      rcases HR.out with h | h
      · subst h; simp at hlt
      · exact h
    have hcell := hcl i hlt
    clear hcl
    obtain ⟨hub0, hub1⟩ := HU.out.at i
    generalize l.getD i 0 = c at *
    obtain ⟨C, rfl⟩ := Int.eq_ofNat_of_zero_le hub0
    go_enter Tryd.func16, Tryd.ntmps16
    go_wp2
    go_ret
    exact ⟨C, rfl, by omega, rfl⟩
  · go_enter Tryd.func16, Tryd.ntmps16
    go_wp2
    go_ret
    exact ⟨(i * 7 + l.length) % 256, by go_num, by omega, rfl⟩
end Go.Proofs.YtdaomoopiajecaaDoor
