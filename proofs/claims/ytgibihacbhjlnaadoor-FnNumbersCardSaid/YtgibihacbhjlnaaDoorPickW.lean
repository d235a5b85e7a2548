/-
  Own text: what FnNumbers draws: a number, a text; a byte of the code.
-/
import Derived.Test.YtgibihacbhjlnaaDoorCurW
namespace Go.Proofs.YtgibihacbhjlnaaDoor
open Go.RowKit

def numsL : List Int := [0, 1, 127, 128, 300, 16384, 2147483647, 2147483648, -1, 9223372036854775807]
def textsL : List ByteArray := [⟨#[]⟩, ⟨#[97]⟩, ⟨#[116, 119, 111, 32, 119, 111, 114, 100, 115]⟩, ⟨#[0, 255]⟩]

set_option maxRecDepth 20000 in
set_option maxHeartbeats 400000 in
theorem drawNum (x : Option Addr) (cap : Nat) (l : List Int) (w : World) (hl : l.length ≤ 1048576) (hu : U8 l) (hr : Rd .u8 w x l) :
    Calls Tryd.prog 9 #[.slice x l.length cap] w fun e w' => ∃ n ∈ numsL, e = .returned (.int .i64 n) ∧ Below w.heap.size w w' := by
  have HR : Hid (Rd .u8 w x l) := hr
  have HU : Hid (U8 l) := hu
  clear hr hu
  go_enter Tryd.func9, Tryd.ntmps9
  go_wp2_with fail
  refine (newCur x cap l _ hl HU.out HR.out).mono ?_
  rintro e w1 ⟨P, h, rfl, hP, hc1, hb1⟩
  have HC1 : Hid (Cur w1 P x l.length cap 0 h) := hc1
  have hlt := hc1.lt
  clear hc1
  go_wp2_with fail
  refine (pickInt P w1.heap.size x cap l 0 h numsL _ hl HU.out (fun b off hx hne => Nat.lt_of_lt_of_le (rd_block HR.out b off hx hne) hP) (Nat.zero_le _) ((HR.out.below hb1 (Nat.le_refl _)).below ((Below.refl _ _).alloc (Nat.le_refl _) _) (Nat.le_refl _)) (HC1.out.alloc _) 10 rfl (by omega) (by omega) (by omega) (fun j hj => cells_list numsL (Value.int .i64) 0 w1 _ _ rfl j hj)).mono ?_
  rintro e w2 ⟨r, _, _, hr, rfl, _, _, hg2⟩
  have hmem : numsL.getD r 0 ∈ numsL := by
    have e : numsL.getD r 0 = numsL[r] := by simp [List.getD, hr]
    rw [e]; exact List.getElem_mem hr
  have HM : Hid (numsL.getD r 0 ∈ numsL) := hmem
  have hb2 : Below w.heap.size w w2 := (hb1.alloc (by omega) _).grown hg2 (by simp; omega) (fun k hk => by simp at hk; omega)
  clear hmem hr hg2
  generalize numsL.getD r 0 = v at *
  go_wp2
  go_ret
  exact ⟨v, HM.out, rfl, hb2⟩

set_option maxRecDepth 20000 in
set_option maxHeartbeats 400000 in
theorem drawText (x : Option Addr) (cap : Nat) (l : List Int) (w : World) (hl : l.length ≤ 1048576) (hu : U8 l) (hr : Rd .u8 w x l) :
    Calls Tryd.prog 10 #[.slice x l.length cap] w fun e w' => ∃ s ∈ textsL, e = .returned (.string s) ∧ Below w.heap.size w w' := by
  have HR : Hid (Rd .u8 w x l) := hr
  have HU : Hid (U8 l) := hu
  clear hr hu
  go_enter Tryd.func10, Tryd.ntmps10
  go_wp2_with fail
  refine (newCur x cap l _ hl HU.out HR.out).mono ?_
  rintro e w1 ⟨P, h, rfl, hP, hc1, hb1⟩
  have HC1 : Hid (Cur w1 P x l.length cap 0 h) := hc1
  have hlt := hc1.lt
  clear hc1
  go_wp2_with fail
  refine (pickStr P w1.heap.size x cap l 0 h textsL _ hl HU.out (fun b off hx hne => Nat.lt_of_lt_of_le (rd_block HR.out b off hx hne) hP) (Nat.zero_le _) ((HR.out.below hb1 (Nat.le_refl _)).below ((Below.refl _ _).alloc (Nat.le_refl _) _) (Nat.le_refl _)) (HC1.out.alloc _) 4 rfl (by omega) (by omega) (by omega) (fun j hj => cells_list textsL Value.string ⟨#[]⟩ w1 _ _ rfl j hj)).mono ?_
  rintro e w2 ⟨r, _, _, hr, rfl, _, _, hg2⟩
  have hmem : textsL.getD r ⟨#[]⟩ ∈ textsL := by
    have e : textsL.getD r ⟨#[]⟩ = textsL[r] := by simp [List.getD, hr]
    rw [e]; exact List.getElem_mem hr
  have HM : Hid (textsL.getD r ⟨#[]⟩ ∈ textsL) := hmem
  have hb2 : Below w.heap.size w w2 := (hb1.alloc (by omega) _).grown hg2 (by simp; omega) (fun k hk => by simp at hk; omega)
  clear hmem hr hg2
  generalize textsL.getD r ⟨#[]⟩ = v at *
  go_wp2
  go_ret
  exact ⟨v, HM.out, rfl, hb2⟩

set_option maxRecDepth 20000 in
set_option maxHeartbeats 400000 in
theorem at0c (x : Option Addr) (cap : Nat) (l : List Int) (i : Nat) (w : World) (hl : l.length ≤ 1048576) (hu : U8 l) (hr : Rd .u8 w x l) (hi : i ≤ 1000) :
    Calls Tryd.prog 16 #[.slice x l.length cap, .int .i64 i] w fun e w' => ∃ r : Nat, e = .returned (.int .i64 r) ∧ r < 256 ∧ w' = w := by
  have HR : Hid (Rd .u8 w x l) := hr
  have HU : Hid (U8 l) := hu
  clear hr hu
  by_cases hlt : i < l.length
  · obtain ⟨b, off, rfl, hb, hcl⟩ : ∃ b off, x = some ⟨b, off, none⟩ ∧ b < w.heap.size ∧ ∀ i, i < l.length → w.cell? ⟨b, off + i, none⟩ = some (.int .u8 (l.getD i 0)) := by
      rcases HR.out with h | h
      · subst h; simp at hlt
      · exact h
    have hcell := hcl i hlt
    clear hcl
    obtain ⟨hub0, hub1⟩ := HU.out.at i
    generalize l.getD i 0 = c at *
    obtain ⟨C, rfl⟩ := Int.eq_ofNat_of_zero_le hub0
    go_enter Tryd.func16, Tryd.ntmps16
    go_wp2
    go_ret
    exact ⟨C, rfl, by omega, rfl⟩
  · go_enter Tryd.func16, Tryd.ntmps16
    go_wp2
    go_ret
    exact ⟨(i * 7 + l.length) % 256, by go_num, by omega, rfl⟩
end Go.Proofs.YtgibihacbhjlnaaDoor
