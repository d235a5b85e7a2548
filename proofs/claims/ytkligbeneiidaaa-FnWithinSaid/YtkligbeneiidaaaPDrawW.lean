/-
  Own text: the paths that the laws of names and paths draw: some text of at most 64 bytes each.
-/
import Derived.Test.YtkligbeneiidaaaCurW
import Derived.Test.YtkligbeneiidaaaAboveW
namespace Go.Proofs.Ytkligbeneiidaaa
open Go.RowKit

theorem cells_all {L : List ByteArray} (w : World) (C : Array Value) (t : TypeId) (hC : C = (L.map Value.string).toArray) : ∀ j, j < L.length → (w.alloc (.cells C t)).cell? ⟨w.heap.size, j, none⟩ = some (.string (L.getD j ⟨#[]⟩)) :=
  fun j hj => cells_list L Value.string ⟨#[]⟩ w C t hC j hj

def sixL : List ByteArray := [⟨#[]⟩, ⟨#[47]⟩, ⟨#[97]⟩, ⟨#[47, 65]⟩, ⟨#[47, 97, 47]⟩, ⟨#[47, 47]⟩, ⟨#[47, 116, 111, 111, 108, 111, 110, 103]⟩, ⟨#[47, 97, 47, 98, 47, 99, 47, 100, 47, 101]⟩, ⟨#[47, 97, 47, 98, 47, 99, 47, 100]⟩, ⟨#[47, 97, 32, 98]⟩, ⟨#[47, 126, 48]⟩, ⟨#[47, 97, 47, 46, 46]⟩]
def tenL : List ByteArray := [⟨#[47, 97]⟩, ⟨#[47, 98]⟩, ⟨#[47, 97, 47, 120]⟩, ⟨#[47, 97, 47, 121]⟩, ⟨#[47, 98, 47, 120]⟩, ⟨#[47, 99]⟩, ⟨#[47, 97, 47, 120, 47, 122]⟩, ⟨#[47, 100]⟩, ⟨#[47, 97, 47, 98]⟩, ⟨#[47, 101, 47, 102]⟩]

def normsL : List ByteArray := [⟨#[47]⟩, ⟨#[]⟩, ⟨#[47, 47, 97, 47, 47, 98]⟩, ⟨#[47, 97, 47, 46, 47, 98]⟩, ⟨#[47, 97, 47, 46, 46, 47, 98]⟩, ⟨#[47, 46, 46]⟩, ⟨#[47, 46, 46, 47, 97]⟩, ⟨#[47, 97, 47, 98, 47, 46, 46, 47, 46, 46, 47, 99]⟩, ⟨#[97, 47, 98]⟩, ⟨#[47, 97, 47, 46, 46, 46]⟩, ⟨#[47, 97, 47, 98, 47, 99, 47, 100, 47, 101, 47, 46, 46]⟩, ⟨#[47, 97, 47, 98, 47, 99, 47, 100, 47, 101, 47, 46, 46, 47, 46, 46]⟩, ⟨#[47, 97, 97, 97, 97, 97, 97, 47, 97, 97, 97, 97, 97, 97, 47, 97, 97, 97, 97, 97, 97, 47, 97, 97, 97, 97, 97, 97, 47, 46, 46, 47, 97, 97, 97, 97, 97, 97, 47, 46, 46, 47, 97, 97, 97, 97, 97, 97, 47, 46, 46, 47, 97, 97, 97, 97, 97, 97, 47, 46, 47, 46]⟩, ⟨#[47, 97, 97, 97, 97, 97, 97, 47, 97, 97, 97, 97, 97, 97, 47, 97, 97, 97, 97, 97, 97, 47, 97, 97, 97, 97, 97, 97, 47, 46, 46, 47, 97, 97, 97, 97, 97, 97, 47, 46, 46, 47, 97, 97, 97, 97, 97, 97, 47, 46, 46, 47, 97, 97, 97, 97, 97, 97, 47, 46]⟩, ⟨#[47, 65, 47, 46, 46]⟩]

theorem pathsW (w : World) : Calls Try.prog 53 #[] w fun e w' => e = .returned (.slice (some ⟨w.heap.size, 0, none⟩) 10 10) ∧ w' = w.alloc (.cells (tenL.map Value.string).toArray 9) := by
  go_enter Try.func53, Try.ntmps53
  go_wp2
  go_ret
  exact ⟨rfl, rfl⟩

set_option maxRecDepth 20000 in
set_option maxHeartbeats 400000 in
theorem pathD (P : Nat) (x : Option Addr) (cap : Nat) (l : List Int) (w : World) (hd : Drw w P x cap l) :
    Calls Try.prog 43 #[.pointer (some ⟨P, 0, none⟩)] w fun e w' => ∃ s : ByteArray, e = .returned (.string s) ∧ s.size ≤ 64 ∧ Drw w' P x cap l ∧ Below P w w' := by
  have HD : Hid (Drw w P x cap l) := hd
  have hlt := hd.lt
  clear hd
  go_enter Try.func43, Try.ntmps43
  go_wp2_with fail
  refine (onceD P x cap l 12 _ HD.out (by omega) (by omega)).mono ?_
  rintro e w1 ⟨q, rfl, hd1, hg1⟩
  have HD1 : Hid (Drw w1 P x cap l) := hd1
  have hlt1 := hd1.lt
  have hb1 := below_grownP hg1 hlt
  clear hd1 hg1
  cases q with
  | true =>
    go_wp2_with fail
    refine (pickD P w1.heap.size x cap l sixL _ (HD1.out.alloc _) 12 rfl (by omega) (by omega) (by omega) (cells_all w1 _ _ rfl)).mono ?_
    rintro e w2 ⟨s, hs, rfl, hd2, hg2⟩
    have HD2 : Hid (Drw w2 P x cap l) := hd2
    have hb2 : Below P w w2 := (hb1.alloc (by omega) _).grown hg2 (by simp; omega) (fun k hk => by simp at hk; omega)
    have HS : Hid (s.size ≤ 64) := by
      have : ∀ y ∈ sixL, y.size ≤ 64 := by decide
      exact this s hs
    clear hd2 hg2 hs
    go_wp2
    go_ret
    exact ⟨s, rfl, HS.out, HD2.out, hb2⟩
  | false =>
    go_wp2_with fail
    refine (pathsW _).mono ?_
    rintro e w2 ⟨rfl, hw2⟩
    have HL : Hid (∀ j, j < tenL.length → w2.cell? ⟨w1.heap.size, j, none⟩ = some (.string (tenL.getD j ⟨#[]⟩))) := by
      rw [hw2]; exact cells_all w1 _ _ rfl
    have HD2 : Hid (Drw w2 P x cap l) := by rw [hw2]; exact HD1.out.alloc _
    have hb2 : Below P w w2 := by rw [hw2]; exact hb1.alloc (by omega) _
    have hlt2 := HD2.out.lt
    clear hw2
    go_wp2_with fail
    refine (pickD P w1.heap.size x cap l tenL _ HD2.out 10 rfl (by omega) (by omega) (by omega) HL.out).mono ?_
    rintro e w3 ⟨s, hs, rfl, hd3, hg3⟩
    have HD3 : Hid (Drw w3 P x cap l) := hd3
    have hb3 : Below P w w3 := hb2.trans (below_grownP hg3 hlt2)
    have HS : Hid (s.size ≤ 64) := by
      have : ∀ y ∈ tenL, y.size ≤ 64 := by decide
      exact this s hs
    clear hd3 hg3 hs
    go_wp2
    go_ret
    exact ⟨s, rfl, HS.out, HD3.out, hb3⟩

set_option maxRecDepth 20000 in
set_option maxHeartbeats 400000 in
theorem drawWithin (x : Option Addr) (cap : Nat) (l : List Int) (w : World) (hl : l.length ≤ 1048576) (hu : U8 l) (hr : Rd .u8 w x l) :
    Calls Try.prog 24 #[.slice x l.length cap] w fun e w' => ∃ s t : ByteArray, e = .returned (.tuple #[.string s, .string t]) ∧ s.size ≤ 64 ∧ t.size ≤ 64 ∧ Below w.heap.size w w' := by
  have HR : Hid (Rd .u8 w x l) := hr
  have HU : Hid (U8 l) := hu
  clear hr hu
  go_enter Try.func24, Try.ntmps24
  go_wp2_with fail
  refine (newD x cap l _ hl HU.out HR.out).mono ?_
  rintro e w1 ⟨P, rfl, hP, hd1, hb1⟩
  have HD1 : Hid (Drw w1 P x cap l) := hd1
  clear hd1
  go_wp2_with fail
  refine (pathD P x cap l _ HD1.out).mono ?_
  rintro e w2 ⟨s, rfl, hs, hd2, hb2⟩
  have HD2 : Hid (Drw w2 P x cap l) := hd2
  have hlt2 := hd2.lt
  have hb02 : Below w.heap.size w w2 := hb1.trans (hb2.mono hP)
  clear hd2 hb1 hb2
  go_wp2_with fail
  refine (onceD P x cap l 3 _ HD2.out (by omega) (by omega)).mono ?_
  rintro e w3 ⟨q, rfl, hd3, hg3⟩
  have HD3 : Hid (Drw w3 P x cap l) := hd3
  have hb03 : Below w.heap.size w w3 := hb02.trans ((below_grownP hg3 hlt2).mono hP)
  clear hd3 hg3 hb02
  cases q with
  | true =>
    go_wp2_with fail
    refine (specAbove s _ (by omega)).mono ?_
    rintro e w4 ⟨rfl, hb4⟩
    have HAB : Hid ((tx (abv (bt s))).size ≤ 64) := by
      show _ ≤ _
      rw [tx_size]
      unfold abv
      split
      · have hall := nms_all (bt s)
        have hd : (nms (bt s)).dropLast.all nmOk = true := by
          rw [List.all_eq_true]
          intro y hy
          exact List.all_eq_true.1 hall.2 y (List.dropLast_subset _ hy)
        have h4 : (nms (bt s)).dropLast.length ≤ 4 := by simp; omega
        have := (nms_ptOf h4 hd).1
        have := pt_len this
        omega
      · simp
    generalize tx (abv (bt s)) = z at *
    go_wp2
    go_ret2
    exact ⟨s, z, rfl, hs, HAB.out, hb03.trans (hb4.mono hb03.size)⟩
  | false =>
    go_wp2_with fail
    refine (pathD P x cap l _ HD3.out).mono ?_
    rintro e w4 ⟨t, rfl, ht, hd4, hb4⟩
    clear hd4
    go_wp2
    go_ret2
    exact ⟨s, t, rfl, hs, ht, hb03.trans (hb4.mono hP)⟩

set_option maxRecDepth 20000 in
set_option maxHeartbeats 400000 in
theorem drawNormal (x : Option Addr) (cap : Nat) (l : List Int) (w : World) (hl : l.length ≤ 1048576) (hu : U8 l) (hr : Rd .u8 w x l) :
    Calls Try.prog 15 #[.slice x l.length cap] w fun e w' => ∃ s : ByteArray, e = .returned (.string s) ∧ s.size ≤ 64 ∧ Below w.heap.size w w' := by
  have HR : Hid (Rd .u8 w x l) := hr
  have HU : Hid (U8 l) := hu
  clear hr hu
  go_enter Try.func15, Try.ntmps15
  go_wp2_with fail
  refine (newD x cap l _ hl HU.out HR.out).mono ?_
  rintro e w1 ⟨P, rfl, hP, hd1, hb1⟩
  have HD1 : Hid (Drw w1 P x cap l) := hd1
  have hlt1 := hd1.lt
  clear hd1
  go_wp2_with fail
  refine (onceD P x cap l 3 _ HD1.out (by omega) (by omega)).mono ?_
  rintro e w3 ⟨q, rfl, hd3, hg3⟩
  have HD3 : Hid (Drw w3 P x cap l) := hd3
  have hlt3 := hd3.lt
  have hb03 : Below w.heap.size w w3 := hb1.trans ((below_grownP hg3 hlt1).mono hP)
  clear hd3 hg3 hb1
  cases q with
  | true =>
    go_wp2_with fail
    refine (pickD P w3.heap.size x cap l normsL _ (HD3.out.alloc _) 15 rfl (by omega) (by omega) (by omega) (cells_all w3 _ _ rfl)).mono ?_
    rintro e w4 ⟨s, hs, rfl, hd4, hg4⟩
    have hb4 : Below w.heap.size w w4 := (hb03.alloc (by have := hb03.size; omega) _).grown hg4 (by have := hb03.size; simp; omega) (fun k hk => by simp at hk; omega)
    have HS : Hid (s.size ≤ 64) := by
      have : ∀ y ∈ normsL, y.size ≤ 64 := by decide
      exact this s hs
    clear hd4 hg4 hs
    go_wp2
    go_ret
    exact ⟨s, rfl, HS.out, hb4⟩
  | false =>
    go_wp2_with fail
    refine (pathD P x cap l _ HD3.out).mono ?_
    rintro e w4 ⟨t, rfl, ht, hd4, hb4⟩
    clear hd4
    go_wp2
    go_ret
    exact ⟨t, rfl, ht, hb03.trans (hb4.mono hP)⟩
end Go.Proofs.Ytkligbeneiidaaa
