/-
  Own text: a row of entries as it is drawn.
-/
import Derived.Test.YtogpgocldgdeaaaDoorBunO
import Derived.Test.YtogpgocldgdeaaaDoorSAddW
import Derived.Test.YtogpgocldgdeaaaDoorAppAt
import Derived.Test.YtogpgocldgdeaaaDoorDigS
namespace Go.Proofs.YtogpgocldgdeaaaDoor
open Go.RowKit

/-- A row that was drawn: its blocks lie behind where the draw began. -/
def RowD (lo : Nat) (w : World) (v : Value) (D : List EntD) : Prop := w.ownsRow lo 32 2 v D.length (D.flatMap encN)
theorem RowD.onlyP {lo P : Nat} {w w' : World} {v : Value} {D : List EntD} (h : RowD lo w v D) (ho : OnlyP P w w') (hP : P < lo) : RowD lo w' v D := own_only h ho fun k hk hkP => by
  have := (h.lt k hk).1
  have : k = P := hkP
  omega
theorem RowD.below {lo : Nat} {w w' : World} {v : Value} {D : List EntD} (h : RowD lo w v D) (hb : Below w.heap.size w w') : RowD lo w' v D := ownsRow_below h hb (Nat.le_refl _)
theorem onlyP_new {P : Nat} {w w' : World} (hb : Below w.heap.size w w') : OnlyP P w w' := Only.of_new hb
theorem onlyP_row {P lo : Nat} {w w1 w2 : World} (h : OnlyP P w w1) (hlo : w.heap.size ≤ lo) (hg : Only (fun k => lo ≤ k) w1 w2) : OnlyP P w w2 := Only.trans' h (hg.mono fun _ _ hk => Nat.le_trans hlo hk)
theorem szEn_set (l : List EntD) (i : Nat) (e : EntD) : szEn (l.set i e) ≤ szEn l + 1 + e.1.size := by
  induction l generalizing i with
  | nil => simp [szEn]
  | cons x l ih =>
    cases i with
    | zero => simp [szEn]; omega
    | succ i =>
      have := ih i
      simp only [List.set_cons_succ, szEn, List.map_cons, List.sum_cons] at this ⊢
      omega

set_option maxRecDepth 20000 in
theorem names8 (w : World) : Calls Tryd.prog 54 #[] w fun e w' => e = .returned (.slice (some ⟨w.heap.size, 0, none⟩) 8 8) ∧ w' = w.alloc (.cells #[.string ⟨#[97]⟩, .string ⟨#[98]⟩, .string ⟨#[99]⟩, .string ⟨#[120]⟩, .string ⟨#[121]⟩, .string ⟨#[122, 57]⟩, .string ⟨#[126]⟩, .string ⟨#[115, 105, 120, 115, 105, 120]⟩] 9) := by
  go_enter Tryd.func54, Tryd.ntmps54
  go_wp2
  go_ret
  exact ⟨rfl, rfl⟩

set_option maxRecDepth 20000 in
set_option maxHeartbeats 2000000 in
theorem right8 (P : Nat) (x : Option Addr) (cap : Nat) (l : List Int) (w : World) (hd : Drw w P x cap l) :
    Calls Tryd.prog 40 #[.pointer (some ⟨P, 0, none⟩)] w fun e w' => ∃ v D, e = .returned v ∧ szEn D ≤ 42 ∧ RowD w.heap.size w' v D ∧ Drw w' P x cap l ∧ OnlyP P w w' := by
  have hlt := hd.lt
  have HR0 : Hid (RowD w.heap.size (w.alloc (.cells #[] 32)) (.slice (some ⟨w.heap.size, 0, none⟩) 0 0) []) := World.ownsRow_made w #[] 0 (Nat.le_refl _) (Nat.zero_le _) rfl
  have hd0 := hd.alloc (.cells #[] 32)
  have ho0 : OnlyP P w (w.alloc (.cells #[] 32)) := onlyP_new (below1 w _)
  clear hd
  go_enter Tryd.func40, Tryd.ntmps40
  go_wp2_with fail
  refine (belowO P x cap l 7 _ hd0 (by omega) (by omega)).mono ?_
  rintro e w1 ⟨n, rfl, hn, hd1, hp1⟩
  have HR1 : Hid (RowD w.heap.size w1 (.slice (some ⟨w.heap.size, 0, none⟩) 0 0) []) := HR0.out.onlyP hp1 hlt
  have ho1 := ho0.trans hp1
  clear hd0 HR0 ho0 hp1
  go_wp2
  go_loopw [3, 5] (fun v i wr => ∃ (k : Nat) (v' : Value) (D : List EntD), v' = v ∧ k ≤ n ∧ i = .int .i64 k ∧ Hid (szEn D ≤ 7 * k ∧ RowD w.heap.size wr v' D ∧ OnlyP P w wr) ∧ Drw wr P x cap l) (fun _ i _ => n - (intOf i).toNat)
  case atStart => exact ⟨0, _, [], rfl, Nat.zero_le _, rfl, ⟨by simp [szEn], HR1.out, ho1⟩, hd1⟩
  case round =>
    clear HR1 ho1 hd1
    obtain ⟨k, v', D, rfl, hk, rfl, HI, hdr⟩ := hrel
    by_cases hkn : k < n
    · go_wp2_with fail
      refine (names8 _).mono ?_
      rintro e w2 ⟨rfl, hw2⟩
      have hdA : Drw w2 P x cap l := by rw [hw2]; exact hdr.alloc _
      have hrl := hdr.lt
      have HCL : Hid (∀ j, j < ([⟨#[97]⟩, ⟨#[98]⟩, ⟨#[99]⟩, ⟨#[120]⟩, ⟨#[121]⟩, ⟨#[122, 57]⟩, ⟨#[126]⟩, ⟨#[115, 105, 120, 115, 105, 120]⟩] : List ByteArray).length → w2.cell? ⟨wr.heap.size, j, none⟩ = some (.string (([⟨#[97]⟩, ⟨#[98]⟩, ⟨#[99]⟩, ⟨#[120]⟩, ⟨#[121]⟩, ⟨#[122, 57]⟩, ⟨#[126]⟩, ⟨#[115, 105, 120, 115, 105, 120]⟩] : List ByteArray).getD j ⟨#[]⟩))) := by
        rw [hw2]
        exact fun j hj => cells_list _ Value.string ⟨#[]⟩ wr _ _ rfl j hj
      have HI2 : Hid (szEn D ≤ 7 * k ∧ RowD w.heap.size w2 v' D ∧ OnlyP P w w2) := by
        rw [hw2]
        exact ⟨HI.out.1, HI.out.2.1.below (below1 wr _), HI.out.2.2.trans (onlyP_new (below1 wr _))⟩
      clear hw2 HI hdr
      go_wp2_with fail
      refine (pickO P wr.heap.size x cap l [⟨#[97]⟩, ⟨#[98]⟩, ⟨#[99]⟩, ⟨#[120]⟩, ⟨#[121]⟩, ⟨#[122, 57]⟩, ⟨#[126]⟩, ⟨#[115, 105, 120, 115, 105, 120]⟩] _ hdA 8 rfl (by omega) (by omega) (by omega) HCL.out).mono ?_
      rintro e w3 ⟨s, hs, rfl, hd3, hp3⟩
      have hs6 : s.size ≤ 6 := by
        simp only [List.mem_cons, List.not_mem_nil, or_false] at hs
        rcases hs with rfl | rfl | rfl | rfl | rfl | rfl | rfl | rfl <;> decide
      have HI3 : Hid (szEn D ≤ 7 * k ∧ RowD w.heap.size w3 v' D ∧ OnlyP P w w3) := ⟨HI2.out.1, HI2.out.2.1.onlyP hp3 hlt, HI2.out.2.2.trans hp3⟩
      clear hs HCL HI2 hdA hp3
      go_wp2_with fail
      refine (belowO P x cap l 9 _ hd3 (by omega) (by omega)).mono ?_
      rintro e w4 ⟨m, rfl, hm, hd4, hp4⟩
      have HI4 : Hid (szEn D ≤ 7 * k ∧ RowD w.heap.size w4 v' D ∧ OnlyP P w w4) := ⟨HI3.out.1, HI3.out.2.1.onlyP hp4 hlt, HI3.out.2.2.trans hp4⟩
      have HCA : Hid (Calls Tryd.prog 8 #[v', .string s, .int .i64 (1 + (m : Int))] w4 fun e w' => ∃ v, e = .returned (.tuple #[v, .bool (addOk D s (1 + (m : Int)))]) ∧ OwnEn w' w4.heap.size w'.heap.size v (addD D s (1 + (m : Int))) ∧ Below w4.heap.size w4 w') := by
        obtain ⟨a, c, rfl, hc, hr⟩ := own_rdF encN_len HI4.out.2.1 rfl
        have := HI4.out.1
        exact specDirAdd a c D s (1 + (m : Int)) w4 (by omega) (by omega) hc hr
      clear HI3 hd3 hp4
      go_wp2_with fail
      refine HCA.out.mono ?_
      rintro e w5 ⟨v5, rfl, ho5, hb5⟩
      have HI5 : Hid (szEn (addD D s (1 + (m : Int))) ≤ 7 * (k + 1) ∧ RowD w.heap.size w5 v5 (addD D s (1 + (m : Int))) ∧ OnlyP P w w5) := by
        refine ⟨?_, ownsRow_base ho5.1 HI4.out.2.2.size, HI4.out.2.2.trans (onlyP_new hb5)⟩
        have := HI4.out.1
        unfold addD
        split
        · rw [enAdded_sz]; omega
        · omega
      have hd5 : Drw w5 P x cap l := hd4.far hb5 hd4.lt
      clear HI4 HCA ho5 hb5 hd4
      go_wp2
      go_roundw
      case rel => exact ⟨k + 1, _, _, rfl, by omega, by go_num, HI5, hd5⟩
      case measure => simp [intOf]; omega
    · go_wp2
      go_ret
      exact ⟨_, D, rfl, by have := HI.out.1; omega, HI.out.2.1, hdr, HI.out.2.2⟩

theorem rowD_two {lo : Nat} {w : World} {v : Value} {D : List EntD} (h : RowD lo w v D) (h2 : 1 < D.length) : ∃ g cap, v = .slice (some ⟨g, 0, none⟩) D.length cap ∧ lo ≤ g ∧ w.cell? ⟨g, 2, none⟩ = some (.string (D[1]).1) ∧ w.cell? ⟨g, 3, none⟩ = some (.int .i64 (D[1]).2) ∧ (w.cell? ⟨g, 0, none⟩).isSome = true ∧ (w.cell? ⟨g, 1, none⟩).isSome = true ∧ w.frozen? ⟨g, 0, none⟩ = false ∧ w.frozen? ⟨g, 1, none⟩ = false ∧ RowD lo ((w.setCell ⟨g, 0, none⟩ (.string (D[1]).1)).setCell ⟨g, 1, none⟩ (.int .i64 (D[1]).2)) v (D.set 0 D[1]) := by
  rcases h.2 with ⟨rfl, h0⟩ | ⟨g, cap, cur, rfl, hbg, hg, hnc, hcm, hcs, htake⟩
  · omega
  have ho : w.ownsRow lo 32 2 (.slice (some ⟨g, 0, none⟩) D.length cap) D.length (D.flatMap encN) := h
  have c2 := ho.cellAt 2 (by omega)
  have c3 := ho.cellAt 3 (by omega)
  have c0 := ho.cellAt 0 (by omega)
  have c1 := ho.cellAt 1 (by omega)
  have e0 := entCells (l := D) (i := 0) (by omega)
  have e1 := entCells (l := D) (i := 1) (by omega)
  simp only [Nat.one_mul, Nat.zero_mul, Nat.zero_add] at e0 e1
  rw [e1.1] at c2
  rw [e1.2] at c3
  rw [e0.1] at c0
  rw [e0.2] at c1
  have hst := ((ho.stored 0 (.string (D[1]).1)).1.stored 1 (.int .i64 (D[1]).2)).1
  have hbt := entBoth D 0 (by omega) (D[1]).1 (D[1]).2
  simp only [Nat.zero_mul, Nat.zero_add] at hbt
  rw [hbt] at hst
  refine ⟨g, cap, rfl, hbg, c2, c3, by rw [c0]; rfl, by rw [c1]; rfl, ho.frozenAt 0, ho.frozenAt 1, ?_⟩
  unfold RowD
  rw [List.length_set]
  exact hst
end Go.Proofs.YtogpgocldgdeaaaDoor
