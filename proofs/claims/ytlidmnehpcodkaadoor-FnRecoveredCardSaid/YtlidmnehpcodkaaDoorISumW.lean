/-
  Own text: the check sum of a row of texts, and its four bytes, as the program makes them.
-/
import Derived.Test.YtlidmnehpcodkaaDoorBunJ
import Derived.Test.YtlidmnehpcodkaaDoorBunS
namespace Go.Proofs.YtlidmnehpcodkaaDoor
open Go.RowKit

set_option maxRecDepth 20000 in
set_option maxHeartbeats 1000000 in
theorem implSum (a : Option Addr) (cap : Nat) (l : List ByteArray) (w : World) (hl : l.length ≤ 48) (hz : ∀ s ∈ l, s.size ≤ 90) (hr : RdS w a l) :
    Calls Tryd.prog 71 #[.slice a l.length cap] w fun e w' => e = .returned (.int .i64 ((sumOf l : Nat) : Int)) ∧ Below w.heap.size w w' := by
  obtain ⟨i0, hi, hz0, hz1, hz2⟩ := info_parts Tryd.infoU8
  have HCS : Hid (∀ k (hk : k < l.length), ∃ x off, a = some ⟨x, off, none⟩ ∧ x < w.heap.size ∧ w.cell? ⟨x, off + k, none⟩ = some (.string l[k])) := fun k hk => hr.cellT k hk
  have HZ : Hid (∀ k (hk : k < l.length), l[k].size ≤ 90) := fun k hk => hz _ (List.getElem_mem hk)
  have HL : Hid (∀ k, k ≤ l.length → (sumB (l.take k)).length ≤ 4560) := by
    intro k hk
    have := sumB_len (l := l.take k) (fun s hs => hz s (List.mem_of_mem_take hs))
    simp at this
    omega
  have HS : Hid (sumOf l = crcTo (sumB l) (sumB l).length ^^^ 4294967295) := rfl
  have hmade : w.ownsRow w.heap.size 5 1 (.slice none 0 0) 0 [] := World.ownsRow_nil _ _ _ _
  clear hr hz
  go_enter Tryd.func71, Tryd.ntmps71
  go_wp2
  go_loopw [3, 8] (fun v i wr => ∃ k : Nat, k ≤ l.length ∧ i = .int .i64 k ∧ wr.ownsRow w.heap.size 5 1 v (sumB (l.take k)).length ((sumB (l.take k)).map (Value.int .u8)) ∧ Below w.heap.size w wr) (fun _ i _ => l.length - (intOf i).toNat)
  case atStart => exact ⟨0, Nat.zero_le _, rfl, hmade, Below.refl _ _⟩
  case round =>
    obtain ⟨k, hk, rfl, hO, hb⟩ := hrel
    clear hmade
    by_cases hlt : k < l.length
    · obtain ⟨x, off, rfl, hblt, hcx⟩ := HCS.out k hlt
      have hcr : wr.cell? ⟨x, off + k, none⟩ = some (.string l[k]) := (hb.cell hblt).trans hcx
      have hsz := HZ.out k hlt
      have HTK : Hid (sumB (l.take (k + 1)) = sumB (l.take k) ++ putText l[k]) := sumB_take hlt
      have hl0 := HL.out k hk
      clear hcx
      generalize l[k] = y at *
      have HPT : Hid (Calls Tryd.prog 106 #[.string y] wr fun e w' => ∃ v, e = .returned v ∧ w'.ownsRow wr.heap.size 5 1 v (putText y).length ((putText y).map (Value.int .u8)) ∧ Below wr.heap.size wr w') := implPutText y wr (by omega)
      have hpl := putText_len y
      generalize putText y = py at *
      generalize sumB (l.take k) = p0 at *
      go_wp2_with fail
      refine HPT.out.mono ?_
      rintro e w1 ⟨v1, rfl, ho1, hb1⟩
      have hO1 := ownsRow_below hO hb1 (Nat.le_refl _)
      have HSR : Hid (Src Tryd.prog 1 22 v1 py.length (py.map (Value.int .u8)) w1) := src_own Tryd.underlying22 ho1 (fun u hu => by obtain ⟨_, _, rfl⟩ := List.mem_map.1 hu; rfl)
      have hb01 : Below w.heap.size w w1 := hb.trans (hb1.mono hb.size)
      clear hO hb1 ho1
      go_wp2_with (at_builtin; refine wpList_append_own_src _ rfl _ _ 22 22 rfl w.heap.size 5 i0 (.int .u8 0) 1 1 Tryd.underlying22 hi hz0 hz1 hz2 rfl _ _ _ rfl hO1 _ _ _ rfl HSR.out (by unfold maxLen; omega) (by omega) hb01.size ?_)
      intro v2 w2 ho2 hg2
      have hb2 : Below w.heap.size w w2 := hb01.grown hg2 hb01.size (fun j hj => (hO1.lt j hj).1)
      have ho3 : w2.ownsRow w.heap.size 5 1 v2 (sumB (l.take (k + 1))).length ((sumB (l.take (k + 1))).map (Value.int .u8)) := by
        rw [HTK.out, List.map_append, List.length_append]; exact ho2
      clear ho2 hg2 hO1 HSR hb01
      go_wp2
      go_roundw
      case rel => exact ⟨k + 1, by omega, by go_num, ho3, hb2⟩
      case measure => simp [intOf]; omega
    · obtain rfl : k = l.length := by omega
      rw [List.take_length] at hO
      have hl1 := HL.out l.length (Nat.le_refl _)
      rw [List.take_length] at hl1
      have hu := sumB_u8 l
      obtain ⟨q, qc, rfl, hrq⟩ := own_rd hO
      have HC : Hid (Calls Tryd.prog 107 #[.slice q (sumB l).length qc] wr fun e w' => e = .returned (.int .i64 ((sumOf l : Nat) : Int)) ∧ w' = wr) := by
        show Calls _ _ _ _ _
        rw [HS.out]
        exact implCrc q qc (sumB l) wr (by omega) hu hrq.2
      clear hO hrq hu
      generalize (sumB l).length = N at *
      go_wp2_with fail
      refine HC.out.mono ?_
      rintro e w1 ⟨rfl, hw1⟩
      subst w1
      go_wp2
      go_ret
      exact ⟨rfl, hb⟩

/-- The low k of the four bytes are there; the others are still nothing. -/
def fourTo (n : Nat) (k : Nat) : List Int := List.replicate (4 - k) 0 ++ (four n).drop (4 - k)
theorem fourTo_len (n k : Nat) (_ : k ≤ 4) : (fourTo n k).length = 4 := by simp [fourTo, four]
theorem four_set (n k : Nat) (h : k < 4) : (fourTo n k).set (3 - k) ((n / 256 ^ k % 256 : Nat) : Int) = fourTo n (k + 1) ∨ 4294967296 ≤ n := by
  by_cases hn : 4294967296 ≤ n
  · exact .inr hn
  refine .inl ?_
  rcases (show k = 0 ∨ k = 1 ∨ k = 2 ∨ k = 3 by omega) with rfl | rfl | rfl | rfl
  · simp [fourTo, four]
  · simp [fourTo, four]
  · simp [fourTo, four]
  · simp [fourTo, four]
    omega

set_option maxRecDepth 20000 in
set_option maxHeartbeats 1000000 in
theorem implPutSum (n : Nat) (w : World) (hn : n < 4294967296) :
    Calls Tryd.prog 70 #[.int .i64 n] w fun e w' => ∃ v, e = .returned v ∧ w'.ownsRow w.heap.size 5 1 v 4 ((four n).map (Value.int .u8)) ∧ Below w.heap.size w w' := by
  obtain ⟨i0, hi, hz0, hz1, hz2⟩ := info_parts Tryd.infoU8
  go_enter Tryd.func70, Tryd.ntmps70
  go_wp2_with (at_make; refine wpList_make_full _ rfl _ _ 22 rfl w.heap.size 5 i0 (.int .u8 0) 1 Tryd.underlying22 hi hz0 hz1 _ _ _ _ 4 rfl rfl rfl rfl (by rw [hz2]; omega) (by unfold maxLen; omega) (Nat.le_refl _) ?_)
  intro w1 hown hgrow
  have hown1 : w1.ownsRow w.heap.size 5 1 (.slice (some ⟨w.heap.size, 0, none⟩) 4 4) 4 ((fourTo n 0).map (Value.int .u8)) := by
    rw [show (fourTo n 0).map (Value.int .u8) = (madeCells #[Value.int .u8 0] 4).toList by have h := made_flat (enc := fun x : Int => [Value.int .u8 x]) (sz := 1) (fun _ => rfl) 0 #[Value.int .u8 0] rfl (by omega) 4; rw [h]; simp [fourTo, four]]
    exact hown
  have hb1 : Below w.heap.size w w1 := (Below.refl _ _).grown hgrow (Nat.le_refl _) (fun k h => by simp at h)
  have hstart : (n : Int) = ((n / 256 ^ 0 : Nat) : Int) := by simp
  clear hown hgrow
  go_wp2
  go_loopw [0, 4] (fun x i wr => ∃ j : Nat, j ≤ 4 ∧ i = .int .i64 (3 - (j : Int)) ∧ x = .int .i64 ((n / 256 ^ j : Nat) : Int) ∧ wr.ownsRow w.heap.size 5 1 (.slice (some ⟨w.heap.size, 0, none⟩) 4 4) 4 ((fourTo n j).map (Value.int .u8)) ∧ Below w.heap.size w wr) (fun _ i _ => (intOf i + 1).toNat)
  case atStart => exact ⟨0, by omega, rfl, by rw [← hstart], hown1, hb1⟩
  case round =>
    obtain ⟨j, hj, rfl, rfl, ho, hb⟩ := hrel
    clear hstart hown1 hb1
    by_cases hlt : j < 4
    · have hs := (four_set n j hlt).resolve_right (by omega)
      have hX : n / 256 ^ j < 4294967296 := Nat.lt_of_le_of_lt (Nat.div_le_self _ _) hn
      have hX2 : n / 256 ^ (j + 1) = n / 256 ^ j / 256 := by rw [Nat.pow_succ, Nat.div_div_eq_div_mul]
      have hf0 := ho.frozenAt (3 - j)
      have hx0 := ho.cellAt (3 - j) (by have := fourTo_len n j hj; simp; omega)
      obtain ⟨y, hy⟩ : ∃ y, ((fourTo n j).map (Value.int .u8))[3 - j]? = some (.int .u8 y) := by
        have hl := fourTo_len n j hj
        exact ⟨_, by rw [List.getElem?_map, List.getElem?_eq_getElem (by omega)]; rfl⟩
      rw [hy] at hx0
      have hst := (ho.stored (3 - j) (.int .u8 ((n / 256 ^ j % 256 : Nat) : Int))).1
      rw [show ((fourTo n j).map (Value.int .u8)).set (3 - j) (.int .u8 ((n / 256 ^ j % 256 : Nat) : Int)) = (fourTo n (j + 1)).map (Value.int .u8) by rw [← hs, List.map_set]] at hst
      have hb3 : Below w.heap.size w (wr.setCell ⟨w.heap.size, 3 - j, none⟩ (.int .u8 ((n / 256 ^ j % 256 : Nat) : Int))) := hb.setCell (Nat.le_refl _) _
      have HX3 : Hid (Value.int .i64 ((n / 256 ^ j : Nat) / 256 : Int) = Value.int .i64 ((n / 256 ^ (j + 1) : Nat) : Int)) := by show _ = _; rw [hX2]; rfl
      clear hs hX2 hy ho hb
      generalize n / 256 ^ j = X at *
      have hcv : IntKind.u8.wrap (X : Int) = ((X % 256 : Nat) : Int) := by rw [IntKind.wrap_u8]; omega
      obtain ⟨i, hi3⟩ : ∃ i : Nat, 3 - j = i := ⟨_, rfl⟩
      have hi4 : (3 - (j : Int)) = (i : Int) := by omega
      rw [hi4]
      rw [hi3] at hf0 hx0 hst hb3
      have hi5 : i < 4 := by omega
      go_wp2
      go_roundw
      case rel => exact ⟨j + 1, by omega, by go_num, by rw [← HX3.out], hst, hb3⟩
      case measure => simp [intOf]
    · obtain rfl : j = 4 := by omega
      go_wp2
      go_ret
      exact ⟨_, rfl, ho, hb⟩
end Go.Proofs.YtlidmnehpcodkaaDoor
