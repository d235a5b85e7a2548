/-
  Own text: the two PutNum functions answer a new row that holds 'putNum', and turn nothing that was there.
-/
import Derived.Test.YtaabcfgjmankgaaDoorRows
import Derived.Test.YtaabcfgjmankgaaDoorNumBase
namespace Go.Proofs.YtaabcfgjmankgaaDoor
open Go.RowKit

theorem Tryd.infoU8 : (Tryd.prog.info? 5).map (fun i => (i.zero, i.size, i.bytes)) = some (some (.int .u8 0), 1, 1) := by kernel_rfl

theorem inY (n : Int) (w : World) (h : 0 ≤ n ∧ n ≤ 2147483647) : Calls Tryd.prog 29 #[.int .i64 n, .int .i64 0, .int .i64 2147483647] w fun e w' => e = .returned (.bool true) ∧ w' = w := by
  obtain ⟨h1, h2⟩ := h
  go_enter Tryd.func29, Tryd.ntmps29
  go_wp2
  go_ret
  exact ⟨rfl, rfl⟩

theorem inN (n : Int) (w : World) (h : ¬ (0 ≤ n ∧ n ≤ 2147483647)) : Calls Tryd.prog 29 #[.int .i64 n, .int .i64 0, .int .i64 2147483647] w fun e w' => e = .returned (.bool false) ∧ w' = w := by
  by_cases h1 : 0 ≤ n
  · have h2 : ¬ n ≤ 2147483647 := fun x => h ⟨h1, x⟩
    clear h
    go_enter Tryd.func29, Tryd.ntmps29
    go_wp2
    go_ret
    exact ⟨rfl, rfl⟩
  · clear h
    go_enter Tryd.func29, Tryd.ntmps29
    go_wp2
    go_ret
    exact ⟨rfl, rfl⟩

set_option maxRecDepth 20000 in
set_option maxHeartbeats 400000 in
theorem implPutNum (n : Int) (w : World) :
    Calls Tryd.prog 44 #[.int .i64 n] w fun e w' => ∃ v, e = .returned v ∧ w'.ownsRow w.heap.size 5 1 v (putNum n).length ((putNum n).map (Value.int .u8)) ∧ Below w.heap.size w w' := by
  obtain ⟨i0, hi, hz0, hz1, hz2⟩ := info_parts Tryd.infoU8
  by_cases hneg : n < 0
  · have hp : Hid (putNum n = []) := by show putNum n = []; unfold putNum; rw [if_neg (by omega)]
    go_enter Tryd.func44, Tryd.ntmps44
    go_wp2
    go_ret
    exact ⟨_, rfl, by rw [hp.out]; exact World.ownsRow_nil _ _ _ _, Below.refl _ _⟩
  · by_cases hbig : 2147483647 < n
    · have hp : Hid (putNum n = []) := by show putNum n = []; unfold putNum; rw [if_neg (by omega)]
      go_enter Tryd.func44, Tryd.ntmps44
      go_wp2
      go_ret
      exact ⟨_, rfl, by rw [hp.out]; exact World.ownsRow_nil _ _ _ _, Below.refl _ _⟩
    · obtain ⟨N, rfl⟩ := Int.eq_ofNat_of_zero_le (show 0 ≤ n by omega)
      have hp : Hid (putNum N = vlq 4 N) := by show putNum N = vlq 4 N; unfold putNum; rw [if_pos (by omega)]; simp
      go_enter Tryd.func44, Tryd.ntmps44
      go_wp2
      go_loopw [0, 3] (fun x v wr => ∃ (m : Nat) (pre : List Int), x = .int .i64 m ∧ Hid (Part N m pre) ∧ m ≤ 2147483647 ∧ wr.ownsRow w.heap.size 5 1 v pre.length (pre.map (Value.int .u8)) ∧ Below w.heap.size w wr) (fun x _ _ => (intOf x).toNat)
      case atStart => exact ⟨N, [], rfl, Part.start N (by omega), by omega, World.ownsRow_nil _ _ _ _, Below.refl _ _⟩
      case round =>
        obtain ⟨m, pre, rfl, HP, hm, hown, hbel⟩ := hrel
        have hpl := HP.out.len
        by_cases h128 : 128 ≤ m
        · go_wp2_with (at_builtin; refine wpList_append_own _ rfl _ _ 45 rfl w.heap.size 5 i0 (.int .u8 0) 1 1 Tryd.underlying45 hi hz0 hz1 hz2 rfl (by decide) _ _ _ rfl (hown.alloc _) ⟨wr.heap.size, 0, none⟩ 1 1 [.int .u8 ((m : Int) % 128 + 128)] rfl rfl ?c1 ?c2 ?c3 ?c4 ?c5 ?_)
          case c1 =>
            intro j u hj
            match j, hj with
            | 0, hj => simp at hj; subst hj; simp [Addr.add]
          case c2 => intro u hu; simp at hu; subst hu; rfl
          case c3 => unfold maxLen; omega
          case c4 => omega
          case c5 => have := hbel.size; simp; omega
          intro v' w1 hown' hgrow _
          have hbel' : Below w.heap.size w w1 := below_append hbel hbel.size hown hgrow
          have HP' : Hid (Part N (m / 128) (pre ++ [((m : Int) % 128 + 128)])) := HP.out.step h128
          clear hgrow hown hbel
          go_wp2
          go_roundw
          case rel => exact ⟨m / 128, pre ++ [((m : Int) % 128 + 128)], by go_num, HP', by omega, by simpa using hown', hbel'⟩
          case measure => simp [intOf]; omega
        · go_wp2_with (at_builtin; refine wpList_append_own _ rfl _ _ 45 rfl w.heap.size 5 i0 (.int .u8 0) 1 1 Tryd.underlying45 hi hz0 hz1 hz2 rfl (by decide) _ _ _ rfl (hown.alloc _) ⟨wr.heap.size, 0, none⟩ 1 1 [.int .u8 (m : Int)] rfl rfl ?d1 ?d2 ?d3 ?d4 ?d5 ?_)
          case d1 =>
            intro j u hj
            match j, hj with
            | 0, hj => simp at hj; subst hj; simp [Addr.add]
          case d2 => intro u hu; simp at hu; subst hu; rfl
          case d3 => unfold maxLen; omega
          case d4 => omega
          case d5 => have := hbel.size; simp; omega
          intro v' w1 hown' hgrow _
          have hbel' : Below w.heap.size w w1 := below_append hbel hbel.size hown hgrow
          have HL : Hid (pre ++ [(m : Int)] = putNum N) := by show _ = _; rw [hp.out]; exact HP.out.last (by omega)
          clear hgrow hown hbel
          go_wp2
          go_ret
          refine ⟨v', rfl, ?_, hbel'⟩
          rw [← HL.out]
          simpa using hown'
set_option maxRecDepth 20000 in
set_option maxHeartbeats 400000 in
theorem specPutNum (n : Int) (w : World) :
    Calls Tryd.prog 32 #[.int .i64 n] w fun e w' => ∃ v, e = .returned v ∧ w'.ownsRow w.heap.size 5 1 v (putNum n).length ((putNum n).map (Value.int .u8)) ∧ Below w.heap.size w w' := by
  obtain ⟨i0, hi, hz0, hz1, hz2⟩ := info_parts Tryd.infoU8
  have ho0 : (w.alloc (.cells #[] 5)).ownsRow w.heap.size 5 1 (.slice (some ⟨w.heap.size, 0, none⟩) 0 0) 0 [] := World.ownsRow_made w #[] 0 (Nat.le_refl _) (Nat.zero_le _) rfl
  have hb0 : Below w.heap.size w (w.alloc (.cells #[] 5)) := (Below.refl _ _).alloc (Nat.le_refl _) _
  by_cases hin : 0 ≤ n ∧ n ≤ 2147483647
  · obtain ⟨N, rfl⟩ := Int.eq_ofNat_of_zero_le hin.1
    have hp : Hid (putNum N = vlq 4 N) := by show putNum N = vlq 4 N; unfold putNum; rw [if_pos hin]; simp
    have hin' := hin.2
    go_enter Tryd.func32, Tryd.ntmps32
    go_wp2_with (go_at_call 29; refine (inY _ _ hin).mono ?_; rintro e w' ⟨rfl, rfl⟩)
    go_loopw [0, 3] (fun x v wr => ∃ (m : Nat) (pre : List Int), x = .int .i64 m ∧ Hid (Part N m pre) ∧ m ≤ 2147483647 ∧ wr.ownsRow w.heap.size 5 1 v pre.length (pre.map (Value.int .u8)) ∧ Below w.heap.size w wr) (fun x _ _ => (intOf x).toNat)
    case atStart => exact ⟨N, [], rfl, Part.start N (by omega), by omega, ho0, hb0⟩
    case round =>
      obtain ⟨m, pre, rfl, HP, hm, hown, hbel⟩ := hrel
      have hpl := HP.out.len
      by_cases h128 : 128 ≤ m
      · go_wp2_with (at_builtin; refine wpList_append_own _ rfl _ _ 45 rfl w.heap.size 5 i0 (.int .u8 0) 1 1 Tryd.underlying45 hi hz0 hz1 hz2 rfl (by decide) _ _ _ rfl (hown.alloc _) ⟨wr.heap.size, 0, none⟩ 1 1 [.int .u8 ((m : Int) % 128 + 128)] rfl rfl ?c1 ?c2 ?c3 ?c4 ?c5 ?_)
        case c1 =>
          intro j u hj
          match j, hj with
          | 0, hj => simp at hj; subst hj; simp [Addr.add]
        case c2 => intro u hu; simp at hu; subst hu; rfl
        case c3 => unfold maxLen; omega
        case c4 => omega
        case c5 => have := hbel.size; simp; omega
        intro v' w1 hown' hgrow _
        have hbel' : Below w.heap.size w w1 := below_append hbel hbel.size hown hgrow
        have HP' : Hid (Part N (m / 128) (pre ++ [((m : Int) % 128 + 128)])) := HP.out.step h128
        clear hgrow hown hbel
        go_wp2
        go_roundw
        case rel => exact ⟨m / 128, pre ++ [((m : Int) % 128 + 128)], by go_num, HP', by omega, by simpa using hown', hbel'⟩
        case measure => simp [intOf]; omega
      · go_wp2_with (at_builtin; refine wpList_append_own _ rfl _ _ 45 rfl w.heap.size 5 i0 (.int .u8 0) 1 1 Tryd.underlying45 hi hz0 hz1 hz2 rfl (by decide) _ _ _ rfl (hown.alloc _) ⟨wr.heap.size, 0, none⟩ 1 1 [.int .u8 (m : Int)] rfl rfl ?d1 ?d2 ?d3 ?d4 ?d5 ?_)
        case d1 =>
          intro j u hj
          match j, hj with
          | 0, hj => simp at hj; subst hj; simp [Addr.add]
        case d2 => intro u hu; simp at hu; subst hu; rfl
        case d3 => unfold maxLen; omega
        case d4 => omega
        case d5 => have := hbel.size; simp; omega
        intro v' w1 hown' hgrow _
        have hbel' : Below w.heap.size w w1 := below_append hbel hbel.size hown hgrow
        have HL : Hid (pre ++ [(m : Int)] = putNum N) := by show _ = _; rw [hp.out]; exact HP.out.last (by omega)
        clear hgrow hown hbel
        go_wp2
        go_ret
        refine ⟨v', rfl, ?_, hbel'⟩
        rw [← HL.out]
        simpa using hown'
  · have hp : Hid (putNum n = []) := by show putNum n = []; unfold putNum; rw [if_neg hin]
    go_enter Tryd.func32, Tryd.ntmps32
    go_wp2_with (go_at_call 29; refine (inN _ _ hin).mono ?_; rintro e w' ⟨rfl, rfl⟩)
    go_ret
    exact ⟨_, rfl, by rw [hp.out]; exact ho0, hb0⟩

end Go.Proofs.YtaabcfgjmankgaaDoor
