/-
  Own text: slices.Repeat of one yes: as many as were asked for.
-/
import Derived.Test.YtlidmnehpcodkaaDoorShelfM
import Derived.Test.YtlidmnehpcodkaaDoorBunS
import Derived.Test.YtlidmnehpcodkaaDoorBoolW
import Derived.Laws.CopyOwn
namespace Go.Proofs.YtlidmnehpcodkaaDoor
open Go.RowKit

def fillB (n m : Nat) : List Value := (List.replicate m true ++ List.replicate (n - m) false).map Value.bool
theorem fillB_len {n m : Nat} (h : m ≤ n) : (fillB n m).length = n := by simp [fillB]; omega
theorem fillB_zero (n : Nat) : (madeCells #[Value.bool false] n).toList = fillB n 0 := by
  have h := made_flat encB_len false #[.bool false] rfl (by omega) n
  rw [Nat.mul_one] at h
  rw [h, flatB]
  simp [fillB]
theorem fillB_all (n : Nat) : fillB n n = (List.replicate n true).flatMap encB := by
  rw [flatB]; simp [fillB]
theorem fillB_more {n m c : Nat} (h : m + c ≤ n) : splice (fillB n m) m (List.replicate c (Value.bool true)) = fillB n (m + c) := by
  unfold splice fillB
  simp only [List.map_append, List.map_replicate, List.length_replicate]
  rw [List.take_append_of_le_length (by simp), List.take_of_length_le (by simp), List.drop_append]
  simp only [List.length_replicate, List.drop_replicate]
  rw [show m - (m + c) = 0 by omega, show n - m - (m + c - m) = n - (m + c) by omega]
  simp
  rw [← List.append_assoc, List.replicate_append_replicate]
theorem fillB_get {n m j : Nat} (h : j < m) : (fillB n m)[j]? = some (.bool true) := by
  unfold fillB
  rw [List.map_append, List.getElem?_append_left (by simpa using h)]
  simp [h]

set_option maxRecDepth 20000 in
set_option maxHeartbeats 1000000 in
theorem repT (g0 n : Nat) (w : World) (hn : n ≤ 4194304) (hc : w.cell? ⟨g0, 0, none⟩ = some (.bool true)) :
    Calls Tryd.prog 102 #[.slice (some ⟨g0, 0, none⟩) 1 1, .int .i64 n] w fun e w' => ∃ q cap, e = .returned (.slice q n cap) ∧ RdF encB 1 w' q (List.replicate n true) ∧ Below w.heap.size w w' := by
  obtain ⟨i0, hi, hz0, hz1, hz2⟩ := info_parts Tryd.infoBool
  have hsz : (Tryd.prog.info? 4).map (·.size) = some 1 := by rw [hi]; simp [hz1]
  have hmu := Tryd.bits_Mul 1 n (by omega) (by omega) w
  rw [show 1 * n / 18446744073709551616 = 0 by omega, show 1 * n % 18446744073709551616 = n by omega] at hmu
  have HMU : Hid (Calls Tryd.prog 120 #[.int .u64 1, .int .u64 n] w fun e w' => e = .returned (.tuple #[.int .u64 0, .int .u64 n]) ∧ w' = w) := hmu
  clear hmu
  have hn63 : ¬ (9223372036854775807 < n) := by omega
  go_enter Tryd.func102, Tryd.ntmps102
  go_wp2_with fail
  refine HMU.out.mono ?_
  rintro e w1 ⟨rfl, hw1⟩
  subst w1
  go_wp2_with (at_make; refine wpList_make_full _ rfl _ _ 32 rfl w.heap.size 4 i0 (.bool false) 1 Tryd.underlying32 hi hz0 hz1 _ _ _ _ n rfl rfl rfl rfl (by rw [hz2]; omega) (by unfold maxLen; omega) (Nat.le_refl _) ?_)
  intro w4 hown hgrow
  have HG4 : Hid (w4.heap[w.heap.size]? = some (.cells (fillB n 0).toArray 4 (0, 0))) := by
    show _ = _
    rw [fillB_zero] at hown
    rcases hown.2 with ⟨he, _⟩ | ⟨g, cap, cur, he, _, hg, _, _, hcs, ht⟩
    · cases he
    · cases he
      rw [hg, ← ht, Nat.mul_one, List.take_of_length_le (by rw [Array.length_toList, hcs]; omega)]
  have hb4 : Below w.heap.size w w4 := (Below.refl _ _).grown hgrow (Nat.le_refl _) (fun k hk => by simp at hk)
  have HB4 : Hid (Below w.heap.size w w4) := hb4
  have HC4 : Hid (w4.cell? ⟨g0, 0, none⟩ = some (.bool true)) := (hb4.cell (World.block_lt_of_cell? _ _ hc)).trans hc
  obtain ⟨c0, hc0⟩ : ∃ c0, c0 = Nat.min 1 n := ⟨_, rfl⟩
  have hc1 : c0 ≤ 1 ∧ c0 ≤ n ∧ (1 ≤ c0 ∨ n = 0) := by rw [hc0]; simp only [Nat.min_def]; split <;> omega
  clear hown hgrow hb4 HMU hc
  obtain ⟨w5, hcp, hg5, hb5⟩ : ∃ w5, (Builtin.copy_ #[32, 32] 3 #[.slice (some ⟨w.heap.size, 0, none⟩) n n, .slice (some ⟨g0, 0, none⟩) 1 1]).run Tryd.prog w4 = .ok (.int .i64 c0) w5 ∧ w5.heap[w.heap.size]? = some (.cells (fillB n c0).toArray 4 (0, 0)) ∧ Below w.heap.size w w5 := by
    by_cases h0 : n = 0
    · subst h0
      obtain rfl : c0 = 0 := by omega
      exact ⟨w4, run_copy_none (P := Tryd.prog) w4 _ _ _ 4 _ _ _ _ _ _ Tryd.underlying32 hsz (by simp), HG4.out, HB4.out⟩
    · obtain rfl : c0 = 1 := by omega
      have h := run_copy_row (P := Tryd.prog) w4 32 32 3 4 w.heap.size 0 n n ⟨g0, 0, none⟩ 1 1 (fillB n 0).toArray 4 [.bool true] Tryd.underlying32 hsz HG4.out (by simp only [List.length_singleton]; exact hc0) (fun j u hj => by
        obtain ⟨hj1, rfl⟩ := List.getElem?_eq_some_iff.1 hj
        simp at hj1
        subst hj1
        rw [Go.WideShapes.add_plain]; exact HC4.out) (by simp [fillB_len (Nat.zero_le n)]; omega) (by intro u hu; simp at hu; subst hu; rfl)
      refine ⟨_, h, ?_, below_setRow HB4.out (Nat.le_refl _) _⟩
      rw [setRow_heap w4 w.heap.size _ _ 4 _ HG4.out]
      have := fillB_more (n := n) (m := 0) (c := 1) (by omega)
      rw [← Nat.zero_add 1, ← this]
      rfl
  have HG5 : Hid (w5.heap[w.heap.size]? = some (.cells (fillB n c0).toArray 4 (0, 0))) := by
    exact hg5
  have HB5 : Hid (Below w.heap.size w w5) := hb5
  clear hg5 hb5 HG4 HB4 HC4 hc0
  go_wp2
  clear hcp
  go_loopw [8] (fun i wr => ∃ m : Nat, m ≤ n ∧ (1 ≤ m ∨ n = 0) ∧ i = .int .i64 m ∧ Hid (wr.heap[w.heap.size]? = some (.cells (fillB n m).toArray 4 (0, 0))) ∧ Hid (Below w.heap.size w wr)) (fun i _ => n - (intOf i).toNat)
  case atStart => exact ⟨c0, hc1.2.1, hc1.2.2, by simp, HG5, HB5⟩
  case round =>
    obtain ⟨m, hm, hm1, rfl, HG, HB⟩ := hrel
    clear HG5 HB5 hc1
    by_cases hlt : m < n
    · have hm0 : (0 : Int) ≤ (m : Int) := by omega
      have hm2 : (m : Int) < (n : Int) := by omega
      have hm3 : (m : Int) ≤ (n : Int) := by omega
      have hne : ¬ n = m := by omega
      obtain ⟨c, hc0⟩ : ∃ c, c = Nat.min m (n - m) := ⟨_, rfl⟩
      have hc : 1 ≤ c ∧ m + c ≤ n ∧ c ≤ m := by rw [hc0]; simp only [Nat.min_def]; split <;> omega
      have HMI : Hid (c = Nat.min m (n - m)) := hc0
      clear hc0
      have hwr : IntKind.i64.wrap ((m : Int) + (c : Int)) = (m : Int) + (c : Int) := by rw [IntKind.wrap_i64]; omega
      have HCM : Hid (∀ j u, (List.replicate c (Value.bool true))[j]? = some u → wr.cell? ((⟨w.heap.size, 0, none⟩ : Addr).add j) = some u) := by
        intro j u hj
        obtain ⟨hj1, rfl⟩ := List.getElem?_eq_some_iff.1 hj
        rw [List.length_replicate] at hj1
        rw [Go.WideShapes.add_plain, Nat.zero_add, cell_of_row wr w.heap.size j _ _ _ HG.out]
        simp [fillB_get (n := n) (m := m) (j := j) (by omega)]
      go_wp2
      go_region_law (first
        | (refine step_copy_splice rfl (.tmp 41) (.tmp 44) 32 32 rfl 4 Tryd.underlying32 hsz (some ⟨w.heap.size, m, none⟩) (some ⟨w.heap.size, 0, none⟩) (n - m) (n - m) m n (by simp [Act.eval, Act.put]) (by simp [Act.eval, Act.put]) w.heap.size m (fillB n m) 4 (by exact HG.out) (List.replicate c (.bool true)) (by rw [List.length_replicate]; exact HMI.out) (fun _ => ⟨rfl, _, rfl, by exact HCM.out⟩) (by rw [List.length_replicate, fillB_len (by omega)]; omega) (by intro u hu; rw [(List.mem_replicate.1 hu).2]; rfl) w.heap.size w (by exact HB.out.drew) (Nat.le_refl _) ?_
           intro w6 hg6 hb6
           have HG6 : Hid (w6.heap[w.heap.size]? = some (.cells (fillB n (m + c)).toArray 4 (0, 0))) := by
             have := hg6.out
             rw [fillB_more (by omega)] at this
             exact this
           have HB6 : Hid (Below w.heap.size w w6) := hb6
           clear hg6 hb6))
      all_goals
        go_simp
        go_wp2
        go_roundw
        case rel => exact ⟨m + c, by omega, by omega, by go_num, HG6, HB6⟩
        case measure => simp [intOf]; omega
    · obtain rfl : m = n := by omega
      have hr : RdF encB 1 wr (some ⟨w.heap.size, 0, none⟩) (List.replicate m true) := by
        by_cases h0 : m = 0
        · subst h0; exact .inl rfl
        refine .inr ⟨w.heap.size, 0, rfl, (Array.getElem?_eq_some_iff.1 HG.out).1, fun i hi j hj => ?_⟩
        obtain rfl : j = 0 := by omega
        simp at hi
        rw [cell_of_row wr w.heap.size _ _ _ _ HG.out]
        simp [fillB_get (n := m) (m := m) (j := i) hi, encB]
      have hb := HB.out
      go_wp2
      go_ret
      exact ⟨_, _, rfl, hr, hb⟩
end Go.Proofs.YtlidmnehpcodkaaDoor
