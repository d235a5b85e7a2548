/-
  Own text: a right node is drawn.
-/
import Derived.Test.YtgndkdoefmjdhaaDoorDNodeW
namespace Go.Proofs.YtgndkdoefmjdhaaDoor
open Go.RowKit

set_option maxRecDepth 20000 in
set_option maxHeartbeats 4000000 in
theorem rightN (P : Nat) (x : Option Addr) (cap : Nat) (l : List Int) (w : World) (hd : Drw w P x cap l) :
    Calls Tryd.prog 23 #[.pointer (some ⟨P, 0, none⟩)] w fun e w' => ∃ v n, e = .returned v ∧ OwnN w' w.heap.size v n ∧ NodP n ∧ Drw w' P x cap l ∧ OnlyP P w w' := by
  have HD : Hid (Drw w P x cap l) := hd
  have hPw := hd.lt
  obtain ⟨i1, ii, iz0, iz1, iz2⟩ := info_parts Tryd.infoInt
  clear hd
  go_enter Tryd.func23, Tryd.ntmps23
  go_wp2_with fail
  refine (belowO P x cap l 4 _ (HD.out.alloc _) (by omega) (by omega)).mono ?_
  rintro e w1 ⟨k0, rfl, hk, hd1, hon1⟩
  obtain ⟨k, hkk⟩ : ∃ k : Int, (k0 : Int) = k := ⟨_, rfl⟩
  have hk0 : 0 ≤ k ∧ k ≤ 3 := by omega
  rw [hkk]
  clear hkk hk
  go_upto_region 2 with fail
  have hs1 : w.heap.size + 1 ≤ w1.heap.size := by have := hon1.size; simpa using this
  obtain ⟨Q, hQ⟩ : ∃ Q, w1.heap.size = Q := ⟨_, rfl⟩
  obtain ⟨lo, hlo⟩ : ∃ lo, Q + 1 = lo := ⟨_, rfl⟩
  have HD0 : Hid (DInv w P x cap l w.heap.size Q lo #[.int .i64 k, .int .i64 0, .int .i64 0, .int .i64 0, .slice none 0 0] (w1.alloc (.cells #[.int .i64 k, .int .i64 0, .int .i64 0, .int .i64 0, .slice none 0 0] 26)) (.slice none 0 0) []) := by
    refine ⟨((Only.of_new (below1 w _)).trans hon1).trans (Only.of_new (below1 w1 _)), hd1.alloc _, hPw, Nat.le_refl _, by omega, by omega, by omega, by simp; omega, ((Var.made w _ _).onlyP hon1 (by omega)).alloc _, by rw [← hQ]; exact Var.made w1 _ _, World.ownsRow_nil _ _ _ _⟩
  rw [hQ]
  clear hd1 hon1 hlo hs1 HD hQ
  generalize w1.alloc (.cells #[.int .i64 k, .int .i64 0, .int .i64 0, .int .i64 0, .slice none 0 0] 26) = W0 at *
  have x0 := HD0.out.node.cell 0
  simp at x0
  by_cases hkz : k = 0
  · subst hkz
    have x1 := HD0.out.node.cell 1
    have x2 := HD0.out.node.cell 2
    have x3 := HD0.out.node.cell 3
    have x4 := HD0.out.node.cell 4
    simp at x1 x2 x3 x4
    obtain ⟨hR9, r0, r1, r2, r3, r4, q0, q1, q2, q3, q4⟩ := HD0.out.res.five (.int .i64 0) (.int .i64 0) (.int .i64 0) (.int .i64 0) (.slice none 0 0)
    have HZ : Hid _ := DInv.done (n := zeroN) HD0.out
    clear hR9 HD0
    go_wp2
    refine bodyPost_ret (results_cell_row rfl _ _ w.heap.size 26 zeroC (0, 0) _ rfl HZ.out.1 Tryd.underlying26 rfl Tryd.sizeNode) rfl ?_
    exact ⟨_, zeroN, rfl, HZ.out.2.1, .inl rfl, HZ.out.2.2.1, HZ.out.2.2.2⟩
  have b1 : (k == 0) = false := by simpa using hkz
  go_wp2_with fail
  refine (belowO P x cap l 81 _ HD0.out.drw (by omega) (by omega)).mono ?_
  rintro e w2 ⟨r81, rfl, hr81, hd1, hon1⟩
  have HD2 : Hid (DInv w P x cap l w.heap.size Q lo #[.int .i64 k, .int .i64 0, .int .i64 0, .int .i64 0, .slice none 0 0] w2 (.slice none 0 0) []) := HD0.out.draw hon1 hd1
  clear hd1 hon1 HD0 x0
  go_wp2_with fail
  refine (pickIntO P w2.heap.size x cap l [0, 1, 16, 17, 80, (r81 : Int)] _ (HD2.out.drw.alloc _) 6 rfl (by omega) (by omega) (by have := HD2.out.drw.lt; omega) (fun j hj => cells_list [0, 1, 16, 17, 80, (r81 : Int)] (Value.int .i64) 0 w2 _ _ rfl j hj)).mono ?_
  rintro e w3 ⟨s, hs, rfl, hd1, hon1⟩
  have HM : Hid (DInv w P x cap l w.heap.size Q lo #[.int .i64 k, .int .i64 0, .int .i64 0, .int .i64 0, .slice none 0 0] w3 (.slice none 0 0) []) := (HD2.out.new (below1 w2 _)).draw hon1 hd1
  clear hd1 hon1 HD2 
  have n1 := HM.out.node.cell 3
  have f1 := HM.out.node.frozen 3
  simp at n1
  go_upto_region 5 with fail
  have HD4 : Hid (DInv w P x cap l w.heap.size Q lo #[.int .i64 k, .int .i64 0, .int .i64 0, .int .i64 s, .slice none 0 0] (w3.setCell ⟨Q, 3, none⟩ (.int .i64 s)) (.slice none 0 0) []) := HM.out.set 3 (.int .i64 s)
  clear HM n1 f1
  generalize w3.setCell ⟨Q, 3, none⟩ (.int .i64 s) = W4 at *
  have hs0 : 0 ≤ s ∧ s ≤ 80 := by
    simp only [List.mem_cons, List.not_mem_nil, or_false] at hs
    omega
  clear hs hr81
  obtain ⟨M, hM⟩ : ∃ M : Nat, blksFor s = (M : Int) := ⟨(blksFor s).toNat, by have := blks_le s; omega⟩
  have hM5 : M ≤ 5 := by have := blks_le s; omega
  have HMM : Hid (blksFor s = (M : Int)) := hM
  have HBM : Hid (∀ W, Calls Tryd.prog 28 #[.int .i64 s] W fun e w' => e = .returned (.int .i64 (M : Int)) ∧ w' = W) := by
    intro W
    rw [← hM]
    exact specBlocks s W
  clear hM
  have x0 := HD4.out.node.cell 0
  simp at x0
  by_cases hk2 : k = 2
  · subst hk2
    go_wp2_with fail
    refine (belowO P x cap l 30 _ HD4.out.drw (by omega) (by omega)).mono ?_
    rintro e w9 ⟨fr, rfl, hfr, hd1, hon1⟩
    have HF9 : Hid (DInv w P x cap l w.heap.size Q lo #[.int .i64 2, .int .i64 0, .int .i64 0, .int .i64 s, .slice none 0 0] w9 (.slice none 0 0) (runL fr 0)) := by
      exact HD4.out.draw hon1 hd1
    clear hd1 hon1 HD4
    go_wp2
    go_loopw [5] (fun i wr => ∃ (j : Nat) (v : Value), i = .int .i64 (j : Int) ∧ j ≤ M ∧ Hid (DInv w P x cap l w.heap.size Q lo #[.int .i64 2, .int .i64 0, .int .i64 0, .int .i64 s, v] wr v (runL fr j))) (fun i _ => M - (intOf i).toNat)
    case atStart => exact ⟨0, _, rfl, Nat.zero_le _, HF9⟩
    case round =>
      obtain ⟨j, v, rfl, hj, HN⟩ := hrel
      clear HF9
      have n3 := HN.out.node.cell 3
      simp at n3
      obtain ⟨av, cv, hv, _, _⟩ := own_rd HN.out.own
      rw [runL_len] at hv
      subst hv
      by_cases hlt : j < M
      · have hlt2 : (j : Int) < (M : Int) := by omega
        go_wp2_with fail
        refine (HBM.out _).mono ?_
        rintro e w10 ⟨rfl, hw10⟩
        subst w10
        clear n3
        have n4 := HN.out.node.cell 4
        simp at n4
        have HNA : Hid (DInv w P x cap l w.heap.size Q lo #[.int .i64 2, .int .i64 0, .int .i64 0, .int .i64 s, .slice av j cv] (wr.alloc (.cells #[.int .i64 ((fr : Int) + (j : Int))] 3)) (.slice av j cv) (runL fr j)) := HN.out.new (below1 wr _)
        have ho1 := HNA.out.own
        rw [runL_len] at ho1
        have HS1 : Hid (Src Tryd.prog 1 24 (.slice (some ⟨wr.heap.size, 0, none⟩) 1 1) 1 [.int .i64 ((fr : Int) + (j : Int))] (wr.alloc (.cells #[.int .i64 ((fr : Int) + (j : Int))] 3))) := src_oneI Tryd.underlying24 wr _ rfl
        have hsz := HNA.out.siz
        go_wp2_with (at_builtin; refine wpList_append_own_src _ rfl (.tmp 40) (.tmp 44) 24 24 rfl lo 3 i1 (.int .i64 0) 1 8 Tryd.underlying24 ii iz0 iz1 iz2 rfl _ _ _ rfl ho1 _ 1 [.int .i64 ((fr : Int) + (j : Int))] rfl HS1.out (by unfold maxLen; omega) (by omega) hsz ?_)
        intro v8 w8 ho8 hg8
        have HN8 : Hid (DInv w P x cap l w.heap.size Q lo #[.int .i64 2, .int .i64 0, .int .i64 0, .int .i64 s, .slice av j cv] w8 v8 (runL fr (j + 1))) := by
          refine HNA.out.grown hg8 ?_
          rw [runL_len, runL_succ, List.map_append]
          exact ho8
        obtain ⟨a8, c8, hv8, _, _⟩ := own_rd HN8.out.own
        rw [runL_len] at hv8
        subst hv8
        clear ho8 hg8 ho1 HS1 hsz HNA HN n4
        have n4 := HN8.out.node.cell 4
        have f4 := HN8.out.node.frozen 4
        simp at n4
        have HN9 : Hid (DInv w P x cap l w.heap.size Q lo #[.int .i64 2, .int .i64 0, .int .i64 0, .int .i64 s, .slice a8 (j + 1) c8] (w8.setCell ⟨Q, 4, none⟩ (.slice a8 (j + 1) c8)) (.slice a8 (j + 1) c8) (runL fr (j + 1))) := HN8.out.set 4 (.slice a8 (j + 1) c8)
        clear HN8
        go_wp2
        go_roundw
        case rel => exact ⟨j + 1, _, by go_num, by omega, HN9⟩
        case measure => simp [intOf]; omega
      · obtain rfl : j = M := by omega
        have hlt2 : ¬ (j : Int) < (j : Int) := by omega
        go_wp2_with fail
        refine (HBM.out _).mono ?_
        rintro e w10 ⟨rfl, hw10⟩
        subst w10
        clear n3
        have n0 := HN.out.node.cell 0
        have n1 := HN.out.node.cell 1
        have n2 := HN.out.node.cell 2
        have n3 := HN.out.node.cell 3
        have n4 := HN.out.node.cell 4
        simp at n0 n1 n2 n3 n4
        have HOK : Hid (NodP ⟨2, 0, 0, s, runL fr j⟩) := by
          refine .inr ⟨⟨by show (1 : Int) ≤ 2; omega, by show (2 : Int) ≤ 3; omega, by show (0 : Int) ≤ 0; omega, by show (0 : Int) ≤ 1000000; omega, by show (0 : Int) ≤ 0; omega, by show (0 : Int) ≤ 100000; omega, hs0.1, hs0.2, by show ((runL fr j).length : Int) = blksFor s; rw [runL_len, HMM.out]⟩, fun _ => ⟨rfl, rfl⟩, runL_ok (by omega)⟩
        have hDN : DInv w P x cap l w.heap.size Q lo #[.int .i64 2, .int .i64 0, .int .i64 0, .int .i64 s, .slice av (runL fr j).length cv] wr (.slice av (runL fr j).length cv) (runL fr j) := by rw [runL_len]; exact HN.out
        have HZ : Hid _ := DInv.done (n := ⟨2, 0, 0, s, runL fr j⟩) hDN
        simp only [runL_len] at HZ
        obtain ⟨hR9, r0, r1, r2, r3, r4, q0, q1, q2, q3, q4⟩ := HN.out.res.five (.int .i64 2) (.int .i64 0) (.int .i64 0) (.int .i64 s) (.slice av j cv)
        clear hR9 hDN HN HBM
        go_wp2
        refine bodyPost_ret (results_cell_row rfl _ _ w.heap.size 26 #[.int .i64 2, .int .i64 0, .int .i64 0, .int .i64 s, .slice av j cv] (0, 0) _ rfl HZ.out.1 Tryd.underlying26 rfl Tryd.sizeNode) rfl ?_
        exact ⟨_, _, rfl, HZ.out.2.1, HOK.out, HZ.out.2.2.1, HZ.out.2.2.2⟩
  · have b2 : (k == 2) = false := by simpa using hk2
    go_wp2_with fail
    refine (pickIntO P W4.heap.size x cap l [0, 1, 5, 1000000] _ (HD4.out.drw.alloc _) 4 rfl (by omega) (by omega) (by have := HD4.out.drw.lt; omega) (fun j hj => cells_list [0, 1, 5, 1000000] (Value.int .i64) 0 W4 _ _ rfl j hj)).mono ?_
    rintro e w5 ⟨g, hg, rfl, hd1, hon1⟩
    have HM : Hid (DInv w P x cap l w.heap.size Q lo #[.int .i64 k, .int .i64 0, .int .i64 0, .int .i64 s, .slice none 0 0] w5 (.slice none 0 0) []) := (HD4.out.new (below1 W4 _)).draw hon1 hd1
    clear hd1 hon1 HD4 x0
    have n1 := HM.out.node.cell 1
    have f1 := HM.out.node.frozen 1
    simp at n1
    go_upto_region 7 with fail
    have HD6 : Hid (DInv w P x cap l w.heap.size Q lo #[.int .i64 k, .int .i64 g, .int .i64 0, .int .i64 s, .slice none 0 0] (w5.setCell ⟨Q, 1, none⟩ (.int .i64 g)) (.slice none 0 0) []) := HM.out.set 1 (.int .i64 g)
    clear HM n1 f1
    generalize w5.setCell ⟨Q, 1, none⟩ (.int .i64 g) = W6 at *
    have hg0 : 0 ≤ g ∧ g ≤ 1000000 := by
      simp only [List.mem_cons, List.not_mem_nil, or_false] at hg
      omega
    clear hg
    go_wp2_with fail
    refine (pickIntO P W6.heap.size x cap l [0, 7, 100000] _ (HD6.out.drw.alloc _) 3 rfl (by omega) (by omega) (by have := HD6.out.drw.lt; omega) (fun j hj => cells_list [0, 7, 100000] (Value.int .i64) 0 W6 _ _ rfl j hj)).mono ?_
    rintro e w7 ⟨t, ht, rfl, hd1, hon1⟩
    have HM : Hid (DInv w P x cap l w.heap.size Q lo #[.int .i64 k, .int .i64 g, .int .i64 0, .int .i64 s, .slice none 0 0] w7 (.slice none 0 0) []) := (HD6.out.new (below1 W6 _)).draw hon1 hd1
    clear hd1 hon1 HD6 
    have n1 := HM.out.node.cell 2
    have f1 := HM.out.node.frozen 2
    simp at n1
    go_upto_region 8 with fail
    have HD8 : Hid (DInv w P x cap l w.heap.size Q lo #[.int .i64 k, .int .i64 g, .int .i64 t, .int .i64 s, .slice none 0 0] (w7.setCell ⟨Q, 2, none⟩ (.int .i64 t)) (.slice none 0 0) []) := HM.out.set 2 (.int .i64 t)
    clear HM n1 f1
    generalize w7.setCell ⟨Q, 2, none⟩ (.int .i64 t) = W8 at *
    have ht0 : 0 ≤ t ∧ t ≤ 100000 := by
      simp only [List.mem_cons, List.not_mem_nil, or_false] at ht
      omega
    clear ht
    go_wp2_with fail
    refine (belowO P x cap l 30 _ HD8.out.drw (by omega) (by omega)).mono ?_
    rintro e w9 ⟨fr, rfl, hfr, hd1, hon1⟩
    have HF9 : Hid (DInv w P x cap l w.heap.size Q lo #[.int .i64 k, .int .i64 g, .int .i64 t, .int .i64 s, .slice none 0 0] w9 (.slice none 0 0) (runL fr 0)) := by
      exact HD8.out.draw hon1 hd1
    clear hd1 hon1 HD8
    go_wp2
    go_loopw [5] (fun i wr => ∃ (j : Nat) (v : Value), i = .int .i64 (j : Int) ∧ j ≤ M ∧ Hid (DInv w P x cap l w.heap.size Q lo #[.int .i64 k, .int .i64 g, .int .i64 t, .int .i64 s, v] wr v (runL fr j))) (fun i _ => M - (intOf i).toNat)
    case atStart => exact ⟨0, _, rfl, Nat.zero_le _, HF9⟩
    case round =>
      obtain ⟨j, v, rfl, hj, HN⟩ := hrel
      clear HF9
      have n3 := HN.out.node.cell 3
      simp at n3
      obtain ⟨av, cv, hv, _, _⟩ := own_rd HN.out.own
      rw [runL_len] at hv
      subst hv
      by_cases hlt : j < M
      · have hlt2 : (j : Int) < (M : Int) := by omega
        go_wp2_with fail
        refine (HBM.out _).mono ?_
        rintro e w10 ⟨rfl, hw10⟩
        subst w10
        clear n3
        have n4 := HN.out.node.cell 4
        simp at n4
        have HNA : Hid (DInv w P x cap l w.heap.size Q lo #[.int .i64 k, .int .i64 g, .int .i64 t, .int .i64 s, .slice av j cv] (wr.alloc (.cells #[.int .i64 ((fr : Int) + (j : Int))] 3)) (.slice av j cv) (runL fr j)) := HN.out.new (below1 wr _)
        have ho1 := HNA.out.own
        rw [runL_len] at ho1
        have HS1 : Hid (Src Tryd.prog 1 24 (.slice (some ⟨wr.heap.size, 0, none⟩) 1 1) 1 [.int .i64 ((fr : Int) + (j : Int))] (wr.alloc (.cells #[.int .i64 ((fr : Int) + (j : Int))] 3))) := src_oneI Tryd.underlying24 wr _ rfl
        have hsz := HNA.out.siz
        go_wp2_with (at_builtin; refine wpList_append_own_src _ rfl (.tmp 40) (.tmp 44) 24 24 rfl lo 3 i1 (.int .i64 0) 1 8 Tryd.underlying24 ii iz0 iz1 iz2 rfl _ _ _ rfl ho1 _ 1 [.int .i64 ((fr : Int) + (j : Int))] rfl HS1.out (by unfold maxLen; omega) (by omega) hsz ?_)
        intro v8 w8 ho8 hg8
        have HN8 : Hid (DInv w P x cap l w.heap.size Q lo #[.int .i64 k, .int .i64 g, .int .i64 t, .int .i64 s, .slice av j cv] w8 v8 (runL fr (j + 1))) := by
          refine HNA.out.grown hg8 ?_
          rw [runL_len, runL_succ, List.map_append]
          exact ho8
        obtain ⟨a8, c8, hv8, _, _⟩ := own_rd HN8.out.own
        rw [runL_len] at hv8
        subst hv8
        clear ho8 hg8 ho1 HS1 hsz HNA HN n4
        have n4 := HN8.out.node.cell 4
        have f4 := HN8.out.node.frozen 4
        simp at n4
        have HN9 : Hid (DInv w P x cap l w.heap.size Q lo #[.int .i64 k, .int .i64 g, .int .i64 t, .int .i64 s, .slice a8 (j + 1) c8] (w8.setCell ⟨Q, 4, none⟩ (.slice a8 (j + 1) c8)) (.slice a8 (j + 1) c8) (runL fr (j + 1))) := HN8.out.set 4 (.slice a8 (j + 1) c8)
        clear HN8
        go_wp2
        go_roundw
        case rel => exact ⟨j + 1, _, by go_num, by omega, HN9⟩
        case measure => simp [intOf]; omega
      · obtain rfl : j = M := by omega
        have hlt2 : ¬ (j : Int) < (j : Int) := by omega
        go_wp2_with fail
        refine (HBM.out _).mono ?_
        rintro e w10 ⟨rfl, hw10⟩
        subst w10
        clear n3
        have n0 := HN.out.node.cell 0
        have n1 := HN.out.node.cell 1
        have n2 := HN.out.node.cell 2
        have n3 := HN.out.node.cell 3
        have n4 := HN.out.node.cell 4
        simp at n0 n1 n2 n3 n4
        have HOK : Hid (NodP ⟨k, g, t, s, runL fr j⟩) := by
          refine .inr ⟨⟨by show 1 ≤ k; omega, by show k ≤ 3; omega, hg0.1, hg0.2, ht0.1, ht0.2, hs0.1, hs0.2, by show ((runL fr j).length : Int) = blksFor s; rw [runL_len, HMM.out]⟩, fun h => absurd h hk2, runL_ok (by omega)⟩
        have hDN : DInv w P x cap l w.heap.size Q lo #[.int .i64 k, .int .i64 g, .int .i64 t, .int .i64 s, .slice av (runL fr j).length cv] wr (.slice av (runL fr j).length cv) (runL fr j) := by rw [runL_len]; exact HN.out
        have HZ : Hid _ := DInv.done (n := ⟨k, g, t, s, runL fr j⟩) hDN
        simp only [runL_len] at HZ
        obtain ⟨hR9, r0, r1, r2, r3, r4, q0, q1, q2, q3, q4⟩ := HN.out.res.five (.int .i64 k) (.int .i64 g) (.int .i64 t) (.int .i64 s) (.slice av j cv)
        clear hR9 hDN HN HBM
        go_wp2
        refine bodyPost_ret (results_cell_row rfl _ _ w.heap.size 26 #[.int .i64 k, .int .i64 g, .int .i64 t, .int .i64 s, .slice av j cv] (0, 0) _ rfl HZ.out.1 Tryd.underlying26 rfl Tryd.sizeNode) rfl ?_
        exact ⟨_, _, rfl, HZ.out.2.1, HOK.out, HZ.out.2.2.1, HZ.out.2.2.2⟩
end Go.Proofs.YtgndkdoefmjdhaaDoor
