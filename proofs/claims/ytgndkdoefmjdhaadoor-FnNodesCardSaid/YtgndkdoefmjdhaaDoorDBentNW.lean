/-
  Own text: a node is drawn, right or bent.
-/
import Derived.Test.YtgndkdoefmjdhaaDoorDRightNW
import Derived.Deep.RegionHeld3
namespace Go.Proofs.YtgndkdoefmjdhaaDoor
open Go.RowKit

set_option maxRecDepth 20000 in
set_option maxHeartbeats 4000000 in
theorem drawN (P : Nat) (x : Option Addr) (cap : Nat) (l : List Int) (w : World) (hd : Drw w P x cap l) :
    Calls Tryd.prog 17 #[.pointer (some ⟨P, 0, none⟩)] w fun e w' => ∃ v n, e = .returned v ∧ OwnN w' w.heap.size v n ∧ n.b.length ≤ 6 ∧ Drw w' P x cap l ∧ OnlyP P w w' := by
  have HD : Hid (Drw w P x cap l) := hd
  have hPw := hd.lt
  obtain ⟨i1, ii, iz0, iz1, iz2⟩ := info_parts Tryd.infoInt
  clear hd
  go_enter Tryd.func17, Tryd.ntmps17
  go_wp2_with fail
  refine (rightN P x cap l _ (HD.out.alloc _)).mono ?_
  rintro e w1 ⟨v, n, rfl, ho, hn, hd1, hon1⟩
  obtain ⟨a, c, rfl⟩ := ho.lay
  have h5 := hn.len
  go_upto_region 2 with fail
  have hs1 : w.heap.size + 1 ≤ w1.heap.size := by have := hon1.size; simpa using this
  obtain ⟨Q, hQ⟩ : ∃ Q, w1.heap.size = Q := ⟨_, rfl⟩
  have HD0 : Hid (DInv w P x cap l w.heap.size Q (w.heap.size + 1) #[.int .i64 n.k, .int .i64 n.g, .int .i64 n.t, .int .i64 n.s, .slice a n.b.length c] (w1.alloc (.cells #[.int .i64 n.k, .int .i64 n.g, .int .i64 n.t, .int .i64 n.s, .slice a n.b.length c] 26)) (.slice a n.b.length c) n.b) := by
    obtain ⟨u, hu, ho2⟩ := ho
    unfold aggN at hu
    obtain rfl : u = .slice a n.b.length c := by simp at hu; exact hu.symm
    refine ⟨((Only.of_new (below1 w _)).trans hon1).trans (Only.of_new (below1 w1 _)), hd1.alloc _, hPw, Nat.le_refl _, by omega, by omega, by omega, by simp; omega, ((Var.made w _ _).onlyP hon1 (by omega)).alloc _, by rw [← hQ]; exact Var.made w1 _ _, ?_⟩
    have := ownsRow_below ho2 (below1 w1 (.cells #[.int .i64 n.k, .int .i64 n.g, .int .i64 n.t, .int .i64 n.s, .slice a n.b.length c] 26)) (Nat.le_refl _)
    rwa [show (w.alloc (.cells zeroC 26)).heap.size = w.heap.size + 1 by simp] at this
  have HNK : Hid (0 ≤ n.s ∧ n.s ≤ 80) := by
    rcases hn with rfl | ⟨h, _⟩
    · exact ⟨Int.le_refl _, by decide⟩
    · exact ⟨h.2.2.2.2.2.2.1, h.2.2.2.2.2.2.2.1⟩
  rw [hQ]
  clear hd1 hon1 hs1 HD hQ hn ho
  generalize (w1.alloc (.cells #[.int .i64 n.k, .int .i64 n.g, .int .i64 n.t, .int .i64 n.s, .slice a n.b.length c] 26)) = W0 at *
  go_wp2_with fail
  refine (belowO P x cap l 14 _ HD0.out.drw (by omega) (by omega)).mono ?_
  rintro e w2 ⟨r, rfl, hr, hd1, hon1⟩
  have HD2 : Hid (DInv w P x cap l w.heap.size Q (w.heap.size + 1) #[.int .i64 n.k, .int .i64 n.g, .int .i64 n.t, .int .i64 n.s, .slice a n.b.length c] w2 (.slice a n.b.length c) n.b) := HD0.out.draw hon1 hd1
  clear hd1 hon1 HD0
  by_cases h0 : r = 0
  · subst h0
    go_wp2_with fail
    refine (pickIntO P w2.heap.size x cap l [(-1), 4, 2] _ (HD2.out.drw.alloc _) 3 rfl (by omega) (by omega) (by have := HD2.out.drw.lt; omega) (fun j hj => cells_list [(-1), 4, 2] (Value.int .i64) 0 w2 _ _ rfl j hj)).mono ?_
    rintro e w3 ⟨y, hm, rfl, hd1, hon1⟩
    have HM : Hid (DInv w P x cap l w.heap.size Q (w.heap.size + 1) #[.int .i64 n.k, .int .i64 n.g, .int .i64 n.t, .int .i64 n.s, .slice a n.b.length c] w3 (.slice a n.b.length c) n.b) := (HD2.out.new (below1 w2 _)).draw hon1 hd1
    clear hd1 hon1 HD2 hm 
    have n1 := HM.out.node.cell 0
    have f1 := HM.out.node.frozen 0
    simp at n1
    go_upto_region 16 with fail
    have HN : Hid (DInv w P x cap l w.heap.size Q (w.heap.size + 1) #[.int .i64 y, .int .i64 n.g, .int .i64 n.t, .int .i64 n.s, .slice a n.b.length c] (w3.setCell ⟨Q, 0, none⟩ (.int .i64 y)) (.slice a n.b.length c) n.b) := HM.out.set 0 (.int .i64 y)
    clear HM n1 f1
    generalize w3.setCell ⟨Q, 0, none⟩ (.int .i64 y) = W3 at *
    have z0 := HN.out.node.cell 0
    have z1 := HN.out.node.cell 1
    have z2 := HN.out.node.cell 2
    have z3 := HN.out.node.cell 3
    have z4 := HN.out.node.cell 4
    simp at z0 z1 z2 z3 z4
    obtain ⟨hR9, r0, r1, r2, r3, r4, q0, q1, q2, q3, q4⟩ := HN.out.res.five (.int .i64 y) (.int .i64 n.g) (.int .i64 n.t) (.int .i64 n.s) (.slice a n.b.length c)
    have HZ : Hid _ := DInv.done (n := ⟨y, n.g, n.t, n.s, n.b⟩) HN.out
    have HLN : Hid (List.length (n.b) ≤ 6) := by show n.b.length ≤ 6; omega
    clear hR9 HN
    go_wp2
    refine bodyPost_ret (results_cell_row rfl _ _ w.heap.size 26 #[.int .i64 y, .int .i64 n.g, .int .i64 n.t, .int .i64 n.s, .slice a n.b.length c] (0, 0) _ rfl HZ.out.1 Tryd.underlying26 rfl Tryd.sizeNode) rfl ?_
    first
      | exact ⟨_, rfl, _, HZ.out.2.1, HLN.out, HZ.out.2.2.1, HZ.out.2.2.2⟩
      | exact ⟨_, _, rfl, HZ.out.2.1, HLN.out, HZ.out.2.2.1, HZ.out.2.2.2⟩
  by_cases h1 : r = 1
  · subst h1
    go_wp2_with fail
    refine (pickIntO P w2.heap.size x cap l [(-1), 1000001, 3] _ (HD2.out.drw.alloc _) 3 rfl (by omega) (by omega) (by have := HD2.out.drw.lt; omega) (fun j hj => cells_list [(-1), 1000001, 3] (Value.int .i64) 0 w2 _ _ rfl j hj)).mono ?_
    rintro e w3 ⟨y, hm, rfl, hd1, hon1⟩
    have HM : Hid (DInv w P x cap l w.heap.size Q (w.heap.size + 1) #[.int .i64 n.k, .int .i64 n.g, .int .i64 n.t, .int .i64 n.s, .slice a n.b.length c] w3 (.slice a n.b.length c) n.b) := (HD2.out.new (below1 w2 _)).draw hon1 hd1
    clear hd1 hon1 HD2 hm 
    have n1 := HM.out.node.cell 1
    have f1 := HM.out.node.frozen 1
    simp at n1
    go_upto_region 16 with fail
    have HN : Hid (DInv w P x cap l w.heap.size Q (w.heap.size + 1) #[.int .i64 n.k, .int .i64 y, .int .i64 n.t, .int .i64 n.s, .slice a n.b.length c] (w3.setCell ⟨Q, 1, none⟩ (.int .i64 y)) (.slice a n.b.length c) n.b) := HM.out.set 1 (.int .i64 y)
    clear HM n1 f1
    generalize w3.setCell ⟨Q, 1, none⟩ (.int .i64 y) = W3 at *
    have z0 := HN.out.node.cell 0
    have z1 := HN.out.node.cell 1
    have z2 := HN.out.node.cell 2
    have z3 := HN.out.node.cell 3
    have z4 := HN.out.node.cell 4
    simp at z0 z1 z2 z3 z4
    obtain ⟨hR9, r0, r1, r2, r3, r4, q0, q1, q2, q3, q4⟩ := HN.out.res.five (.int .i64 n.k) (.int .i64 y) (.int .i64 n.t) (.int .i64 n.s) (.slice a n.b.length c)
    have HZ : Hid _ := DInv.done (n := ⟨n.k, y, n.t, n.s, n.b⟩) HN.out
    have HLN : Hid (List.length (n.b) ≤ 6) := by show n.b.length ≤ 6; omega
    clear hR9 HN
    go_wp2
    refine bodyPost_ret (results_cell_row rfl _ _ w.heap.size 26 #[.int .i64 n.k, .int .i64 y, .int .i64 n.t, .int .i64 n.s, .slice a n.b.length c] (0, 0) _ rfl HZ.out.1 Tryd.underlying26 rfl Tryd.sizeNode) rfl ?_
    first
      | exact ⟨_, rfl, _, HZ.out.2.1, HLN.out, HZ.out.2.2.1, HZ.out.2.2.2⟩
      | exact ⟨_, _, rfl, HZ.out.2.1, HLN.out, HZ.out.2.2.1, HZ.out.2.2.2⟩
  by_cases h2 : r = 2
  · subst h2
    go_wp2_with fail
    refine (pickIntO P w2.heap.size x cap l [(-1), 100001] _ (HD2.out.drw.alloc _) 2 rfl (by omega) (by omega) (by have := HD2.out.drw.lt; omega) (fun j hj => cells_list [(-1), 100001] (Value.int .i64) 0 w2 _ _ rfl j hj)).mono ?_
    rintro e w3 ⟨y, hm, rfl, hd1, hon1⟩
    have HM : Hid (DInv w P x cap l w.heap.size Q (w.heap.size + 1) #[.int .i64 n.k, .int .i64 n.g, .int .i64 n.t, .int .i64 n.s, .slice a n.b.length c] w3 (.slice a n.b.length c) n.b) := (HD2.out.new (below1 w2 _)).draw hon1 hd1
    clear hd1 hon1 HD2 hm 
    have n1 := HM.out.node.cell 2
    have f1 := HM.out.node.frozen 2
    simp at n1
    go_upto_region 16 with fail
    have HN : Hid (DInv w P x cap l w.heap.size Q (w.heap.size + 1) #[.int .i64 n.k, .int .i64 n.g, .int .i64 y, .int .i64 n.s, .slice a n.b.length c] (w3.setCell ⟨Q, 2, none⟩ (.int .i64 y)) (.slice a n.b.length c) n.b) := HM.out.set 2 (.int .i64 y)
    clear HM n1 f1
    generalize w3.setCell ⟨Q, 2, none⟩ (.int .i64 y) = W3 at *
    have z0 := HN.out.node.cell 0
    have z1 := HN.out.node.cell 1
    have z2 := HN.out.node.cell 2
    have z3 := HN.out.node.cell 3
    have z4 := HN.out.node.cell 4
    simp at z0 z1 z2 z3 z4
    obtain ⟨hR9, r0, r1, r2, r3, r4, q0, q1, q2, q3, q4⟩ := HN.out.res.five (.int .i64 n.k) (.int .i64 n.g) (.int .i64 y) (.int .i64 n.s) (.slice a n.b.length c)
    have HZ : Hid _ := DInv.done (n := ⟨n.k, n.g, y, n.s, n.b⟩) HN.out
    have HLN : Hid (List.length (n.b) ≤ 6) := by show n.b.length ≤ 6; omega
    clear hR9 HN
    go_wp2
    refine bodyPost_ret (results_cell_row rfl _ _ w.heap.size 26 #[.int .i64 n.k, .int .i64 n.g, .int .i64 y, .int .i64 n.s, .slice a n.b.length c] (0, 0) _ rfl HZ.out.1 Tryd.underlying26 rfl Tryd.sizeNode) rfl ?_
    first
      | exact ⟨_, rfl, _, HZ.out.2.1, HLN.out, HZ.out.2.2.1, HZ.out.2.2.2⟩
      | exact ⟨_, _, rfl, HZ.out.2.1, HLN.out, HZ.out.2.2.1, HZ.out.2.2.2⟩
  by_cases h3 : r = 3
  · subst h3
    have s3 := HD2.out.node.cell 3
    simp at s3
    have hs9 := HNK.out
    have hwr : IntKind.i64.wrap (n.s + 16) = n.s + 16 := by rw [IntKind.wrap_i64]; omega
    go_wp2_with fail
    refine (pickIntO P w2.heap.size x cap l [(-1), 81, (n.s + 16)] _ (HD2.out.drw.alloc _) 3 rfl (by omega) (by omega) (by have := HD2.out.drw.lt; omega) (fun j hj => cells_list [(-1), 81, (n.s + 16)] (Value.int .i64) 0 w2 _ _ rfl j hj)).mono ?_
    rintro e w3 ⟨y, hm, rfl, hd1, hon1⟩
    have HM : Hid (DInv w P x cap l w.heap.size Q (w.heap.size + 1) #[.int .i64 n.k, .int .i64 n.g, .int .i64 n.t, .int .i64 n.s, .slice a n.b.length c] w3 (.slice a n.b.length c) n.b) := (HD2.out.new (below1 w2 _)).draw hon1 hd1
    clear hd1 hon1 HD2 hm s3
    have n1 := HM.out.node.cell 3
    have f1 := HM.out.node.frozen 3
    simp at n1
    go_upto_region 16 with fail
    have HN : Hid (DInv w P x cap l w.heap.size Q (w.heap.size + 1) #[.int .i64 n.k, .int .i64 n.g, .int .i64 n.t, .int .i64 y, .slice a n.b.length c] (w3.setCell ⟨Q, 3, none⟩ (.int .i64 y)) (.slice a n.b.length c) n.b) := HM.out.set 3 (.int .i64 y)
    clear HM n1 f1
    generalize w3.setCell ⟨Q, 3, none⟩ (.int .i64 y) = W3 at *
    have z0 := HN.out.node.cell 0
    have z1 := HN.out.node.cell 1
    have z2 := HN.out.node.cell 2
    have z3 := HN.out.node.cell 3
    have z4 := HN.out.node.cell 4
    simp at z0 z1 z2 z3 z4
    obtain ⟨hR9, r0, r1, r2, r3, r4, q0, q1, q2, q3, q4⟩ := HN.out.res.five (.int .i64 n.k) (.int .i64 n.g) (.int .i64 n.t) (.int .i64 y) (.slice a n.b.length c)
    have HZ : Hid _ := DInv.done (n := ⟨n.k, n.g, n.t, y, n.b⟩) HN.out
    have HLN : Hid (List.length (n.b) ≤ 6) := by show n.b.length ≤ 6; omega
    clear hR9 HN
    go_wp2
    refine bodyPost_ret (results_cell_row rfl _ _ w.heap.size 26 #[.int .i64 n.k, .int .i64 n.g, .int .i64 n.t, .int .i64 y, .slice a n.b.length c] (0, 0) _ rfl HZ.out.1 Tryd.underlying26 rfl Tryd.sizeNode) rfl ?_
    first
      | exact ⟨_, rfl, _, HZ.out.2.1, HLN.out, HZ.out.2.2.1, HZ.out.2.2.2⟩
      | exact ⟨_, _, rfl, HZ.out.2.1, HLN.out, HZ.out.2.2.1, HZ.out.2.2.2⟩
  by_cases h4 : r = 4
  · subst h4
    have s4 := HD2.out.node.cell 4
    have g4 := HD2.out.node.frozen 4
    simp at s4
    have HD2d : Hid (DInv w P x cap l w.heap.size Q (w.heap.size + 1) #[.int .i64 n.k, .int .i64 n.g, .int .i64 n.t, .int .i64 n.s, .slice a n.b.length c] w2.drew (.slice a n.b.length c) n.b) := HD2.out.drew
    clear s4 g4
    go_wp2
    refine wp_region_noPanic ?_
    refine wp_region_held_drew (S := fun _ => True) (by kernel_rfl) trivial (fun _ => ?_)
    clear HD2
    generalize w2.drew = WD at *
    refine held_take (i := 0) (v := .pointer (some ⟨Q, 4, none⟩)) rfl rfl (by kernel_rfl) (by kernel_rfl) (by kernel_rfl) (by kernel_rfl) (fun W _ => by go_simp) trivial ?_
    simp only [Act.put, List.setIfInBounds_toArray, List.set_cons_zero, List.set_cons_succ]
    refine held_take (i := 2) (v := .pointer (some ⟨P, 0, none⟩)) rfl rfl (by kernel_rfl) (by kernel_rfl) (by kernel_rfl) (by kernel_rfl) (fun W _ => by go_simp) trivial ?_
    simp only [Act.put, List.setIfInBounds_toArray, List.set_cons_zero, List.set_cons_succ]
    refine wpAnyH_ready (rs := [1, 3]) (by kernel_rfl) (by simp) (AllReadyH.cons rfl (fun K hK => ?_) (AllReadyH.cons rfl (fun K hK => ?_) AllReadyH.nil))
    · skip
      have s4 := HD2d.out.node.cell 4
      simp at s4
      go_simp
      refine hK.out _ _ trivial (fun _ => ?_)
      clear hK K
      try simp only [Act.put, List.setIfInBounds_toArray, List.set_cons_zero, List.set_cons_succ]
      clear s4
      refine wpAnyH_ready (rs := [3]) (by kernel_rfl) (by simp) (AllReadyH.cons rfl (fun K hK => ?_) AllReadyH.nil)
      go_simp
      refine hK.out _ _ trivial (fun _ => ?_)
      clear hK K
      try simp only [Act.put, List.setIfInBounds_toArray, List.set_cons_zero, List.set_cons_succ]
      have HA : Hid (DInv w P x cap l w.heap.size Q (w.heap.size + 1) #[.int .i64 n.k, .int .i64 n.g, .int .i64 n.t, .int .i64 n.s, .slice a n.b.length c] (WD.alloc (.cells #[.int .i64 0, .int .i64 36, .int .i64 (-1)] 3)) (.slice a n.b.length c) n.b) := HD2d.out.new (below1 WD _)
      have HL : Hid (∀ j, j < List.length ([0, 36, (-1)] : List Int) → (WD.alloc (.cells #[.int .i64 0, .int .i64 36, .int .i64 (-1)] 3)).cell? ⟨WD.heap.size, j, none⟩ = some (.int .i64 (([0, 36, (-1)] : List Int).getD j 0))) := fun j hj => cells_list [0, 36, (-1)] (Value.int .i64) 0 WD _ _ rfl j hj
      generalize WD.alloc (.cells #[.int .i64 0, .int .i64 36, .int .i64 (-1)] 3) = WA at *
      refine wpAnyH_ready (rs := [4]) (by kernel_rfl) (by simp) (AllReadyH.cons rfl (fun K hK => ?_) AllReadyH.nil)
      go_simp
      refine (pickIntO P WD.heap.size x cap l [0, 36, (-1)] WA HA.out.drw 3 rfl (by omega) (by omega) (by have := HD2d.out.drw.lt; omega) HL.out).mono ?_
      rintro e w3 ⟨y, hm, rfl, hd1, hon1⟩
      have HB : Hid (DInv w P x cap l w.heap.size Q (w.heap.size + 1) #[.int .i64 n.k, .int .i64 n.g, .int .i64 n.t, .int .i64 n.s, .slice a n.b.length c] w3 (.slice a n.b.length c) n.b) := HA.out.draw hon1 hd1
      clear hd1 hon1 hm
      refine hK.out _ _ trivial (fun _ => ?_)
      clear hK K
      try simp only [Act.put, List.setIfInBounds_toArray, List.set_cons_zero, List.set_cons_succ]
      refine wpAnyH_ready (rs := [5]) (by kernel_rfl) (by simp) (AllReadyH.cons rfl (fun K hK => ?_) AllReadyH.nil)
      go_simp
      refine hK.out _ _ trivial (fun _ => ?_)
      clear hK K
      try simp only [Act.put, List.setIfInBounds_toArray, List.set_cons_zero, List.set_cons_succ]
      have HC : Hid (DInv w P x cap l w.heap.size Q (w.heap.size + 1) #[.int .i64 n.k, .int .i64 n.g, .int .i64 n.t, .int .i64 n.s, .slice a n.b.length c] (w3.alloc (.cells #[.int .i64 y] 3)) (.slice a n.b.length c) n.b) := HB.out.new (below1 w3 _)
      have HS3 : Hid (Src Tryd.prog 1 24 (.slice (some ⟨w3.heap.size, 0, none⟩) 1 1) 1 [.int .i64 y] (w3.alloc (.cells #[.int .i64 y] 3))) := src_oneI Tryd.underlying24 w3 _ rfl
      generalize w3.alloc (.cells #[.int .i64 y] 3) = WC at *
      refine wpAnyH_ready (rs := [6]) (by kernel_rfl) (by simp) (AllReadyH.cons rfl (fun K hK => ?_) AllReadyH.nil)
      refine step_own_srcN WC rfl (.tmp 38) (.tmp 42) 24 24 rfl (w.heap.size + 1) 3 i1 (.int .i64 0) 1 8 Tryd.underlying24 ii iz0 iz1 iz2 rfl (.slice a n.b.length c) n.b.length (n.b.map (Value.int .i64)) (.slice (some ⟨w3.heap.size, 0, none⟩) 1 1) 1 [.int .i64 y] (by unfold maxLen; omega) (by omega) (by simp [Act.eval]) (by simp [Act.eval]) HC.out.own HS3.out HC.out.siz ?_
      intro v5 w5 ho5 hg5
      have HN5 : Hid (DInv w P x cap l w.heap.size Q (w.heap.size + 1) #[.int .i64 n.k, .int .i64 n.g, .int .i64 n.t, .int .i64 n.s, .slice a n.b.length c] w5 v5 (n.b ++ [y])) := by
        refine HC.out.grown hg5 ?_
        rw [List.length_append, List.map_append]
        exact ho5
      have HLL : Hid ((n.b ++ [y]).length ≤ 6) := by show _ ≤ _; rw [List.length_append]; simp only [List.length_cons, List.length_nil]; omega
      obtain ⟨B, hB⟩ : ∃ B, n.b ++ [y] = B := ⟨_, rfl⟩
      rw [hB] at HN5 HLL
      obtain ⟨a5, c5, hv5, _, _⟩ := own_rd HN5.out.own
      subst hv5
      clear ho5 hg5 HS3 hB
      refine hK.out _ _ trivial (fun _ => ?_)
      clear hK K
      simp only [Act.put, List.setIfInBounds_toArray]
      refine held_take (i := 7) (v := .pointer (some ⟨Q, 4, none⟩)) rfl rfl (by kernel_rfl) (by kernel_rfl) (by kernel_rfl) (by kernel_rfl) (fun W _ => by go_simp) trivial ?_
      simp only [Act.put]
      refine wpAnyH_ready (rs := [8]) (by kernel_rfl) (by simp) (AllReadyH.cons rfl (fun K hK => ?_) AllReadyH.nil)
      have s5 := HN5.out.node.cell 4
      have g5 := HN5.out.node.frozen 4
      simp at s5
      go_simp
      refine hK.out _ _ trivial (fun _ => ?_)
      clear hK K
      clear s5 g5
      have HN : Hid (DInv w P x cap l w.heap.size Q (w.heap.size + 1) #[.int .i64 n.k, .int .i64 n.g, .int .i64 n.t, .int .i64 n.s, .slice a5 B.length c5] (w5.setCell ⟨Q, 4, none⟩ (.slice a5 B.length c5)) (.slice a5 B.length c5) B) := HN5.out.set 4 (.slice a5 B.length c5)
      refine wpAnyH_done (by kernel_rfl) ?_ _
      simp only [NoPanic]
      clear HN5 HD2d HA HB HC
      generalize w5.setCell ⟨Q, 4, none⟩ (.slice a5 B.length c5) = W6 at *
      have z0 := HN.out.node.cell 0
      have z1 := HN.out.node.cell 1
      have z2 := HN.out.node.cell 2
      have z3 := HN.out.node.cell 3
      have z4 := HN.out.node.cell 4
      simp only [List.getElem?_toArray, List.getElem?_cons_zero, List.getElem?_cons_succ] at z0 z1 z2 z3 z4
      obtain ⟨hR9, r0, r1, r2, r3, r4, q0, q1, q2, q3, q4⟩ := HN.out.res.five (.int .i64 n.k) (.int .i64 n.g) (.int .i64 n.t) (.int .i64 n.s) (.slice a5 B.length c5)
      have HZ : Hid _ := DInv.done (n := ⟨n.k, n.g, n.t, n.s, B⟩) HN.out
      have HLN : Hid (List.length (B) ≤ 6) := HLL
      clear hR9 HN
      go_wp2
      refine bodyPost_ret (results_cell_row rfl _ _ w.heap.size 26 #[.int .i64 n.k, .int .i64 n.g, .int .i64 n.t, .int .i64 n.s, .slice a5 B.length c5] (0, 0) _ rfl HZ.out.1 Tryd.underlying26 rfl Tryd.sizeNode) rfl ?_
      first
        | exact ⟨_, rfl, _, HZ.out.2.1, HLN.out, HZ.out.2.2.1, HZ.out.2.2.2⟩
        | exact ⟨_, _, rfl, HZ.out.2.1, HLN.out, HZ.out.2.2.1, HZ.out.2.2.2⟩
    · skip
      go_simp
      refine hK.out _ _ trivial (fun _ => ?_)
      clear hK K
      try simp only [Act.put, List.setIfInBounds_toArray, List.set_cons_zero, List.set_cons_succ]
      have HA : Hid (DInv w P x cap l w.heap.size Q (w.heap.size + 1) #[.int .i64 n.k, .int .i64 n.g, .int .i64 n.t, .int .i64 n.s, .slice a n.b.length c] (WD.alloc (.cells #[.int .i64 0, .int .i64 36, .int .i64 (-1)] 3)) (.slice a n.b.length c) n.b) := HD2d.out.new (below1 WD _)
      have HL : Hid (∀ j, j < List.length ([0, 36, (-1)] : List Int) → (WD.alloc (.cells #[.int .i64 0, .int .i64 36, .int .i64 (-1)] 3)).cell? ⟨WD.heap.size, j, none⟩ = some (.int .i64 (([0, 36, (-1)] : List Int).getD j 0))) := fun j hj => cells_list [0, 36, (-1)] (Value.int .i64) 0 WD _ _ rfl j hj
      generalize WD.alloc (.cells #[.int .i64 0, .int .i64 36, .int .i64 (-1)] 3) = WA at *
      refine wpAnyH_ready (rs := [1, 4]) (by kernel_rfl) (by simp) (AllReadyH.cons rfl (fun K hK => ?_) (AllReadyH.cons rfl (fun K hK => ?_) AllReadyH.nil))
      · skip
        have s4 := HA.out.node.cell 4
        simp at s4
        go_simp
        refine hK.out _ _ trivial (fun _ => ?_)
        clear hK K
        try simp only [Act.put, List.setIfInBounds_toArray, List.set_cons_zero, List.set_cons_succ]
        clear s4
        refine wpAnyH_ready (rs := [4]) (by kernel_rfl) (by simp) (AllReadyH.cons rfl (fun K hK => ?_) AllReadyH.nil)
        go_simp
        refine (pickIntO P WD.heap.size x cap l [0, 36, (-1)] WA HA.out.drw 3 rfl (by omega) (by omega) (by have := HD2d.out.drw.lt; omega) HL.out).mono ?_
        rintro e w3 ⟨y, hm, rfl, hd1, hon1⟩
        have HB : Hid (DInv w P x cap l w.heap.size Q (w.heap.size + 1) #[.int .i64 n.k, .int .i64 n.g, .int .i64 n.t, .int .i64 n.s, .slice a n.b.length c] w3 (.slice a n.b.length c) n.b) := HA.out.draw hon1 hd1
        clear hd1 hon1 hm
        refine hK.out _ _ trivial (fun _ => ?_)
        clear hK K
        try simp only [Act.put, List.setIfInBounds_toArray, List.set_cons_zero, List.set_cons_succ]
        refine wpAnyH_ready (rs := [5]) (by kernel_rfl) (by simp) (AllReadyH.cons rfl (fun K hK => ?_) AllReadyH.nil)
        go_simp
        refine hK.out _ _ trivial (fun _ => ?_)
        clear hK K
        try simp only [Act.put, List.setIfInBounds_toArray, List.set_cons_zero, List.set_cons_succ]
        have HC : Hid (DInv w P x cap l w.heap.size Q (w.heap.size + 1) #[.int .i64 n.k, .int .i64 n.g, .int .i64 n.t, .int .i64 n.s, .slice a n.b.length c] (w3.alloc (.cells #[.int .i64 y] 3)) (.slice a n.b.length c) n.b) := HB.out.new (below1 w3 _)
        have HS3 : Hid (Src Tryd.prog 1 24 (.slice (some ⟨w3.heap.size, 0, none⟩) 1 1) 1 [.int .i64 y] (w3.alloc (.cells #[.int .i64 y] 3))) := src_oneI Tryd.underlying24 w3 _ rfl
        generalize w3.alloc (.cells #[.int .i64 y] 3) = WC at *
        refine wpAnyH_ready (rs := [6]) (by kernel_rfl) (by simp) (AllReadyH.cons rfl (fun K hK => ?_) AllReadyH.nil)
        refine step_own_srcN WC rfl (.tmp 38) (.tmp 42) 24 24 rfl (w.heap.size + 1) 3 i1 (.int .i64 0) 1 8 Tryd.underlying24 ii iz0 iz1 iz2 rfl (.slice a n.b.length c) n.b.length (n.b.map (Value.int .i64)) (.slice (some ⟨w3.heap.size, 0, none⟩) 1 1) 1 [.int .i64 y] (by unfold maxLen; omega) (by omega) (by simp [Act.eval]) (by simp [Act.eval]) HC.out.own HS3.out HC.out.siz ?_
        intro v5 w5 ho5 hg5
        have HN5 : Hid (DInv w P x cap l w.heap.size Q (w.heap.size + 1) #[.int .i64 n.k, .int .i64 n.g, .int .i64 n.t, .int .i64 n.s, .slice a n.b.length c] w5 v5 (n.b ++ [y])) := by
          refine HC.out.grown hg5 ?_
          rw [List.length_append, List.map_append]
          exact ho5
        have HLL : Hid ((n.b ++ [y]).length ≤ 6) := by show _ ≤ _; rw [List.length_append]; simp only [List.length_cons, List.length_nil]; omega
        obtain ⟨B, hB⟩ : ∃ B, n.b ++ [y] = B := ⟨_, rfl⟩
        rw [hB] at HN5 HLL
        obtain ⟨a5, c5, hv5, _, _⟩ := own_rd HN5.out.own
        subst hv5
        clear ho5 hg5 HS3 hB
        refine hK.out _ _ trivial (fun _ => ?_)
        clear hK K
        simp only [Act.put, List.setIfInBounds_toArray]
        refine held_take (i := 7) (v := .pointer (some ⟨Q, 4, none⟩)) rfl rfl (by kernel_rfl) (by kernel_rfl) (by kernel_rfl) (by kernel_rfl) (fun W _ => by go_simp) trivial ?_
        simp only [Act.put]
        refine wpAnyH_ready (rs := [8]) (by kernel_rfl) (by simp) (AllReadyH.cons rfl (fun K hK => ?_) AllReadyH.nil)
        have s5 := HN5.out.node.cell 4
        have g5 := HN5.out.node.frozen 4
        simp at s5
        go_simp
        refine hK.out _ _ trivial (fun _ => ?_)
        clear hK K
        clear s5 g5
        have HN : Hid (DInv w P x cap l w.heap.size Q (w.heap.size + 1) #[.int .i64 n.k, .int .i64 n.g, .int .i64 n.t, .int .i64 n.s, .slice a5 B.length c5] (w5.setCell ⟨Q, 4, none⟩ (.slice a5 B.length c5)) (.slice a5 B.length c5) B) := HN5.out.set 4 (.slice a5 B.length c5)
        refine wpAnyH_done (by kernel_rfl) ?_ _
        simp only [NoPanic]
        clear HN5 HD2d HA HB HC
        generalize w5.setCell ⟨Q, 4, none⟩ (.slice a5 B.length c5) = W6 at *
        have z0 := HN.out.node.cell 0
        have z1 := HN.out.node.cell 1
        have z2 := HN.out.node.cell 2
        have z3 := HN.out.node.cell 3
        have z4 := HN.out.node.cell 4
        simp only [List.getElem?_toArray, List.getElem?_cons_zero, List.getElem?_cons_succ] at z0 z1 z2 z3 z4
        obtain ⟨hR9, r0, r1, r2, r3, r4, q0, q1, q2, q3, q4⟩ := HN.out.res.five (.int .i64 n.k) (.int .i64 n.g) (.int .i64 n.t) (.int .i64 n.s) (.slice a5 B.length c5)
        have HZ : Hid _ := DInv.done (n := ⟨n.k, n.g, n.t, n.s, B⟩) HN.out
        have HLN : Hid (List.length (B) ≤ 6) := HLL
        clear hR9 HN
        go_wp2
        refine bodyPost_ret (results_cell_row rfl _ _ w.heap.size 26 #[.int .i64 n.k, .int .i64 n.g, .int .i64 n.t, .int .i64 n.s, .slice a5 B.length c5] (0, 0) _ rfl HZ.out.1 Tryd.underlying26 rfl Tryd.sizeNode) rfl ?_
        first
          | exact ⟨_, rfl, _, HZ.out.2.1, HLN.out, HZ.out.2.2.1, HZ.out.2.2.2⟩
          | exact ⟨_, _, rfl, HZ.out.2.1, HLN.out, HZ.out.2.2.1, HZ.out.2.2.2⟩
      · skip
        go_simp
        refine (pickIntO P WD.heap.size x cap l [0, 36, (-1)] WA HA.out.drw 3 rfl (by omega) (by omega) (by have := HD2d.out.drw.lt; omega) HL.out).mono ?_
        rintro e w3 ⟨y, hm, rfl, hd1, hon1⟩
        have HB : Hid (DInv w P x cap l w.heap.size Q (w.heap.size + 1) #[.int .i64 n.k, .int .i64 n.g, .int .i64 n.t, .int .i64 n.s, .slice a n.b.length c] w3 (.slice a n.b.length c) n.b) := HA.out.draw hon1 hd1
        clear hd1 hon1 hm
        refine hK.out _ _ trivial (fun _ => ?_)
        clear hK K
        try simp only [Act.put, List.setIfInBounds_toArray, List.set_cons_zero, List.set_cons_succ]
        refine wpAnyH_ready (rs := [1, 5]) (by kernel_rfl) (by simp) (AllReadyH.cons rfl (fun K hK => ?_) (AllReadyH.cons rfl (fun K hK => ?_) AllReadyH.nil))
        · skip
          have s4 := HB.out.node.cell 4
          simp at s4
          go_simp
          refine hK.out _ _ trivial (fun _ => ?_)
          clear hK K
          try simp only [Act.put, List.setIfInBounds_toArray, List.set_cons_zero, List.set_cons_succ]
          clear s4
          refine wpAnyH_ready (rs := [5]) (by kernel_rfl) (by simp) (AllReadyH.cons rfl (fun K hK => ?_) AllReadyH.nil)
          go_simp
          refine hK.out _ _ trivial (fun _ => ?_)
          clear hK K
          try simp only [Act.put, List.setIfInBounds_toArray, List.set_cons_zero, List.set_cons_succ]
          have HC : Hid (DInv w P x cap l w.heap.size Q (w.heap.size + 1) #[.int .i64 n.k, .int .i64 n.g, .int .i64 n.t, .int .i64 n.s, .slice a n.b.length c] (w3.alloc (.cells #[.int .i64 y] 3)) (.slice a n.b.length c) n.b) := HB.out.new (below1 w3 _)
          have HS3 : Hid (Src Tryd.prog 1 24 (.slice (some ⟨w3.heap.size, 0, none⟩) 1 1) 1 [.int .i64 y] (w3.alloc (.cells #[.int .i64 y] 3))) := src_oneI Tryd.underlying24 w3 _ rfl
          generalize w3.alloc (.cells #[.int .i64 y] 3) = WC at *
          refine wpAnyH_ready (rs := [6]) (by kernel_rfl) (by simp) (AllReadyH.cons rfl (fun K hK => ?_) AllReadyH.nil)
          refine step_own_srcN WC rfl (.tmp 38) (.tmp 42) 24 24 rfl (w.heap.size + 1) 3 i1 (.int .i64 0) 1 8 Tryd.underlying24 ii iz0 iz1 iz2 rfl (.slice a n.b.length c) n.b.length (n.b.map (Value.int .i64)) (.slice (some ⟨w3.heap.size, 0, none⟩) 1 1) 1 [.int .i64 y] (by unfold maxLen; omega) (by omega) (by simp [Act.eval]) (by simp [Act.eval]) HC.out.own HS3.out HC.out.siz ?_
          intro v5 w5 ho5 hg5
          have HN5 : Hid (DInv w P x cap l w.heap.size Q (w.heap.size + 1) #[.int .i64 n.k, .int .i64 n.g, .int .i64 n.t, .int .i64 n.s, .slice a n.b.length c] w5 v5 (n.b ++ [y])) := by
            refine HC.out.grown hg5 ?_
            rw [List.length_append, List.map_append]
            exact ho5
          have HLL : Hid ((n.b ++ [y]).length ≤ 6) := by show _ ≤ _; rw [List.length_append]; simp only [List.length_cons, List.length_nil]; omega
          obtain ⟨B, hB⟩ : ∃ B, n.b ++ [y] = B := ⟨_, rfl⟩
          rw [hB] at HN5 HLL
          obtain ⟨a5, c5, hv5, _, _⟩ := own_rd HN5.out.own
          subst hv5
          clear ho5 hg5 HS3 hB
          refine hK.out _ _ trivial (fun _ => ?_)
          clear hK K
          simp only [Act.put, List.setIfInBounds_toArray]
          refine held_take (i := 7) (v := .pointer (some ⟨Q, 4, none⟩)) rfl rfl (by kernel_rfl) (by kernel_rfl) (by kernel_rfl) (by kernel_rfl) (fun W _ => by go_simp) trivial ?_
          simp only [Act.put]
          refine wpAnyH_ready (rs := [8]) (by kernel_rfl) (by simp) (AllReadyH.cons rfl (fun K hK => ?_) AllReadyH.nil)
          have s5 := HN5.out.node.cell 4
          have g5 := HN5.out.node.frozen 4
          simp at s5
          go_simp
          refine hK.out _ _ trivial (fun _ => ?_)
          clear hK K
          clear s5 g5
          have HN : Hid (DInv w P x cap l w.heap.size Q (w.heap.size + 1) #[.int .i64 n.k, .int .i64 n.g, .int .i64 n.t, .int .i64 n.s, .slice a5 B.length c5] (w5.setCell ⟨Q, 4, none⟩ (.slice a5 B.length c5)) (.slice a5 B.length c5) B) := HN5.out.set 4 (.slice a5 B.length c5)
          refine wpAnyH_done (by kernel_rfl) ?_ _
          simp only [NoPanic]
          clear HN5 HD2d HA HB HC
          generalize w5.setCell ⟨Q, 4, none⟩ (.slice a5 B.length c5) = W6 at *
          have z0 := HN.out.node.cell 0
          have z1 := HN.out.node.cell 1
          have z2 := HN.out.node.cell 2
          have z3 := HN.out.node.cell 3
          have z4 := HN.out.node.cell 4
          simp only [List.getElem?_toArray, List.getElem?_cons_zero, List.getElem?_cons_succ] at z0 z1 z2 z3 z4
          obtain ⟨hR9, r0, r1, r2, r3, r4, q0, q1, q2, q3, q4⟩ := HN.out.res.five (.int .i64 n.k) (.int .i64 n.g) (.int .i64 n.t) (.int .i64 n.s) (.slice a5 B.length c5)
          have HZ : Hid _ := DInv.done (n := ⟨n.k, n.g, n.t, n.s, B⟩) HN.out
          have HLN : Hid (List.length (B) ≤ 6) := HLL
          clear hR9 HN
          go_wp2
          refine bodyPost_ret (results_cell_row rfl _ _ w.heap.size 26 #[.int .i64 n.k, .int .i64 n.g, .int .i64 n.t, .int .i64 n.s, .slice a5 B.length c5] (0, 0) _ rfl HZ.out.1 Tryd.underlying26 rfl Tryd.sizeNode) rfl ?_
          first
            | exact ⟨_, rfl, _, HZ.out.2.1, HLN.out, HZ.out.2.2.1, HZ.out.2.2.2⟩
            | exact ⟨_, _, rfl, HZ.out.2.1, HLN.out, HZ.out.2.2.1, HZ.out.2.2.2⟩
        · skip
          go_simp
          refine hK.out _ _ trivial (fun _ => ?_)
          clear hK K
          try simp only [Act.put, List.setIfInBounds_toArray, List.set_cons_zero, List.set_cons_succ]
          have HC : Hid (DInv w P x cap l w.heap.size Q (w.heap.size + 1) #[.int .i64 n.k, .int .i64 n.g, .int .i64 n.t, .int .i64 n.s, .slice a n.b.length c] (w3.alloc (.cells #[.int .i64 y] 3)) (.slice a n.b.length c) n.b) := HB.out.new (below1 w3 _)
          have HS3 : Hid (Src Tryd.prog 1 24 (.slice (some ⟨w3.heap.size, 0, none⟩) 1 1) 1 [.int .i64 y] (w3.alloc (.cells #[.int .i64 y] 3))) := src_oneI Tryd.underlying24 w3 _ rfl
          generalize w3.alloc (.cells #[.int .i64 y] 3) = WC at *
          refine wpAnyH_ready (rs := [1]) (by kernel_rfl) (by simp) (AllReadyH.cons rfl (fun K hK => ?_) AllReadyH.nil)
          have s4 := HC.out.node.cell 4
          simp at s4
          go_simp
          refine hK.out _ _ trivial (fun _ => ?_)
          clear hK K
          try simp only [Act.put, List.setIfInBounds_toArray, List.set_cons_zero, List.set_cons_succ]
          clear s4
          refine wpAnyH_ready (rs := [6]) (by kernel_rfl) (by simp) (AllReadyH.cons rfl (fun K hK => ?_) AllReadyH.nil)
          refine step_own_srcN WC rfl (.tmp 38) (.tmp 42) 24 24 rfl (w.heap.size + 1) 3 i1 (.int .i64 0) 1 8 Tryd.underlying24 ii iz0 iz1 iz2 rfl (.slice a n.b.length c) n.b.length (n.b.map (Value.int .i64)) (.slice (some ⟨w3.heap.size, 0, none⟩) 1 1) 1 [.int .i64 y] (by unfold maxLen; omega) (by omega) (by simp [Act.eval]) (by simp [Act.eval]) HC.out.own HS3.out HC.out.siz ?_
          intro v5 w5 ho5 hg5
          have HN5 : Hid (DInv w P x cap l w.heap.size Q (w.heap.size + 1) #[.int .i64 n.k, .int .i64 n.g, .int .i64 n.t, .int .i64 n.s, .slice a n.b.length c] w5 v5 (n.b ++ [y])) := by
            refine HC.out.grown hg5 ?_
            rw [List.length_append, List.map_append]
            exact ho5
          have HLL : Hid ((n.b ++ [y]).length ≤ 6) := by show _ ≤ _; rw [List.length_append]; simp only [List.length_cons, List.length_nil]; omega
          obtain ⟨B, hB⟩ : ∃ B, n.b ++ [y] = B := ⟨_, rfl⟩
          rw [hB] at HN5 HLL
          obtain ⟨a5, c5, hv5, _, _⟩ := own_rd HN5.out.own
          subst hv5
          clear ho5 hg5 HS3 hB
          refine hK.out _ _ trivial (fun _ => ?_)
          clear hK K
          simp only [Act.put, List.setIfInBounds_toArray]
          refine held_take (i := 7) (v := .pointer (some ⟨Q, 4, none⟩)) rfl rfl (by kernel_rfl) (by kernel_rfl) (by kernel_rfl) (by kernel_rfl) (fun W _ => by go_simp) trivial ?_
          simp only [Act.put]
          refine wpAnyH_ready (rs := [8]) (by kernel_rfl) (by simp) (AllReadyH.cons rfl (fun K hK => ?_) AllReadyH.nil)
          have s5 := HN5.out.node.cell 4
          have g5 := HN5.out.node.frozen 4
          simp at s5
          go_simp
          refine hK.out _ _ trivial (fun _ => ?_)
          clear hK K
          clear s5 g5
          have HN : Hid (DInv w P x cap l w.heap.size Q (w.heap.size + 1) #[.int .i64 n.k, .int .i64 n.g, .int .i64 n.t, .int .i64 n.s, .slice a5 B.length c5] (w5.setCell ⟨Q, 4, none⟩ (.slice a5 B.length c5)) (.slice a5 B.length c5) B) := HN5.out.set 4 (.slice a5 B.length c5)
          refine wpAnyH_done (by kernel_rfl) ?_ _
          simp only [NoPanic]
          clear HN5 HD2d HA HB HC
          generalize w5.setCell ⟨Q, 4, none⟩ (.slice a5 B.length c5) = W6 at *
          have z0 := HN.out.node.cell 0
          have z1 := HN.out.node.cell 1
          have z2 := HN.out.node.cell 2
          have z3 := HN.out.node.cell 3
          have z4 := HN.out.node.cell 4
          simp only [List.getElem?_toArray, List.getElem?_cons_zero, List.getElem?_cons_succ] at z0 z1 z2 z3 z4
          obtain ⟨hR9, r0, r1, r2, r3, r4, q0, q1, q2, q3, q4⟩ := HN.out.res.five (.int .i64 n.k) (.int .i64 n.g) (.int .i64 n.t) (.int .i64 n.s) (.slice a5 B.length c5)
          have HZ : Hid _ := DInv.done (n := ⟨n.k, n.g, n.t, n.s, B⟩) HN.out
          have HLN : Hid (List.length (B) ≤ 6) := HLL
          clear hR9 HN
          go_wp2
          refine bodyPost_ret (results_cell_row rfl _ _ w.heap.size 26 #[.int .i64 n.k, .int .i64 n.g, .int .i64 n.t, .int .i64 n.s, .slice a5 B.length c5] (0, 0) _ rfl HZ.out.1 Tryd.underlying26 rfl Tryd.sizeNode) rfl ?_
          first
            | exact ⟨_, rfl, _, HZ.out.2.1, HLN.out, HZ.out.2.2.1, HZ.out.2.2.2⟩
            | exact ⟨_, _, rfl, HZ.out.2.1, HLN.out, HZ.out.2.2.1, HZ.out.2.2.2⟩
  by_cases h5 : r = 5
  · subst h5
    have s4 := HD2.out.node.cell 4
    simp at s4
    by_cases hb1 : 1 < n.b.length
    · have hb2 : (1 : Int) < (n.b.length : Int) := by omega
      have hb3 : (0 : Int) < (n.b.length : Int) := by omega
      have hbn : ¬ n.b = [] := fun h => by rw [h] at hb1; simp at hb1
      obtain ⟨g, hg, hgQ, HCG⟩ : ∃ g, a = some ⟨g, 0, none⟩ ∧ g ≠ Q ∧ Hid (∃ y0 y1 ys, n.b = y0 :: y1 :: ys ∧ w2.cell? ⟨g, 0, none⟩ = some (.int .i64 y0) ∧ w2.cell? ⟨g, 1, none⟩ = some (.int .i64 y1)) := by
        rcases HD2.out.own.2 with ⟨he, h0⟩ | ⟨g, cc, cur, he, _⟩
        · omega
        · injection he with he1 he2 he3
          refine ⟨g, he1, fun h => own_varN HD2.out.own HD2.out.node (by decide) (by rw [he1, h]; rfl), ?_⟩
          have ho := HD2.out.own
          rw [he1] at ho
          match hbb : n.b, hb1 with
          | y0 :: y1 :: ys, _ =>
            have c0 := ho.cellAt 0 (by omega)
            have c1 := ho.cellAt 1 (by omega)
            rw [hbb] at c0 c1
            exact ⟨y0, y1, ys, rfl, by rw [c0]; rfl, by rw [c1]; rfl⟩
          | [], h => simp at h
          | [_], h => simp at h
      subst hg
      obtain ⟨y0, y1, ys, hbb, c0, c1⟩ := HCG.out
      have f0 : w2.frozen? ⟨g, 0, none⟩ = false := HD2.out.own.frozenAt 0
      have HN : Hid (DInv w P x cap l w.heap.size Q (w.heap.size + 1) #[.int .i64 n.k, .int .i64 n.g, .int .i64 n.t, .int .i64 n.s, .slice (some ⟨g, 0, none⟩) (y1 :: y1 :: ys).length c] (w2.drew.setCell ⟨g, 0, none⟩ (.int .i64 y1)) (.slice (some ⟨g, 0, none⟩) (y1 :: y1 :: ys).length c) (y1 :: y1 :: ys)) := by
        have hd := HD2.out.drew
        have hst := hd.own.stored 0 (.int .i64 y1)
        have hle : n.b.length = (y1 :: y1 :: ys).length := by rw [hbb]; rfl
        have hgr := hd.grown hst.2 (v' := .slice (some ⟨g, 0, none⟩) n.b.length c) (zs := y1 :: y1 :: ys) (by
          have h := hst.1
          rw [← List.map_set, hbb] at h
          rw [← hle, hbb]
          exact h)
        rw [hle] at hgr
        exact hgr
      have HK1 : Hid ((w2.setCell ⟨g, 0, none⟩ (.int .i64 y1)).drew.cell? ⟨g, 1, none⟩ = some (.int .i64 y1)) := by
        have h := HN.out.own.cellAt 1 (by simp)
        exact h.trans rfl
      have hl2 : (y1 :: y1 :: ys).length = n.b.length := by rw [hbb]; rfl
      rw [hl2] at HN
      have HLL : Hid ((y1 :: y1 :: ys).length ≤ 6) := by show _ ≤ _; rw [hl2]; omega
      have HLE : Hid ((y1 :: y1 :: ys).length = n.b.length) := hl2
      have HSD : Hid (w2.drew.cell? ⟨Q, 4, none⟩ = some (.slice (some ⟨g, 0, none⟩) n.b.length c) ∧ w2.drew.cell? ⟨g, 1, none⟩ = some (.int .i64 y1)) := ⟨s4, c1⟩
      have HSN : Hid ((w2.setCell ⟨g, 0, none⟩ (.int .i64 y1)).drew.cell? ⟨Q, 4, none⟩ = some (.slice (some ⟨g, 0, none⟩) n.b.length c) ∧ (w2.setCell ⟨g, 0, none⟩ (.int .i64 y1)).drew.cell? ⟨g, 1, none⟩ = some (.int .i64 y1)) := ⟨HN.out.node.cell 4, HK1.out⟩
      clear HD2 HCG hbb hl2
      generalize y1 :: y1 :: ys = B at *
      go_wp2
      refine wp_region_noPanic ?_
      refine wp_region_held_drew (S := fun W => W.cell? ⟨Q, 4, none⟩ = some (.slice (some ⟨g, 0, none⟩) n.b.length c) ∧ W.cell? ⟨g, 1, none⟩ = some (.int .i64 y1)) (by kernel_rfl) HSD.out (fun hS0 => ?_)
      clear hS0
      refine held_take (i := 0) (v := .pointer (some ⟨Q, 4, none⟩)) rfl rfl (by kernel_rfl) (by kernel_rfl) (by kernel_rfl) (by kernel_rfl) (fun W _ => by go_simp) HSD.out ?_
      simp only [Act.put, List.setIfInBounds_toArray, List.set_cons_zero, List.set_cons_succ]
      refine held_take (i := 1) (v := .slice (some ⟨g, 0, none⟩) n.b.length c) rfl rfl (by kernel_rfl) (by kernel_rfl) (by kernel_rfl) (by kernel_rfl) (fun W hW => by obtain ⟨hW0, hW1⟩ := hW; go_simp) HSD.out ?_
      simp only [Act.put, List.setIfInBounds_toArray, List.set_cons_zero, List.set_cons_succ]
      refine held_take (i := 2) (v := .pointer (some ⟨Q, 4, none⟩)) rfl rfl (by kernel_rfl) (by kernel_rfl) (by kernel_rfl) (by kernel_rfl) (fun W _ => by go_simp) HSD.out ?_
      simp only [Act.put, List.setIfInBounds_toArray, List.set_cons_zero, List.set_cons_succ]
      refine held_take (i := 3) (v := .slice (some ⟨g, 0, none⟩) n.b.length c) rfl rfl (by kernel_rfl) (by kernel_rfl) (by kernel_rfl) (by kernel_rfl) (fun W hW => by obtain ⟨hW0, hW1⟩ := hW; go_simp) HSD.out ?_
      simp only [Act.put, List.setIfInBounds_toArray, List.set_cons_zero, List.set_cons_succ]
      refine held_take (i := 4) (v := .pointer (some ⟨g, 1, none⟩)) rfl rfl (by kernel_rfl) (by kernel_rfl) (by kernel_rfl) (by kernel_rfl) (fun W _ => by go_simp) HSD.out ?_
      simp only [Act.put, List.setIfInBounds_toArray, List.set_cons_zero, List.set_cons_succ]
      refine held_take (i := 5) (v := .int .i64 y1) rfl rfl (by kernel_rfl) (by kernel_rfl) (by kernel_rfl) (by kernel_rfl) (fun W hW => by obtain ⟨hW0, hW1⟩ := hW; go_simp) HSD.out ?_
      simp only [Act.put, List.setIfInBounds_toArray, List.set_cons_zero, List.set_cons_succ]
      refine held_take (i := 6) (v := .pointer (some ⟨g, 0, none⟩)) rfl rfl (by kernel_rfl) (by kernel_rfl) (by kernel_rfl) (by kernel_rfl) (fun W _ => by go_simp) HSD.out ?_
      simp only [Act.put, List.setIfInBounds_toArray, List.set_cons_zero, List.set_cons_succ]
      refine wpAnyH_ready (rs := [7]) (by kernel_rfl) (by simp) (AllReadyH.cons rfl (fun K hK => ?_) AllReadyH.nil)
      go_simp
      refine hK.out _ _ HSN.out (fun hS1 => ?_)
      clear hK K hS1
      refine wpAnyH_done (by kernel_rfl) ?_ _
      simp only [NoPanic]
      have HN2 : Hid (DInv w P x cap l w.heap.size Q (w.heap.size + 1) #[.int .i64 n.k, .int .i64 n.g, .int .i64 n.t, .int .i64 n.s, .slice (some ⟨g, 0, none⟩) n.b.length c] (w2.setCell ⟨g, 0, none⟩ (.int .i64 y1)).drew (.slice (some ⟨g, 0, none⟩) n.b.length c) B) := HN.out
      clear HN HK1 HSD HSN c0 c1 f0 s4
      generalize (w2.setCell ⟨g, 0, none⟩ (.int .i64 y1)).drew = W6 at *
      rw [← HLE.out] at HN2 ⊢
      have z0 := HN2.out.node.cell 0
      have z1 := HN2.out.node.cell 1
      have z2 := HN2.out.node.cell 2
      have z3 := HN2.out.node.cell 3
      have z4 := HN2.out.node.cell 4
      simp only [List.getElem?_toArray, List.getElem?_cons_zero, List.getElem?_cons_succ] at z0 z1 z2 z3 z4
      obtain ⟨hR9, r0, r1, r2, r3, r4, q0, q1, q2, q3, q4⟩ := HN2.out.res.five (.int .i64 n.k) (.int .i64 n.g) (.int .i64 n.t) (.int .i64 n.s) (.slice (some ⟨g, 0, none⟩) B.length c)
      have HZ : Hid _ := DInv.done (n := ⟨n.k, n.g, n.t, n.s, B⟩) HN2.out
      have HLN : Hid (List.length (B) ≤ 6) := HLL
      clear hR9 HN2
      go_wp2
      refine bodyPost_ret (results_cell_row rfl _ _ w.heap.size 26 #[.int .i64 n.k, .int .i64 n.g, .int .i64 n.t, .int .i64 n.s, .slice (some ⟨g, 0, none⟩) B.length c] (0, 0) _ rfl HZ.out.1 Tryd.underlying26 rfl Tryd.sizeNode) rfl ?_
      first
        | exact ⟨_, rfl, _, HZ.out.2.1, HLN.out, HZ.out.2.2.1, HZ.out.2.2.2⟩
        | exact ⟨_, _, rfl, HZ.out.2.1, HLN.out, HZ.out.2.2.1, HZ.out.2.2.2⟩
    · have hb2 : ¬ (1 : Int) < (n.b.length : Int) := by omega
      clear s4
      have z0 := HD2.out.node.cell 0
      have z1 := HD2.out.node.cell 1
      have z2 := HD2.out.node.cell 2
      have z3 := HD2.out.node.cell 3
      have z4 := HD2.out.node.cell 4
      simp only [List.getElem?_toArray, List.getElem?_cons_zero, List.getElem?_cons_succ] at z0 z1 z2 z3 z4
      obtain ⟨hR9, r0, r1, r2, r3, r4, q0, q1, q2, q3, q4⟩ := HD2.out.res.five (.int .i64 n.k) (.int .i64 n.g) (.int .i64 n.t) (.int .i64 n.s) (.slice a n.b.length c)
      have HZ : Hid _ := DInv.done (n := ⟨n.k, n.g, n.t, n.s, n.b⟩) HD2.out
      have HLN : Hid (List.length (n.b) ≤ 6) := by show n.b.length ≤ 6; omega
      clear hR9 HD2
      go_wp2
      refine bodyPost_ret (results_cell_row rfl _ _ w.heap.size 26 #[.int .i64 n.k, .int .i64 n.g, .int .i64 n.t, .int .i64 n.s, .slice a n.b.length c] (0, 0) _ rfl HZ.out.1 Tryd.underlying26 rfl Tryd.sizeNode) rfl ?_
      first
        | exact ⟨_, rfl, _, HZ.out.2.1, HLN.out, HZ.out.2.2.1, HZ.out.2.2.2⟩
        | exact ⟨_, _, rfl, HZ.out.2.1, HLN.out, HZ.out.2.2.1, HZ.out.2.2.2⟩
  have e0 : ((r : Int) == 0) = false := by rw [beq_eq_false_iff_ne]; omega
  have e1 : ((r : Int) == 1) = false := by rw [beq_eq_false_iff_ne]; omega
  have e2 : ((r : Int) == 2) = false := by rw [beq_eq_false_iff_ne]; omega
  have e3 : ((r : Int) == 3) = false := by rw [beq_eq_false_iff_ne]; omega
  have e4 : ((r : Int) == 4) = false := by rw [beq_eq_false_iff_ne]; omega
  have e5 : ((r : Int) == 5) = false := by rw [beq_eq_false_iff_ne]; omega
  have z0 := HD2.out.node.cell 0
  have z1 := HD2.out.node.cell 1
  have z2 := HD2.out.node.cell 2
  have z3 := HD2.out.node.cell 3
  have z4 := HD2.out.node.cell 4
  simp at z0 z1 z2 z3 z4
  obtain ⟨hR9, r0, r1, r2, r3, r4, q0, q1, q2, q3, q4⟩ := HD2.out.res.five (.int .i64 n.k) (.int .i64 n.g) (.int .i64 n.t) (.int .i64 n.s) (.slice a n.b.length c)
  have HZ : Hid _ := DInv.done (n := ⟨n.k, n.g, n.t, n.s, n.b⟩) HD2.out
  have HLN : Hid (List.length (n.b) ≤ 6) := by show n.b.length ≤ 6; omega
  clear hR9 HD2
  go_wp2
  refine bodyPost_ret (results_cell_row rfl _ _ w.heap.size 26 #[.int .i64 n.k, .int .i64 n.g, .int .i64 n.t, .int .i64 n.s, .slice a n.b.length c] (0, 0) _ rfl HZ.out.1 Tryd.underlying26 rfl Tryd.sizeNode) rfl ?_
  first
      | exact ⟨_, rfl, _, HZ.out.2.1, HLN.out, HZ.out.2.2.1, HZ.out.2.2.2⟩
      | exact ⟨_, _, rfl, HZ.out.2.1, HLN.out, HZ.out.2.2.1, HZ.out.2.2.2⟩
end Go.Proofs.YtgndkdoefmjdhaaDoor
