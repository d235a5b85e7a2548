/-
  Own text: the laws' marks on branches: laid, and whether they are still there.
-/
import Derived.Test.YtioecnfgliponaaFsK
import Derived.Test.YtioecnfgliponaaFsX
namespace Go.Proofs.Ytioecnfgliponaa
open Go.RowKit

theorem mkL_at (k : Nat) (M : List NodeU) {j : Nat} (h : j < M.length) : (mkL k M)[j]? = some (mkU (k + cntU ((M.take j).map (·.1))) M[j].1, M[j].2) := by
  have e : M = M.take j ++ ([M[j]] ++ M.drop (j + 1)) := by
    rw [List.singleton_append, ← List.drop_eq_getElem_cons h, List.take_append_drop]
  have h2 : mkL k M = mkL k (M.take j) ++ (mkL (k + cntU ((M.take j).map (·.1))) [M[j]] ++ mkL (k + cntU ((M.take j).map (·.1)) + cntU ([M[j]].map (·.1))) (M.drop (j + 1))) := by
    conv => lhs; rw [e]
    rw [mkL_app, mkL_app]
  rw [h2, List.getElem?_append_right (by rw [mkL_len]; simp; omega), mkL_len, List.length_take, Nat.min_eq_left (by omega), Nat.sub_self, mkL_one]
  rfl
theorem cntU_take {M : List NodeU} {j : Nat} (h : j < M.length) : cntU ((M.take (j + 1)).map (·.1)) = cntU ((M.take j).map (·.1)) + (4 + M[j].1.b.length) := by
  rw [List.take_succ_eq_append_getElem h, List.map_append, cntU_app]
  simp [cntU]
theorem cntU_le_take (M : List NodeU) (j : Nat) : cntU ((M.take j).map (·.1)) ≤ cntU (M.map (·.1)) := by
  have h : M.map (·.1) = (M.take j).map (·.1) ++ (M.drop j).map (·.1) := by rw [← List.map_append, List.take_append_drop]
  rw [h, cntU_app]; omega
theorem cntU_len (l : List NodeD) : l.length ≤ cntU l := by
  induction l with
  | nil => simp [cntU]
  | cons n l ih => rw [cntU_cons]; simp only [List.length_cons]; omega
/-- The blocks of a row of nodes, those of their blocks' rows too. -/
def blkL (v : Value) (M : List NodeU) (j : Nat) : Prop := blk v j ∨ ∃ x ∈ M, blk x.2 j
theorem OwnL.blkL_in {w : World} {lo hi : Nat} {v : Value} {M : List NodeU} (h : OwnL w lo hi v M) {j : Nat} (hj : blkL v M j) : lo ≤ j ∧ j < hi := by
  rcases hj with hj | ⟨x, hx, hj⟩
  · exact ⟨(h.row.lt j hj).1, h.top j hj⟩
  · exact ⟨((h.inn x hx).lt j hj).1, h.low x hx j hj⟩
theorem OwnL.apart_txt {w : World} {lo hi lo' : Nat} {v u : Value} {M : List NodeU} {n : Nat} {xs : List Value} (h : OwnL w lo hi v M) (ho : w.ownsRow lo' 9 1 u n xs) : ∀ j, blk u j → ¬ blkL v M j := by
  rintro j hj (h1 | ⟨x, hx, h1⟩)
  · exact own_apart ho h.row (by decide) j hj h1
  · exact own_apart ho (h.inn x hx) (by decide) j hj h1
/-- Four cells of one node of a row are stored anew. -/
theorem OwnL.four {w : World} {lo hi : Nat} {g c : Nat} {M : List NodeU} (h : OwnL w lo hi (.slice (some ⟨g, 0, none⟩) M.length c) M) {i : Nat} (hi' : i < M.length) (x0 x1 x2 x3 : Int) :
    OwnL ((((w.setCell ⟨g, i * 5, none⟩ (.int .i64 x0)).setCell ⟨g, i * 5 + 1, none⟩ (.int .i64 x1)).setCell ⟨g, i * 5 + 2, none⟩ (.int .i64 x2)).setCell ⟨g, i * 5 + 3, none⟩ (.int .i64 x3)) lo hi (.slice (some ⟨g, 0, none⟩) M.length c) (M.set i (⟨x0, x1, x2, x3, M[i].1.b⟩, M[i].2)) := by
  have a0 := h.set hi' 0 (by omega) ⟨x0, M[i].1.g, M[i].1.t, M[i].1.s, M[i].1.b⟩ (.int .i64 x0) rfl rfl
  rw [Nat.add_zero] at a0
  have l0 : i < (M.set i ((⟨x0, M[i].1.g, M[i].1.t, M[i].1.s, M[i].1.b⟩ : NodeD), M[i].2)).length := by simpa using hi'
  have e0 : (M.set i ((⟨x0, M[i].1.g, M[i].1.t, M[i].1.s, M[i].1.b⟩ : NodeD), M[i].2))[i] = ((⟨x0, M[i].1.g, M[i].1.t, M[i].1.s, M[i].1.b⟩ : NodeD), M[i].2) := List.getElem_set_self _
  rw [show M.length = (M.set i ((⟨x0, M[i].1.g, M[i].1.t, M[i].1.s, M[i].1.b⟩ : NodeD), M[i].2)).length by simp] at a0
  have a1 := a0.set l0 1 (by omega) ⟨x0, x1, M[i].1.t, M[i].1.s, M[i].1.b⟩ (.int .i64 x1) (by rw [e0]) (by rw [e0]; rfl)
  rw [e0, List.set_set] at a1
  have l1 : i < (M.set i ((⟨x0, x1, M[i].1.t, M[i].1.s, M[i].1.b⟩ : NodeD), M[i].2)).length := by simpa using hi'
  have e1 : (M.set i ((⟨x0, x1, M[i].1.t, M[i].1.s, M[i].1.b⟩ : NodeD), M[i].2))[i] = ((⟨x0, x1, M[i].1.t, M[i].1.s, M[i].1.b⟩ : NodeD), M[i].2) := List.getElem_set_self _
  rw [show (M.set i ((⟨x0, M[i].1.g, M[i].1.t, M[i].1.s, M[i].1.b⟩ : NodeD), M[i].2)).length = (M.set i ((⟨x0, x1, M[i].1.t, M[i].1.s, M[i].1.b⟩ : NodeD), M[i].2)).length by simp] at a1
  have a2 := a1.set l1 2 (by omega) ⟨x0, x1, x2, M[i].1.s, M[i].1.b⟩ (.int .i64 x2) (by rw [e1]) (by rw [e1]; rfl)
  rw [e1, List.set_set] at a2
  have l2 : i < (M.set i ((⟨x0, x1, x2, M[i].1.s, M[i].1.b⟩ : NodeD), M[i].2)).length := by simpa using hi'
  have e2 : (M.set i ((⟨x0, x1, x2, M[i].1.s, M[i].1.b⟩ : NodeD), M[i].2))[i] = ((⟨x0, x1, x2, M[i].1.s, M[i].1.b⟩ : NodeD), M[i].2) := List.getElem_set_self _
  rw [show (M.set i ((⟨x0, x1, M[i].1.t, M[i].1.s, M[i].1.b⟩ : NodeD), M[i].2)).length = (M.set i ((⟨x0, x1, x2, M[i].1.s, M[i].1.b⟩ : NodeD), M[i].2)).length by simp] at a2
  have a3 := a2.set l2 3 (by omega) ⟨x0, x1, x2, x3, M[i].1.b⟩ (.int .i64 x3) (by rw [e2]) (by rw [e2]; rfl)
  rw [e2, List.set_set] at a3
  rw [show (M.set i ((⟨x0, x1, x2, M[i].1.s, M[i].1.b⟩ : NodeD), M[i].2)).length = M.length by simp] at a3
  exact a3
theorem OwnL.only_in {w w' : World} {lo hi : Nat} {v : Value} {M : List NodeU} {S : Nat → Prop} (_ : OwnL w lo hi v M) (ho : Only S w w') (hs : ∀ k, S k → lo ≤ k ∧ k < hi) : Only (fun k => lo ≤ k ∧ k < hi) w w' := ho.mono fun k _ h => hs k h

set_option maxRecDepth 20000 in
set_option maxHeartbeats 4000000 in
theorem markNodes (v : Value) (lo hi k : Nat) (M : List NodeU) (w : World) (hn : cntU (M.map (·.1)) ≤ 1073741824) (hk : k ≤ 1073741824) (ho : OwnL w lo hi v M) :
    Calls Try.prog 37 #[v, .int .i64 k] w fun e w' => e = .returned (.int .i64 ((k + cntU (M.map (·.1)) : Nat) : Int)) ∧ OwnL w' lo hi v (mkL k M) ∧ Only (blkL v M) w w' := by
  rcases ho.row.2 with ⟨rfl, h0⟩ | ⟨g, cap, cur, rfl, hbg, hrest⟩
  · obtain rfl : M = [] := List.eq_nil_of_length_eq_zero h0
    have HO : Hid (OwnL w lo hi (.slice none 0 0) (mkL k [])) := ho
    go_enter Try.func37, Try.ntmps37
    go_wp2
    go_loop [1, 5] (fun x i => x = .int .i64 k ∧ i = .int .i64 0) (fun _ _ => 0)
    case atStart => exact ⟨rfl, rfl⟩
    case round =>
      obtain ⟨rfl, rfl⟩ := hrel
      go_wp2
      go_ret
      exact ⟨by simp [cntU], HO.out, Only.refl _ _⟩
  · clear hrest
    have HC : Hid (∀ j, cntU ((M.take j).map (·.1)) ≤ cntU (M.map (·.1))) := fun j => cntU_le_take M j
    have hgi : blkL (.slice (some ⟨g, 0, none⟩) M.length cap) M g := .inl rfl
    have HO0 : Hid (OwnL w lo hi (.slice (some ⟨g, 0, none⟩) M.length cap) (mkTo k M 0)) := by show OwnL _ _ _ _ _; rw [mkTo_zero]; exact ho
    have hml : M.length ≤ cntU (M.map (·.1)) := by have := cntU_len (M.map (·.1)); simpa using this
    clear ho
    go_enter Try.func37, Try.ntmps37
    go_wp2
    go_loopw [1, 5] (fun x i wr => ∃ j c t : Nat, j ≤ M.length ∧ Hid (cntU ((M.take j).map (·.1)) = c) ∧ Hid (k + c = t) ∧ x = .int .i64 (t : Nat) ∧ i = .int .i64 (j : Nat) ∧ Hid (OwnL wr lo hi (.slice (some ⟨g, 0, none⟩) M.length cap) (mkTo k M j)) ∧ Hid (Only (blkL (.slice (some ⟨g, 0, none⟩) M.length cap) M) w wr)) (fun _ i _ => M.length - (intOf i).toNat)
    case atStart => exact ⟨0, 0, k, Nat.zero_le _, rfl, rfl, rfl, rfl, HO0, Only.refl _ _⟩
    case round =>
      clear HO0
      obtain ⟨j, c, t, hj, HCJ, HT, rfl, rfl, HO, HON⟩ := hrel
      have hcl : c ≤ cntU (M.map (·.1)) := by rw [← HCJ.out]; exact HC.out j
      by_cases hlt : j < M.length
      · have hlen := mkTo_len k M hj
        have hat := mkTo_at k M hlt
        have hjl : j < (mkTo k M j).length := by omega
        have hget : (mkTo k M j)[j] = M[j] := by rw [List.getElem?_eq_getElem hjl] at hat; injection hat
        have hOw := HO.out
        rw [← hlen] at hOw
        have hcs := uCells hjl
        rw [hget] at hcs
        obtain ⟨e0, e1, e2, e3, e4⟩ := hcs
        have x0 := (hOw.row.cellAt (j * 5) (by omega)).trans e0
        have x1 := (hOw.row.cellAt (j * 5 + 1) (by omega)).trans e1
        have x2 := (hOw.row.cellAt (j * 5 + 2) (by omega)).trans e2
        have x3 := (hOw.row.cellAt (j * 5 + 3) (by omega)).trans e3
        have x4 := (hOw.row.cellAt (j * 5 + 4) (by omega)).trans e4
        have f0 := hOw.row.frozenAt (j * 5)
        have f1 := hOw.row.frozenAt (j * 5 + 1)
        have f2 := hOw.row.frozenAt (j * 5 + 2)
        have f3 := hOw.row.frozenAt (j * 5 + 3)
        have HO4 := hOw.four hjl
        have HN4 : Hid (∀ a0 a1 a2 a3 : Value, Only (blkL (.slice (some ⟨g, 0, none⟩) M.length cap) M) w ((((wr.setCell ⟨g, j * 5, none⟩ a0).setCell ⟨g, j * 5 + 1, none⟩ a1).setCell ⟨g, j * 5 + 2, none⟩ a2).setCell ⟨g, j * 5 + 3, none⟩ a3)) := fun _ _ _ _ => (((HON.out.setCell (p := ⟨g, j * 5, none⟩) hgi _).setCell (p := ⟨g, j * 5 + 1, none⟩) hgi _).setCell (p := ⟨g, j * 5 + 2, none⟩) hgi _).setCell (p := ⟨g, j * 5 + 3, none⟩) hgi _
        rw [hget] at HO4
        have HO5 : Hid (∀ y0 y1 y2 y3 : Int, OwnL ((((wr.setCell ⟨g, j * 5, none⟩ (.int .i64 y0)).setCell ⟨g, j * 5 + 1, none⟩ (.int .i64 y1)).setCell ⟨g, j * 5 + 2, none⟩ (.int .i64 y2)).setCell ⟨g, j * 5 + 3, none⟩ (.int .i64 y3)) lo hi (.slice (some ⟨g, 0, none⟩) (mkTo k M j).length cap) ((mkTo k M j).set j (⟨y0, y1, y2, y3, M[j].1.b⟩, M[j].2))) := HO4
        have HNX : Hid ((mkTo k M j).set j (mkU t M[j].1, M[j].2) = mkTo k M (j + 1)) := by have := mkTo_next k M hlt; rw [HCJ.out, HT.out] at this; exact this
        have HCN : Hid (cntU ((M.take (j + 1)).map (·.1)) = c + (4 + M[j].1.b.length)) := by show _ = _; rw [cntU_take hlt, HCJ.out]
        have hcl2 : c + (4 + M[j].1.b.length) ≤ cntU (M.map (·.1)) := by rw [← HCN.out]; exact HC.out (j + 1)
        have HMB : Hid (∀ q, blk M[j].2 q → blkL (.slice (some ⟨g, 0, none⟩) M.length cap) M q) := fun q hq => .inr ⟨_, List.getElem_mem hlt, hq⟩
        obtain ⟨ua, uc, hu2, _⟩ : ∃ ua uc, M[j].2 = .slice ua M[j].1.b.length uc ∧ True := by
          obtain ⟨ua, uc, h1, _⟩ := RdU.own (hOw.inn (M[j]) (by rw [← hget]; exact List.getElem_mem hjl))
          exact ⟨ua, uc, h1, trivial⟩
        have hti : t ≤ 2147483648 := by rw [← HT.out]; omega
        clear e0 e1 e2 e3 e4 HO hOw hat HO4 hget HON
        generalize M[j] = y at *
        obtain ⟨⟨yk, yg, yt, ys, yb⟩, yu⟩ := y
        simp only at hu2 hcl2
        subst hu2
        simp only at x0 x1 x2 x3 x4
        have hO5 := HO5.out (t : Int) ((t : Int) + 1) ((t : Int) + 1 + 1) ((t : Int) + 1 + 1 + 1)
        have hN5 := HN4.out (.int .i64 (t : Int)) (.int .i64 ((t : Int) + 1)) (.int .i64 ((t : Int) + 1 + 1)) (.int .i64 ((t : Int) + 1 + 1 + 1))
        have hset := HNX.out
        have ek : mkU t ⟨yk, yg, yt, ys, yb⟩ = ⟨(t : Int), (t : Int) + 1, (t : Int) + 1 + 1, (t : Int) + 1 + 1 + 1, marksI (t + 4) yb.length⟩ := by
          unfold mkU
          apply NodeD.ext'
          · rfl
          · show ((t + 1 : Nat) : Int) = (t : Int) + 1; omega
          · show ((t + 2 : Nat) : Int) = (t : Int) + 1 + 1; omega
          · show ((t + 3 : Nat) : Int) = (t : Int) + 1 + 1 + 1; omega
          · rfl
        simp only at hO5 hset
        rw [ek] at hset
        have HSET : Hid ((mkTo k M j).set j ((⟨(t : Int), (t : Int) + 1, (t : Int) + 1 + 1, (t : Int) + 1 + 1 + 1, marksI (t + 4) yb.length⟩ : NodeD), .slice ua yb.length uc) = mkTo k M (j + 1)) := hset
        have HCN2 : Hid (cntU ((M.take (j + 1)).map (·.1)) = c + (4 + yb.length)) := HCN.out
        have HO6 : Hid (OwnL ((((wr.setCell ⟨g, j * 5, none⟩ (.int .i64 (t : Int))).setCell ⟨g, j * 5 + 1, none⟩ (.int .i64 ((t : Int) + 1))).setCell ⟨g, j * 5 + 2, none⟩ (.int .i64 ((t : Int) + 1 + 1))).setCell ⟨g, j * 5 + 3, none⟩ (.int .i64 ((t : Int) + 1 + 1 + 1))) lo hi (.slice (some ⟨g, 0, none⟩) (mkTo k M j).length cap) ((mkTo k M j).set j ((⟨(t : Int), (t : Int) + 1, (t : Int) + 1 + 1, (t : Int) + 1 + 1 + 1, yb⟩ : NodeD), .slice ua yb.length uc))) := hO5
        have HN6 : Hid (Only (blkL (.slice (some ⟨g, 0, none⟩) M.length cap) M) w ((((wr.setCell ⟨g, j * 5, none⟩ (.int .i64 (t : Int))).setCell ⟨g, j * 5 + 1, none⟩ (.int .i64 ((t : Int) + 1))).setCell ⟨g, j * 5 + 2, none⟩ (.int .i64 ((t : Int) + 1 + 1))).setCell ⟨g, j * 5 + 3, none⟩ (.int .i64 ((t : Int) + 1 + 1 + 1)))) := hN5
        clear hO5 hN5 hset ek HO5 HN4 HNX HCN
        go_wp2_with fail
        clear x0 x1 x2 x3 x4 f0 f1 f2 f3
        generalize (((wr.setCell ⟨g, j * 5, none⟩ (.int .i64 (t : Int))).setCell ⟨g, j * 5 + 1, none⟩ (.int .i64 ((t : Int) + 1))).setCell ⟨g, j * 5 + 2, none⟩ (.int .i64 ((t : Int) + 1 + 1))).setCell ⟨g, j * 5 + 3, none⟩ (.int .i64 ((t : Int) + 1 + 1 + 1)) = W4 at *
        have hjs : j < ((mkTo k M j).set j ((⟨(t : Int), (t : Int) + 1, (t : Int) + 1 + 1, (t : Int) + 1 + 1 + 1, yb⟩ : NodeD), Value.slice ua yb.length uc)).length := by simpa using hjl
        have hgs : ((mkTo k M j).set j ((⟨(t : Int), (t : Int) + 1, (t : Int) + 1 + 1, (t : Int) + 1 + 1 + 1, yb⟩ : NodeD), Value.slice ua yb.length uc))[j] = ((⟨(t : Int), (t : Int) + 1, (t : Int) + 1 + 1, (t : Int) + 1 + 1 + 1, yb⟩ : NodeD), Value.slice ua yb.length uc) := List.getElem_set_self _
        have hin := HO6.out.inn _ (List.getElem_mem hjs)
        rw [hgs] at hin
        have HMI := markI (.slice ua yb.length uc) yb.length (t + 4) lo yb W4 (by omega) (by omega) hin
        rw [show (((t + 4 : Nat)) : Int) = (t : Int) + 1 + 1 + 1 + 1 by omega] at HMI
        have HMI2 : Hid (Calls Try.prog 61 #[.slice ua yb.length uc, .int .i64 ((t : Int) + 1 + 1 + 1 + 1)] W4 fun e w' => e = .returned (.int .i64 ((t + 4 + yb.length : Nat) : Int)) ∧ w'.ownsRow lo 3 1 (.slice ua yb.length uc) yb.length ((marksI (t + 4) yb.length).map (Value.int .i64)) ∧ W4.grownBy w' (Value.slice ua yb.length uc).ownBlock) := HMI
        have HLOW : Hid (∀ q, blk (.slice ua yb.length uc) q → blkL (.slice (some ⟨g, 0, none⟩) M.length cap) M q) := HMB.out
        have HIN : Hid (∀ W', W'.ownsRow lo 3 1 (.slice ua yb.length uc) yb.length ((marksI (t + 4) yb.length).map (Value.int .i64)) → W4.grownBy W' (Value.slice ua yb.length uc).ownBlock → OwnL W' lo hi (.slice (some ⟨g, 0, none⟩) M.length cap) (mkTo k M (j + 1))) := by
          intro W' h1 h2
          have := HO6.out.inner hjs (⟨(t : Int), (t : Int) + 1, (t : Int) + 1 + 1, (t : Int) + 1 + 1 + 1, marksI (t + 4) yb.length⟩ : NodeD) (by rw [hgs]; rfl) (by rw [hgs]; show World.ownsRow _ _ _ _ _ (marksI _ _).length _; rw [marksI_len]; exact h1) (by rw [hgs]; exact h2)
          rw [hgs, List.set_set, HSET.out, hlen] at this
          exact this
        clear HMI hin hgs hjs
        refine HMI2.out.mono ?_
        rintro e w5 ⟨rfl, ho5, hg5⟩
        have HO7 : Hid (OwnL w5 lo hi (.slice (some ⟨g, 0, none⟩) M.length cap) (mkTo k M (j + 1))) := HIN.out w5 ho5 hg5
        have HN7 : Hid (Only (blkL (.slice (some ⟨g, 0, none⟩) M.length cap) M) w w5) := HN6.out.trans ((Only.of_grown hg5).mono fun q _ hq => HLOW.out q hq)
        have HT7 : Hid (k + (c + (4 + yb.length)) = t + 4 + yb.length) := by have := HT.out; show _ = _; omega
        clear HMI2 HIN HLOW ho5 hg5 HO6 HN6 HSET hjl hlen
        go_wp2
        go_roundw
        case rel => exact ⟨j + 1, c + (4 + yb.length), t + 4 + yb.length, by omega, HCN2, HT7, rfl, by go_num, HO7, HN7⟩
        case measure => simp [intOf]; omega
      · obtain rfl : j = M.length := by omega
        have HOE : Hid (OwnL wr lo hi (.slice (some ⟨g, 0, none⟩) M.length cap) (mkL k M)) := by have := HO.out; rwa [mkTo_all] at this
        have HTE : Hid (k + cntU (M.map (·.1)) = t) := by have h1 := HCJ.out; rw [List.take_length] at h1; have h2 := HT.out; show _ = _; rw [h1]; exact h2
        go_wp2
        go_ret
        exact ⟨by rw [HTE.out]; rfl, HOE.out, HON.out⟩

set_option maxRecDepth 20000 in
set_option maxHeartbeats 4000000 in
theorem heldNodes (v : Value) (lo hi k : Nat) (M : List NodeU) (w : World) (hn : cntU (M.map (·.1)) ≤ 1073741824) (hk : k ≤ 1073741824) (ho : OwnL w lo hi v (mkL k M)) :
    Calls Try.prog 39 #[v, .int .i64 k] w fun e w' => e = .returned (.int .i64 ((k + cntU (M.map (·.1)) : Nat) : Int)) ∧ w' = w := by
  have hml := mkL_len k M
  rcases ho.row.2 with ⟨rfl, h0⟩ | ⟨g, cap, cur, rfl, hbg, hrest⟩
  · obtain rfl : M = [] := List.eq_nil_of_length_eq_zero (by omega)
    go_enter Try.func39, Try.ntmps39
    go_wp2
    go_loop [1, 5] (fun x i => x = .int .i64 k ∧ i = .int .i64 0) (fun _ _ => 0)
    case atStart => exact ⟨rfl, rfl⟩
    case round =>
      obtain ⟨rfl, rfl⟩ := hrel
      go_wp2
      go_ret
      exact ⟨by simp [cntU], rfl⟩
  · clear hrest
    have HC : Hid (∀ j, cntU ((M.take j).map (·.1)) ≤ cntU (M.map (·.1))) := fun j => cntU_le_take M j
    have HO : Hid (OwnL w lo hi (.slice (some ⟨g, 0, none⟩) (mkL k M).length cap) (mkL k M)) := ho
    have hmc : M.length ≤ cntU (M.map (·.1)) := by have := cntU_len (M.map (·.1)); simpa using this
    clear ho
    rw [hml]
    go_enter Try.func39, Try.ntmps39
    go_wp2
    go_loop [1, 5] (fun x i => ∃ j c t : Nat, j ≤ M.length ∧ Hid (cntU ((M.take j).map (·.1)) = c) ∧ Hid (k + c = t) ∧ x = .int .i64 (t : Nat) ∧ i = .int .i64 (j : Nat)) (fun _ i => M.length - (intOf i).toNat)
    case atStart => exact ⟨0, 0, k, Nat.zero_le _, rfl, rfl, rfl, rfl⟩
    case round =>
      obtain ⟨j, c, t, hj, HCJ, HT, rfl, rfl⟩ := hrel
      have hcl : c ≤ cntU (M.map (·.1)) := by rw [← HCJ.out]; exact HC.out j
      by_cases hlt : j < M.length
      · have hjl : j < (mkL k M).length := by omega
        have hat := mkL_at k M hlt
        rw [HCJ.out, HT.out] at hat
        have hget : (mkL k M)[j] = (mkU t M[j].1, M[j].2) := by rw [List.getElem?_eq_getElem hjl] at hat; injection hat
        have hcs := uCells hjl
        rw [hget] at hcs
        obtain ⟨e0, e1, e2, e3, e4⟩ := hcs
        have x0 := (HO.out.row.cellAt (j * 5) (by omega)).trans e0
        have x1 := (HO.out.row.cellAt (j * 5 + 1) (by omega)).trans e1
        have x2 := (HO.out.row.cellAt (j * 5 + 2) (by omega)).trans e2
        have x3 := (HO.out.row.cellAt (j * 5 + 3) (by omega)).trans e3
        have x4 := (HO.out.row.cellAt (j * 5 + 4) (by omega)).trans e4
        have hin := HO.out.inn _ (List.getElem_mem hjl)
        rw [hget] at hin
        have HCN : Hid (cntU ((M.take (j + 1)).map (·.1)) = c + (4 + M[j].1.b.length)) := by show _ = _; rw [cntU_take hlt, HCJ.out]
        have hcl2 : c + (4 + M[j].1.b.length) ≤ cntU (M.map (·.1)) := by rw [← HCN.out]; exact HC.out (j + 1)
        have hti : t ≤ 2147483648 := by rw [← HT.out]; omega
        have HHI := heldI M[j].2 M[j].1.b.length (t + 4) lo w (by omega) (by omega) (by
          have h9 : (mkU t M[j].1).b.length = M[j].1.b.length := marksI_len _ _
          have h8 := hin
          simp only at h8
          rw [h9] at h8
          exact h8)
        rw [show (((t + 4 : Nat)) : Int) = (t : Int) + 1 + 1 + 1 + 1 by omega] at HHI
        have HHI2 : Hid (Calls Try.prog 63 #[M[j].2, .int .i64 ((t : Int) + 1 + 1 + 1 + 1)] w fun e w' => e = .returned (.int .i64 ((t + 4 + M[j].1.b.length : Nat) : Int)) ∧ w' = w) := HHI
        have HT7 : Hid (k + (c + (4 + M[j].1.b.length)) = t + 4 + M[j].1.b.length) := by have := HT.out; show _ = _; omega
        simp only [mkU] at x0 x1 x2 x3 x4
        rw [show ((t + 1 : Nat) : Int) = (t : Int) + 1 by omega] at x1
        rw [show ((t + 2 : Nat) : Int) = (t : Int) + 1 + 1 by omega] at x2
        rw [show ((t + 3 : Nat) : Int) = (t : Int) + 1 + 1 + 1 by omega] at x3
        clear e0 e1 e2 e3 e4 hat hget hin HHI
        obtain ⟨m, hm⟩ : ∃ x, M[j].1.b.length = x := ⟨_, rfl⟩
        rw [hm] at HHI2 HT7 HCN hcl2
        clear hm
        generalize M[j].2 = yu at *
        have hnn : ¬ ((t + 4 + m : Nat) : Int) < 0 := by omega
        go_wp2_with fail
        refine HHI2.out.mono ?_
        rintro e w5 ⟨rfl, hw5⟩
        subst w5
        go_wp2
        go_round
        case rel => exact ⟨j + 1, c + (4 + m), t + 4 + m, by omega, HCN, HT7, rfl, by go_num⟩
        case measure => simp [intOf]; omega
      · obtain rfl : j = M.length := by omega
        have HTE : Hid ((k : Int) + ((cntU (M.map (·.1)) : Nat) : Int) = (t : Int)) := by have h1 := HCJ.out; rw [List.take_length] at h1; have h2 := HT.out; show _ = _; rw [h1]; omega
        go_wp2
        go_ret
        exact ⟨by rw [HTE.out]; rfl, rfl⟩

/-- A branch, all of it marked from k on, and how many marks. -/
def mkF (k : Nat) (F : FsD) : FsD := ⟨mkNs k F.ns, marksS (k + cntU F.ns) F.ds.length⟩
def cntF (F : FsD) : Nat := cntU F.ns + F.ds.length

theorem cntF_le {F : FsD} (h : szF F ≤ 1048576) : cntF F ≤ 8388608 := by
  have h1 := cntU_le F.ns
  have h2 := szT_len F.ds
  unfold szF at h
  unfold cntF
  omega
theorem mkF_len (k : Nat) (F : FsD) : (mkF k F).ns.length = F.ns.length ∧ (mkF k F).ds.length = F.ds.length := ⟨mkNs_len _ _, marksS_len _ _⟩

set_option maxRecDepth 20000 in
set_option maxHeartbeats 1000000 in
theorem markFsW (v : Value) (lo hi k : Nat) (F : FsD) (w : World) (hl : szF F ≤ 4194304) (hk : k ≤ 67108864) (hhw : hi ≤ w.heap.size) (ho : OwnFs w lo hi v F) :
    Calls Try.prog 14 #[v, .int .i64 k] w fun e w' => e = .returned (.int .i64 ((k + cntF F : Nat) : Int)) ∧ OwnFs w' lo hi v (mkF k F) ∧ Only (fun j => lo ≤ j ∧ j < hi) w w' := by
  obtain ⟨v1, v2, rfl, ⟨M, hM, ho1⟩, ho2, hh2⟩ := ho
  have hcn := cntU_le F.ns
  have hds := szT_len F.ds
  have hz : szF F = szN F.ns + szT F.ds := rfl
  obtain ⟨a, ca, rfl, _, _, _, _⟩ := ho1.rd
  obtain ⟨b, cb, rfl, _, _⟩ := own_rdS ho2
  have HAP : Hid (∀ j, blk (.slice b F.ds.length cb) j → ¬ blkL (.slice a M.length ca) M j) := ho1.apart_txt ho2
  have HH2 : Hid (∀ j, blk (.slice b F.ds.length cb) j → lo ≤ j ∧ j < hi) := fun j hj => ⟨(ho2.lt j hj).1, hh2 j hj⟩
  have HO1 : Hid (OwnL w lo hi (.slice a M.length ca) M) := ho1
  have HO2 : Hid (w.ownsRow lo 9 1 (.slice b F.ds.length cb) F.ds.length (F.ds.map Value.string)) := ho2
  have HCN : Hid (k + cntF F = k + cntU F.ns + F.ds.length) := by show _ = _; unfold cntF; omega
  have HFN : Hid (F.ns = M.map (·.1)) := hM.symm
  have hcu : cntU (M.map (·.1)) ≤ 16777216 := by rw [hM]; omega
  have hdl : F.ds.length ≤ 4194304 := by omega
  have HCM : Hid (cntU F.ns = cntU (M.map (·.1))) := by show _ = _; rw [hM]
  have hVX : Var (w.alloc (.cells #[.slice a M.length ca, .slice b F.ds.length cb] 31)) w.heap.size #[.slice a M.length ca, .slice b F.ds.length cb] 31 := Var.made _ _ _
  clear ho1 ho2 hh2 hM hcn hds hz hl
  go_enter Try.func14, Try.ntmps14
  go_wp2_with fail
  refine (markNodes _ lo hi k M _ (by omega) (by omega) (HO1.out.below (below1 _ _))).mono ?_
  rintro e w1 ⟨rfl, hm1, hon1⟩
  have hX1 := hVX.only hon1 (fun h => by have := (HO1.out.blkL_in h).2; omega)
  have x1 := hX1.cell 1
  simp at x1
  have hp1 := own_only (ownsRow_below HO2.out (below1 w (.cells #[.slice a M.length ca, .slice b F.ds.length cb] 31)) (Nat.le_refl _)) hon1 (fun j hj => HAP.out j hj)
  have HM1 : Hid (OwnL w1 lo hi (.slice a M.length ca) (mkL k M)) := hm1
  have HP1 : Hid (w1.ownsRow lo 9 1 (.slice b F.ds.length cb) F.ds.length (F.ds.map Value.string)) := hp1
  have hon01 : Only (fun j => lo ≤ j ∧ j < hi) w w1 := (Only.of_new (below1 w _)).trans (hon1.mono fun j _ hj => HO1.out.blkL_in hj)
  clear hm1 hp1 hon1 hX1 hVX
  generalize hcc : cntU (M.map (·.1)) = cc at *
  go_wp2_with fail
  refine (markStrO _ F.ds.length (k + cc) lo F.ds _ (by omega) (by omega) HP1.out).mono ?_
  rintro e w2 ⟨rfl, hm2, hon2⟩
  have HM2 : Hid (w2.ownsRow lo 9 1 (.slice b F.ds.length cb) F.ds.length ((marksS (k + cc) F.ds.length).map Value.string)) := hm2
  have HM3 : Hid (OwnL w2 lo hi (.slice a M.length ca) (mkL k M)) := by
    have h := HM1.out
    exact ⟨own_only h.row hon2 (fun j hj e => h.apart_txt HP1.out j e (.inl hj)), fun x hx => own_only (h.inn x hx) hon2 (fun j hj e => h.apart_txt HP1.out j e (.inr ⟨x, hx, hj⟩)), h.apart, h.top, h.low⟩
  have hon02 : Only (fun j => lo ≤ j ∧ j < hi) w w2 := hon01.trans (hon2.mono fun j _ hj => HH2.out j hj)
  clear hm2 hon2
  go_wp2
  go_ret
  refine ⟨by rw [HCN.out, HCM.out]; rfl, ⟨_, _, rfl, ⟨mkL k M, ?_, ?_⟩, ?_, fun j hj => (HH2.out j hj).2⟩, hon02⟩
  · rw [mkL_fst, ← HFN.out]; rfl
  · exact HM3.out
  · rw [(mkF_len k F).2]
    show World.ownsRow _ _ _ _ _ _ ((marksS (k + cntU F.ns) F.ds.length).map Value.string)
    rw [HCM.out]
    exact HM2.out

theorem unmark {M' : List NodeU} {k : Nat} {l : List NodeD} (h : M'.map (·.1) = mkNs k l) : ∃ M : List NodeU, M.map (·.1) = l ∧ mkL k M = M' := by
  have hlm : M'.length = l.length := by have := congrArg List.length h; simpa [mkNs_len] using this
  have e1 : (l.zip (M'.map (·.2))).map (·.1) = l := List.map_fst_zip (by simp [hlm])
  have e2 : (l.zip (M'.map (·.2))).map (·.2) = M'.map (·.2) := List.map_snd_zip (by simp [hlm])
  refine ⟨l.zip (M'.map (·.2)), e1, ?_⟩
  unfold mkL
  rw [e1, e2, ← h]
  exact (List.zip_of_prod rfl rfl).symm

set_option maxRecDepth 20000 in
set_option maxHeartbeats 1000000 in
theorem heldFsW (v : Value) (lo hi k : Nat) (F : FsD) (w : World) (hl : szF F ≤ 4194304) (hk : k ≤ 67108864) (ho : OwnFs w lo hi v (mkF k F)) :
    Calls Try.prog 15 #[v, .int .i64 k] w fun e w' => e = .returned (.int .i64 ((k + cntF F : Nat) : Int)) ∧ Below w.heap.size w w' := by
  obtain ⟨v1, v2, rfl, ⟨M', hM, ho1⟩, ho2, _⟩ := ho
  have hlm : M'.length = F.ns.length := by have := congrArg List.length hM; simpa [mkF, mkNs_len] using this
  obtain ⟨M, hMf, hMM⟩ := unmark (M' := M') (k := k) (l := F.ns) hM
  subst hMM
  have hcn := cntU_le F.ns
  have hds := szT_len F.ds
  have hz : szF F = szN F.ns + szT F.ds := rfl
  obtain ⟨a, ca, rfl, _, _, _, _⟩ := ho1.rd
  rw [(mkF_len k F).2] at ho2
  obtain ⟨b, cb, hv2, hleq, hr2⟩ := own_rdS ho2
  clear hleq
  have hl2 : (mkF k F).ds.length = F.ds.length := (mkF_len k F).2
  rw [hl2] at hv2
  subst hv2
  have HO1 : Hid (OwnL w lo hi (.slice a (mkL k M).length ca) (mkL k M)) := ho1
  have HR2 : Hid (RdS w b (marksS (k + cntU (M.map (·.1))) F.ds.length)) := by rw [hMf]; exact hr2
  have HCN : Hid (k + cntF F = k + cntU (M.map (·.1)) + F.ds.length) := by show _ = _; unfold cntF; rw [hMf]; omega
  have hcu : cntU (M.map (·.1)) ≤ 16777216 := by rw [hMf]; omega
  have hdl : F.ds.length ≤ 4194304 := by omega
  have hml := mkL_len k M
  have HML : Hid ((mkL k M).length = M.length) := hml
  clear ho1 ho2 hr2 hM hcn hds hz hl hlm hl2 hml
  have hVX : Var (w.alloc (.cells #[.slice a (mkL k M).length ca, .slice b F.ds.length cb] 31)) w.heap.size #[.slice a (mkL k M).length ca, .slice b F.ds.length cb] 31 := Var.made _ _ _
  have hb01 : Below w.heap.size w (w.alloc (.cells #[.slice a (mkL k M).length ca, .slice b F.ds.length cb] 31)) := below1 _ _
  have HHN : Hid (Calls Try.prog 39 #[.slice a (mkL k M).length ca, .int .i64 k] (w.alloc (.cells #[.slice a (mkL k M).length ca, .slice b F.ds.length cb] 31)) fun e w' => e = .returned (.int .i64 ((k + cntU (M.map (·.1)) : Nat) : Int)) ∧ w' = (w.alloc (.cells #[.slice a (mkL k M).length ca, .slice b F.ds.length cb] 31))) := heldNodes _ lo hi k M _ (by omega) (by omega) (HO1.out.below (below1 _ _))
  generalize (mkL k M).length = ml at *
  generalize cntU (M.map (·.1)) = cc at *
  have hnn : ¬ ((k + cc : Nat) : Int) < 0 := by omega
  have hnn2 : ¬ ((k + cc + F.ds.length : Nat) : Int) < 0 := by omega
  clear HO1 HML
  go_enter Try.func15, Try.ntmps15
  go_wp2_with fail
  refine HHN.out.mono ?_
  rintro e w1 ⟨rfl, hw1⟩
  subst w1
  clear HHN
  generalize w.alloc (.cells #[.slice a ml ca, .slice b F.ds.length cb] 31) = W1 at *
  have x1 := hVX.cell 1
  simp at x1
  go_wp2_with fail
  refine (heldStrs _ _ F.ds.length (k + cc) _ (by omega) (by omega) (HR2.out.below hb01 (Nat.le_refl _))).mono ?_
  rintro e w2 ⟨rfl, hb2⟩
  have hb02 := hb01.trans (hb2.mono hb01.size)
  go_wp2
  go_ret
  exact ⟨by rw [HCN.out]; rfl, hb02⟩
end Go.Proofs.Ytioecnfgliponaa
