/-
  Own texts, several together.
-/
import Derived.Test.YtioecnfgliponaaBunH
/-
  Own text: a node is dropped, by the other program.
-/
namespace Go.Proofs.Ytioecnfgliponaa
open Go.RowKit

set_option maxRecDepth 20000 in
set_option maxHeartbeats 4000000 in
theorem specNodeDrop (v : Value) (F : FsD) (i : Int) (w : World) (hsm : SmF F) (hr : RdFs w v F) :
    Calls Try.prog 18 #[v, .int .i64 i] w fun e w' => ∃ u, e = .returned (.tuple #[u, .bool (dpOk F i)]) ∧ OwnFs w' w.heap.size w'.heap.size u (dpD F i) ∧ Below w.heap.size w w' := by
  obtain ⟨a, ca, b, cb, rfl, hq, r1, r2⟩ := hr
  have HRF : Hid (∀ W, Below w.heap.size w W → RdFs W (.agg #[.slice a F.ns.length ca, .slice b F.ds.length cb]) F) := fun W h => RdFs.below ⟨a, ca, b, cb, rfl, hq, r1, r2⟩ h (Nat.le_refl _)
  have HCP : Hid (Calls Try.prog 30 #[.agg #[.slice a F.ns.length ca, .slice b F.ds.length cb]] ((w.alloc (.cells #[.slice a F.ns.length ca, .slice b F.ds.length cb] 31)).alloc (.cells #[.slice none 0 0, .slice none 0 0] 31)) fun e w' => ∃ u, e = .returned u ∧ OwnFs w' (w.heap.size + 2) w'.heap.size u F ∧ Below (w.heap.size + 2) ((w.alloc (.cells #[.slice a F.ns.length ca, .slice b F.ds.length cb] 31)).alloc (.cells #[.slice none 0 0, .slice none 0 0] 31)) w') := by
    have := specCopyF _ F ((w.alloc (.cells #[.slice a F.ns.length ca, .slice b F.ds.length cb] 31)).alloc (.cells #[.slice none 0 0, .slice none 0 0] 31)) hsm (HRF.out _ (below2 _ _ _))
    rw [show ((w.alloc (.cells #[.slice a F.ns.length ca, .slice b F.ds.length cb] 31)).alloc (.cells #[.slice none 0 0, .slice none 0 0] 31)).heap.size = w.heap.size + 2 by simp] at this
    exact this
  have HIS : Hid (∀ W, Below w.heap.size w W → Calls Try.prog 22 #[.agg #[.slice a F.ns.length ca, .slice b F.ds.length cb], .int .i64 i] W fun e w' => e = .returned (.bool (usB F i)) ∧ Below W.heap.size W w') := fun W h => specIs _ F i W hsm (HRF.out W h)
  have HNS : Hid (∀ W, Below w.heap.size w W → RdNs W a F.ns) := fun W h => r1.below h (Nat.le_refl _)
  clear r1 r2 hq HRF hsm
  by_cases hd : DpP F i
  · obtain ⟨hu, hi0⟩ := hd
    have HOK : Hid (dpOk F i = true) := dpOk_yes ⟨hu, hi0⟩
    have HDD : Hid (dpD F i = ⟨F.ns.set i.toNat zeroN, clrN (ndAt F i).b F.ds (ndAt F i).b.length⟩) := by show _ = _; unfold dpD; rw [HOK.out]; rfl
    have HUS : Hid (usB F i = true) := usB_yes hu
    rw [HUS.out] at HIS
    have hn2 : 2 ≤ F.ns.length := hu.1.1.1
    have hn10 : F.ns.length ≤ 10 := hu.1.1.2.1
    have hd1 : 1 ≤ F.ds.length := hu.1.1.2.2.1
    have hd36 : F.ds.length ≤ 36 := hu.1.1.2.2.2
    obtain ⟨k, rfl⟩ := natOf hu.2.1
    have hk : k < F.ns.length := by simpa using hu.2.2.1
    have hk0 : ¬ (k : Int) = 0 := hi0
    have HBX : Hid (∀ x ∈ F.ns[k].b, 0 ≤ x ∧ x.toNat < F.ds.length) := fun x hx => by
      have := hu.blk x (by rw [ndAt_nat hk]; exact hx)
      exact ⟨this.1, this.2.1⟩
    have hbl : F.ns[k].b.length ≤ 5 := by have := hu.nod.len; rw [ndAt_nat hk] at this; exact this
    rw [ndAt_nat hk, Int.toNat_natCast] at HDD
    obtain ⟨g0, off0, u0, rfl, hblt, ⟨ab, cc, rfl, hc1, hc2, hrb⟩, _, _, _, _, c4⟩ := (HNS.out w (Below.refl _ _)).at k hk
    have HRB : Hid (∀ W, Below w.heap.size w W → Rd .i64 W ab F.ns[k].b) := fun W h => hrb.below h (Nat.le_refl _)
    have HC4 : Hid (∀ W, Below w.heap.size w W → W.cell? ⟨g0, off0 + k * 5 + 4, none⟩ = some (.slice ab F.ns[k].b.length cc)) := fun W h => (h.cell hblt).trans c4
    have HNN : Hid (∀ M : List NodeU, M.map (·.1) = F.ns → (M.set k (zeroN, .slice none 0 0)).map (·.1) = F.ns.set k zeroN) := fun M h => by rw [List.map_set, h]
    clear hu hi0 HNS hrb c4 hc1 hc2 HUS hblt
    generalize F.ns[k].b = B at *
    go_enter Try.func18, Try.ntmps18
    go_wp2_with fail
    refine HCP.out.mono ?_
    rintro e w1 ⟨u, rfl, ho, hb⟩
    obtain ⟨a1, c1, b1, e1, rfl⟩ := ho.lay
    have hC := CpF.start ho hb
    have HC : Hid (CpF w (w1.alloc (.cells #[.slice a1 F.ns.length c1, .slice b1 F.ds.length e1] 31)) (some ⟨g0, off0, none⟩) b F.ns.length ca F.ds.length cb w1.heap.size (.slice a1 F.ns.length c1) (.slice b1 F.ds.length e1) F) := hC
    obtain ⟨p0, p1, _, _, _, _, _, _⟩ := hC.cells
    clear ho hb hC HCP
    go_wp2_with fail
    refine (HIS.out _ HC.out.bel).mono ?_
    rintro e w2 ⟨rfl, hb2⟩
    have hC2 := HC.out.new hb2
    obtain ⟨g, gd, ga, gb, M, he1, he2, hM, hCM⟩ := hC2.open (by omega) (by omega)
    simp at he1 he2
    obtain ⟨rfl, rfl⟩ := he1
    obtain ⟨rfl, rfl⟩ := he2
    have HM : Hid (M.map (·.1) = F.ns) := hM
    have hMl : M.length = F.ns.length := by rw [← hM]; simp
    have HCM : Hid (CpM w w2 (some ⟨g0, off0, none⟩) b F.ns.length ca F.ds.length cb w1.heap.size g gd F.ns.length F.ds.length c1 e1 M F.ds) := hCM
    clear p0 p1 hC2 hb2 HC hM hCM HIS
    generalize w1.heap.size = Q at *
    obtain ⟨p0, p1, q0, q1⟩ := HCM.out.cells
    go_wp2
    clear p0 p1 q0 q1
    go_loopw [7] (fun j wr => ∃ m : Nat, m ≤ B.length ∧ j = .int .i64 m ∧ Hid (CpM w wr (some ⟨g0, off0, none⟩) b F.ns.length ca F.ds.length cb Q g gd F.ns.length F.ds.length c1 e1 M (clrN B F.ds m))) (fun j _ => B.length - (intOf j).toNat)
    case atStart => exact ⟨0, by omega, rfl, HCM⟩
    case round =>
      obtain ⟨m, hm, rfl, HX⟩ := hrel
      clear HCM
      have hB := HX.out.bel
      obtain ⟨p0, p1, q0, q1⟩ := HX.out.cells
      have c4 := HC4.out wr hB
      by_cases hlt : m < B.length
      · obtain ⟨gx, ox, rfl, hgx, hcx⟩ := (HRB.out wr hB).cellI m hlt
        have hx := HBX.out _ (List.getElem_mem hlt)
        obtain ⟨x, hxx⟩ := natOf hx.1
        rw [hxx] at hcx hx
        have hxl : x < F.ds.length := by simpa using hx.2
        have hcl : (clrN B F.ds m).length = F.ds.length := clrN_len _ _ _
        have hcd := HX.out.mu.celld (k := x) (by omega)
        have hfd := HX.out.mu.fzd x
        have hX2 := (HX.out.text x ⟨#[]⟩).drew
        have HX2 : Hid (CpM w (wr.setCell ⟨gd, x, none⟩ (.string ⟨#[]⟩)).drew (some ⟨g0, off0, none⟩) b F.ns.length ca F.ds.length cb Q g gd F.ns.length F.ds.length c1 e1 M (clrN B F.ds (m + 1))) := by
          show CpM _ _ _ _ _ _ _ _ _ _ _ _ _ _ _ _ (clrN B F.ds (m + 1))
          unfold clrN
          rw [List.getElem?_eq_getElem hlt, Option.getD_some, hxx, Int.toNat_natCast]
          exact hX2
        clear hX2 HX hx HRB HC4 HBX
        generalize (clrN B F.ds m)[x] = dd at *
        clear hcl
        go_upto_region 7 with fail
        go_region
        all_goals
          go_wp2
          go_roundw
          case rel => exact ⟨m + 1, by omega, by go_num, HX2⟩
          case measure => simp [intOf]; omega
      · obtain rfl : m = B.length := by omega
        have hkM : k < M.length := by omega
        obtain ⟨d0, d1, d2, d3, d4⟩ := HX.out.mu.celln hkM
        have f0 := HX.out.mu.fz (k * 5)
        have f1 := HX.out.mu.fz (k * 5 + 1)
        have f2 := HX.out.mu.fz (k * 5 + 2)
        have f3 := HX.out.mu.fz (k * 5 + 3)
        have f4 := HX.out.mu.fz (k * 5 + 4)
        have HW : Hid (CpM w (((((wr.setCell ⟨g, k * 5, none⟩ (.int .i64 0)).setCell ⟨g, k * 5 + 1, none⟩ (.int .i64 0)).setCell ⟨g, k * 5 + 2, none⟩ (.int .i64 0)).setCell ⟨g, k * 5 + 3, none⟩ (.int .i64 0)).setCell ⟨g, k * 5 + 4, none⟩ (.slice none 0 0)) (some ⟨g0, off0, none⟩) b F.ns.length ca F.ds.length cb Q g gd F.ns.length F.ds.length c1 e1 (M.set k (zeroN, .slice none 0 0)) (clrN B F.ds B.length)) := HX.out.wipe hkM
        have HMM : Hid ((M.set k (zeroN, .slice none 0 0)).map (·.1) = F.ns.set k zeroN) := HNN.out M HM.out
        clear HX HRB HC4 HBX HM HNN
        generalize M[k] = xk at *
        clear hkM
        go_upto_region 9 with fail
        all_goals
          clear d0 d1 d2 d3 d4 f0 f1 f2 f3 f4 p0 p1 q0 q1 c4
          generalize (((((wr.setCell ⟨g, k * 5, none⟩ (.int .i64 0)).setCell ⟨g, k * 5 + 1, none⟩ (.int .i64 0)).setCell ⟨g, k * 5 + 2, none⟩ (.int .i64 0)).setCell ⟨g, k * 5 + 3, none⟩ (.int .i64 0)).setCell ⟨g, k * 5 + 4, none⟩ (.slice none 0 0)) = W9 at *
          have HF : Hid (CpF w W9 (some ⟨g0, off0, none⟩) b F.ns.length ca F.ds.length cb Q (.slice (some ⟨g, 0, none⟩) F.ns.length c1) (.slice (some ⟨gd, 0, none⟩) F.ds.length e1) ⟨F.ns.set k zeroN, clrN B F.ds B.length⟩) := HW.out.toF HMM.out rfl
          clear HW HMM
          obtain ⟨_, _, r0, r1, q0, q1, z0, z1⟩ := HF.out.cells
          have hfar := HF.out.far
          have HDN : Hid _ := HF.out.done
          go_wp2
          refine bodyPost_ret (res_fs1 rfl _ _ (w.heap.size + 1) 31 #[.slice (some ⟨g, 0, none⟩) F.ns.length c1, .slice (some ⟨gd, 0, none⟩) F.ds.length e1] _ rfl HDN.out.1 Try.underlying31 rfl Try.sizeFs) rfl ?_
          exact ⟨_, by rw [HOK.out]; rfl, by rw [HDD.out]; exact HDN.out.2.1, HDN.out.2.2⟩
  · have HOK : Hid (dpOk F i = false) := dpOk_no hd
    have HDD : Hid (dpD F i = F) := by show _ = _; unfold dpD; rw [HOK.out]; rfl
    have hor : usB F i = false ∨ (usB F i = true ∧ i = 0) := by
      by_cases hu : UsP F i
      · right
        exact ⟨usB_yes hu, Classical.byContradiction fun h => hd ⟨hu, h⟩⟩
      · left; exact usB_no hu
    have HIS2 : Hid ((∀ W, Below w.heap.size w W → Calls Try.prog 22 #[.agg #[.slice a F.ns.length ca, .slice b F.ds.length cb], .int .i64 i] W fun e w' => e = .returned (.bool false) ∧ Below W.heap.size W w') ∨ (i = 0 ∧ ∀ W, Below w.heap.size w W → Calls Try.prog 22 #[.agg #[.slice a F.ns.length ca, .slice b F.ds.length cb], .int .i64 i] W fun e w' => e = .returned (.bool true) ∧ Below W.heap.size W w')) := by
      rcases hor with h | ⟨h, h0⟩
      · left; rw [← h]; exact HIS.out
      · right; refine ⟨h0, ?_⟩; rw [← h]; exact HIS.out
    clear hd hor HIS HNS
    rcases HIS2.out with hA | ⟨hi0, hA⟩
    · have HA : Hid _ := hA
      clear hA HIS2
      go_enter Try.func18, Try.ntmps18
      go_wp2_with fail
      refine HCP.out.mono ?_
      rintro e w1 ⟨u, rfl, ho, hb⟩
      obtain ⟨a1, c1, b1, e1, rfl⟩ := ho.lay
      have hC := CpF.start ho hb
      have HC : Hid (CpF w (w1.alloc (.cells #[.slice a1 F.ns.length c1, .slice b1 F.ds.length e1] 31)) a b F.ns.length ca F.ds.length cb w1.heap.size (.slice a1 F.ns.length c1) (.slice b1 F.ds.length e1) F) := hC
      obtain ⟨p0, p1, _, _, _, _, _, _⟩ := hC.cells
      clear ho hb hC HCP
      go_wp2_with fail
      refine (HA.out _ HC.out.bel).mono ?_
      rintro e w2 ⟨rfl, hb2⟩
      have HF : Hid (CpF w w2 a b F.ns.length ca F.ds.length cb w1.heap.size (.slice a1 F.ns.length c1) (.slice b1 F.ds.length e1) F) := HC.out.new hb2
      clear p0 p1 hb2 HC HA
      generalize w1.heap.size = Q at *
      obtain ⟨_, _, r0, r1, q0, q1, z0, z1⟩ := HF.out.cells
      have hfar := HF.out.far
      have HDN : Hid _ := HF.out.done
      go_wp2
      refine bodyPost_ret (res_fs1 rfl _ _ (w.heap.size + 1) 31 #[.slice a1 F.ns.length c1, .slice b1 F.ds.length e1] _ rfl HDN.out.1 Try.underlying31 rfl Try.sizeFs) rfl ?_
      exact ⟨_, by rw [HOK.out]; rfl, by rw [HDD.out]; exact HDN.out.2.1, HDN.out.2.2⟩
    · have HA : Hid _ := hA
      clear hA HIS2
      subst hi0
      go_enter Try.func18, Try.ntmps18
      go_wp2_with fail
      refine HCP.out.mono ?_
      rintro e w1 ⟨u, rfl, ho, hb⟩
      obtain ⟨a1, c1, b1, e1, rfl⟩ := ho.lay
      have hC := CpF.start ho hb
      have HC : Hid (CpF w (w1.alloc (.cells #[.slice a1 F.ns.length c1, .slice b1 F.ds.length e1] 31)) a b F.ns.length ca F.ds.length cb w1.heap.size (.slice a1 F.ns.length c1) (.slice b1 F.ds.length e1) F) := hC
      obtain ⟨p0, p1, _, _, _, _, _, _⟩ := hC.cells
      clear ho hb hC HCP
      go_wp2_with fail
      refine (HA.out _ HC.out.bel).mono ?_
      rintro e w2 ⟨rfl, hb2⟩
      have HF : Hid (CpF w w2 a b F.ns.length ca F.ds.length cb w1.heap.size (.slice a1 F.ns.length c1) (.slice b1 F.ds.length e1) F) := HC.out.new hb2
      clear p0 p1 hb2 HC HA
      generalize w1.heap.size = Q at *
      obtain ⟨_, _, r0, r1, q0, q1, z0, z1⟩ := HF.out.cells
      have hfar := HF.out.far
      have HDN : Hid _ := HF.out.done
      go_wp2
      refine bodyPost_ret (res_fs1 rfl _ _ (w.heap.size + 1) 31 #[.slice a1 F.ns.length c1, .slice b1 F.ds.length e1] _ rfl HDN.out.1 Try.underlying31 rfl Try.sizeFs) rfl ?_
      exact ⟨_, by rw [HOK.out]; rfl, by rw [HDD.out]; exact HDN.out.2.1, HDN.out.2.2⟩
end Go.Proofs.Ytioecnfgliponaa

/-
  Own text: a node is made, by the other program.
-/
namespace Go.Proofs.Ytioecnfgliponaa
open Go.RowKit

set_option maxRecDepth 20000 in
set_option maxHeartbeats 4000000 in
theorem specNodeMake (v : Value) (F : FsD) (kind : Int) (w : World) (hsm : SmF F) (hr : RdFs w v F) :
    Calls Try.prog 16 #[v, .int .i64 kind] w fun e w' => ∃ u, e = .returned (.tuple #[u, .int .i64 (mdI F kind), .bool (mdOk F kind)]) ∧ OwnFs w' w.heap.size w'.heap.size u (mdD F kind) ∧ Below w.heap.size w w' := by
  obtain ⟨a, ca, b, cb, rfl, hq, r1, r2⟩ := hr
  have HRF : Hid (∀ W, Below w.heap.size w W → RdFs W (.agg #[.slice a F.ns.length ca, .slice b F.ds.length cb]) F) := fun W h => RdFs.below ⟨a, ca, b, cb, rfl, hq, r1, r2⟩ h (Nat.le_refl _)
  have HCP : Hid (Calls Try.prog 30 #[.agg #[.slice a F.ns.length ca, .slice b F.ds.length cb]] ((w.alloc (.cells #[.slice a F.ns.length ca, .slice b F.ds.length cb] 31)).alloc (.cells #[.slice none 0 0, .slice none 0 0] 31)) fun e w' => ∃ u, e = .returned u ∧ OwnFs w' (w.heap.size + 2) w'.heap.size u F ∧ Below (w.heap.size + 2) ((w.alloc (.cells #[.slice a F.ns.length ca, .slice b F.ds.length cb] 31)).alloc (.cells #[.slice none 0 0, .slice none 0 0] 31)) w') := by
    have := specCopyF _ F ((w.alloc (.cells #[.slice a F.ns.length ca, .slice b F.ds.length cb] 31)).alloc (.cells #[.slice none 0 0, .slice none 0 0] 31)) hsm (HRF.out _ (below2 _ _ _))
    rw [show ((w.alloc (.cells #[.slice a F.ns.length ca, .slice b F.ds.length cb] 31)).alloc (.cells #[.slice none 0 0, .slice none 0 0] 31)).heap.size = w.heap.size + 2 by simp] at this
    exact this
  have HSH : Hid (∀ W, Below w.heap.size w W → Calls Try.prog 41 #[.agg #[.slice a F.ns.length ca, .slice b F.ds.length cb]] W fun e w' => e = .returned (.bool (shOk F)) ∧ Below W.heap.size W w') := fun W h => specShapeOk _ F W hsm (HRF.out W h)
  have HNS : Hid (∀ W, Below w.heap.size w W → RdNs W a F.ns) := fun W h => r1.below h (Nat.le_refl _)
  have HIN : Hid (∀ q W, (decide ((1 : Int) ≤ kind) && decide (kind ≤ 3)) = q → Calls Try.prog 42 #[.int .i64 kind, .int .i64 1, .int .i64 3] W fun e w' => e = .returned (.bool q) ∧ w' = W) := by
    intro q W h
    rw [← h]
    exact inW kind 1 3 W
  clear r1 r2 hq HRF hsm
  by_cases hS : ShapeP F
  · have HSO : Hid (shOk F = true) := shOk_yes hS
    rw [HSO.out] at HSH
    by_cases hki : 1 ≤ kind ∧ kind ≤ 3
    · have HQ : Hid ((decide ((1 : Int) ≤ kind) && decide (kind ≤ 3)) = true) := by show _ = _; rw [decide_eq_true hki.1, decide_eq_true hki.2]; rfl
      have HAT : Hid (∀ k (hk : k < F.ns.length), (F.ns[k]).k = 0 → (∀ j (hj : j < F.ns.length), j < k → (F.ns[j]).k ≠ 0) → mdOk F kind = true ∧ mdI F kind = (k : Int) ∧ mdD F kind = ⟨F.ns.set k ⟨kind, 0, 0, 0, []⟩, F.ds⟩ ∧ F.ns[k] = zeroN) := fun k hk h0 h => made_at hS hki hk h0 h
      have HNO : Hid ((∀ j (hj : j < F.ns.length), (F.ns[j]).k ≠ 0) → mdOk F kind = false ∧ mdI F kind = -1 ∧ mdD F kind = F) := fun h => made_not fun h2 => idx_none h h2.2.2
      have hn2 : 2 ≤ F.ns.length := hS.1.1
      have hn10 : F.ns.length ≤ 10 := hS.1.2.1
      have hd1 : 1 ≤ F.ds.length := hS.1.2.2.1
      clear hS hki HSO
      go_enter Try.func16, Try.ntmps16
      go_wp2_with fail
      refine HCP.out.mono ?_
      rintro e w1 ⟨u, rfl, ho, hb⟩
      obtain ⟨a1, c1, b1, e1, rfl⟩ := ho.lay
      have hC := CpF.start ho hb
      have HC : Hid (CpF w (w1.alloc (.cells #[.slice a1 F.ns.length c1, .slice b1 F.ds.length e1] 31)) a b F.ns.length ca F.ds.length cb w1.heap.size (.slice a1 F.ns.length c1) (.slice b1 F.ds.length e1) F) := hC
      obtain ⟨p0, p1, _, _, _, _, _, _⟩ := hC.cells
      clear ho hb hC HCP
      go_wp2_with fail
      refine (HSH.out _ HC.out.bel).mono ?_
      rintro e w2 ⟨rfl, hb2⟩
      have HC2 : Hid (CpF w w2 a b F.ns.length ca F.ds.length cb w1.heap.size (.slice a1 F.ns.length c1) (.slice b1 F.ds.length e1) F) := HC.out.new hb2
      clear p0 p1 hb2 HC HSH
      go_wp2_with fail
      refine (HIN.out true _ HQ.out).mono ?_
      rintro e w3 ⟨rfl, hw3⟩
      subst w3
      clear HIN HQ
      obtain ⟨g, gd, ga, gb, M, he1, he2, hM, hCM⟩ := HC2.out.open (by omega) (by omega)
      simp at he1 he2
      obtain ⟨rfl, rfl⟩ := he1
      obtain ⟨rfl, rfl⟩ := he2
      have HM : Hid (M.map (·.1) = F.ns) := hM
      have hMl : M.length = F.ns.length := by rw [← hM]; simp
      have HCM : Hid (CpM w w2 a b F.ns.length ca F.ds.length cb w1.heap.size g gd F.ns.length F.ds.length c1 e1 M F.ds) := hCM
      clear HC2 hM hCM
      generalize w1.heap.size = Q at *
      obtain ⟨p0, p1, q0, q1⟩ := HCM.out.cells
      go_wp2
      go_loop [8] (fun j => ∃ k : Nat, k ≤ F.ns.length ∧ j = .int .i64 k ∧ Hid (∀ j (hj : j < F.ns.length), j < k → (F.ns[j]).k ≠ 0)) (fun j => F.ns.length - (intOf j).toNat)
      case atStart => exact ⟨0, by omega, rfl, fun j _ h => by omega⟩
      case round =>
        obtain ⟨k, hk, rfl, HL⟩ := hrel
        by_cases hlt : k < F.ns.length
        · obtain ⟨g0, off0, u0, rfl, hblt, _, c0, _, _, _, _⟩ := (HNS.out w2 HCM.out.bel).at k hlt
          by_cases h0 : (F.ns[k]).k = 0
          · obtain ⟨hk1, hk2, hk3, hkz⟩ := HAT.out k hlt h0 HL.out
            have HK1 : Hid (mdOk F kind = true) := hk1
            have HK2 : Hid (mdI F kind = (k : Int)) := hk2
            have HK3 : Hid (mdD F kind = ⟨F.ns.set k ⟨kind, 0, 0, 0, []⟩, F.ds⟩) := hk3
            have hkM : k < M.length := by omega
            have hMk : M[k].1 = zeroN := by
              rw [← hkz]
              have := congrArg (fun l => l[k]?) HM.out
              simp only [List.getElem?_map, List.getElem?_eq_getElem hkM, List.getElem?_eq_getElem hlt, Option.map_some] at this
              exact Option.some.inj this
            have hMM : M[k] = (zeroN, M[k].2) := by rw [← hMk]
            have HW : Hid (CpM w (w2.setCell ⟨g, k * 5, none⟩ (.int .i64 kind)) (some ⟨g0, off0, none⟩) b F.ns.length ca F.ds.length cb Q g gd F.ns.length F.ds.length c1 e1 (M.set k (⟨kind, 0, 0, 0, []⟩, M[k].2)) F.ds) := HCM.out.num hkM 0 (by omega) ⟨kind, 0, 0, 0, []⟩ (.int .i64 kind) (by rw [hMk]; rfl) (by rw [hMM]; rfl)
            have HMM : Hid ((M.set k ((⟨kind, 0, 0, 0, []⟩ : NodeD), M[k].2)).map (·.1) = F.ns.set k ⟨kind, 0, 0, 0, []⟩) := by show _ = _; rw [List.map_set, HM.out]
            have d0 := (HCM.out.mu.celln hkM).1
            have f0 := HCM.out.mu.fz (k * 5)
            rw [hMk] at d0
            rw [h0] at c0
            clear h0 hk1 hk2 hk3 hkz hMk hMM HAT HNO HNS HL HM HCM
            generalize M[k].2 = uk at *
            clear hkM
            go_upto_region 9 with fail
            clear p0 p1 q0 q1 c0 d0 f0
            generalize w2.setCell ⟨g, k * 5, none⟩ (.int .i64 kind) = W9 at *
            have HF : Hid (CpF w W9 (some ⟨g0, off0, none⟩) b F.ns.length ca F.ds.length cb Q (.slice (some ⟨g, 0, none⟩) F.ns.length c1) (.slice (some ⟨gd, 0, none⟩) F.ds.length e1) ⟨F.ns.set k ⟨kind, 0, 0, 0, []⟩, F.ds⟩) := HW.out.toF HMM.out rfl
            clear HW HMM
            obtain ⟨_, _, r0, r1, q0, q1, z0, z1⟩ := HF.out.cells
            have hfar := HF.out.far
            have HDN : Hid _ := HF.out.done
            go_wp2
            refine bodyPost_ret (res_fs2 rfl _ _ (w.heap.size + 1) 31 #[.slice (some ⟨g, 0, none⟩) F.ns.length c1, .slice (some ⟨gd, 0, none⟩) F.ds.length e1] _ rfl HDN.out.1 Try.underlying31 rfl Try.sizeFs) rfl ?_
            exact ⟨_, by rw [HK1.out, HK2.out]; rfl, by rw [HK3.out]; exact HDN.out.2.1, HDN.out.2.2⟩
          · have HL2 : Hid (∀ j (hj : j < F.ns.length), j < k + 1 → (F.ns[j]).k ≠ 0) := fun j hj hjk => by
              by_cases e : j = k
              · subst e; exact h0
              · exact HL.out j hj (by omega)
            clear HL HAT HNO HNS HM HCM
            generalize (F.ns[k]).k = y at *
            go_wp2
            go_round
            case rel => exact ⟨k + 1, by omega, by go_num, HL2⟩
            case measure => simp [intOf]; omega
        · obtain rfl : k = F.ns.length := by omega
          obtain ⟨hk1, hk2, hk3⟩ := HNO.out fun j hj => HL.out j hj hj
          have HK1 : Hid (mdOk F kind = false) := hk1
          have HK2 : Hid (mdI F kind = -1) := hk2
          have HK3 : Hid (mdD F kind = F) := hk3
          have HF : Hid (CpF w w2 a b F.ns.length ca F.ds.length cb Q (.slice (some ⟨g, 0, none⟩) F.ns.length c1) (.slice (some ⟨gd, 0, none⟩) F.ds.length e1) F) := HCM.out.toF HM.out rfl
          clear hk1 hk2 hk3 HAT HNO HNS HL HM HCM q0 q1
          obtain ⟨_, _, r0, r1, q0, q1, z0, z1⟩ := HF.out.cells
          have hfar := HF.out.far
          have HDN : Hid _ := HF.out.done
          go_wp2
          refine bodyPost_ret (res_fs2 rfl _ _ (w.heap.size + 1) 31 #[.slice (some ⟨g, 0, none⟩) F.ns.length c1, .slice (some ⟨gd, 0, none⟩) F.ds.length e1] _ rfl HDN.out.1 Try.underlying31 rfl Try.sizeFs) rfl ?_
          exact ⟨_, by rw [HK1.out, HK2.out]; rfl, by rw [HK3.out]; exact HDN.out.2.1, HDN.out.2.2⟩
    · have HQ : Hid ((decide ((1 : Int) ≤ kind) && decide (kind ≤ 3)) = false) := and_noK hki
      obtain ⟨hk1, hk2, hk3⟩ := made_not (F := F) (kind := kind) fun h2 => hki h2.2.1
      have HK1 : Hid (mdOk F kind = false) := hk1
      have HK2 : Hid (mdI F kind = -1) := hk2
      have HK3 : Hid (mdD F kind = F) := hk3
      clear hS hki HSO hk1 hk2 hk3 HNS
      go_enter Try.func16, Try.ntmps16
      go_wp2_with fail
      refine HCP.out.mono ?_
      rintro e w1 ⟨u, rfl, ho, hb⟩
      obtain ⟨a1, c1, b1, e1, rfl⟩ := ho.lay
      have hC := CpF.start ho hb
      have HC : Hid (CpF w (w1.alloc (.cells #[.slice a1 F.ns.length c1, .slice b1 F.ds.length e1] 31)) a b F.ns.length ca F.ds.length cb w1.heap.size (.slice a1 F.ns.length c1) (.slice b1 F.ds.length e1) F) := hC
      obtain ⟨p0, p1, _, _, _, _, _, _⟩ := hC.cells
      clear ho hb hC HCP
      go_wp2_with fail
      refine (HSH.out _ HC.out.bel).mono ?_
      rintro e w2 ⟨rfl, hb2⟩
      have HF : Hid (CpF w w2 a b F.ns.length ca F.ds.length cb w1.heap.size (.slice a1 F.ns.length c1) (.slice b1 F.ds.length e1) F) := HC.out.new hb2
      clear p0 p1 hb2 HC HSH
      go_wp2_with fail
      refine (HIN.out false _ HQ.out).mono ?_
      rintro e w3 ⟨rfl, hw3⟩
      subst w3
      clear HIN HQ
      generalize w1.heap.size = Q at *
      obtain ⟨_, _, r0, r1, q0, q1, z0, z1⟩ := HF.out.cells
      have hfar := HF.out.far
      have HDN : Hid _ := HF.out.done
      go_wp2
      refine bodyPost_ret (res_fs2 rfl _ _ (w.heap.size + 1) 31 #[.slice a1 F.ns.length c1, .slice b1 F.ds.length e1] _ rfl HDN.out.1 Try.underlying31 rfl Try.sizeFs) rfl ?_
      exact ⟨_, by rw [HK1.out, HK2.out]; rfl, by rw [HK3.out]; exact HDN.out.2.1, HDN.out.2.2⟩
  · have HSO : Hid (shOk F = false) := shOk_no hS
    rw [HSO.out] at HSH
    obtain ⟨hk1, hk2, hk3⟩ := made_not (F := F) (kind := kind) fun h2 => hS h2.1
    have HK1 : Hid (mdOk F kind = false) := hk1
    have HK2 : Hid (mdI F kind = -1) := hk2
    have HK3 : Hid (mdD F kind = F) := hk3
    clear hS HSO hk1 hk2 hk3 HNS HIN
    go_enter Try.func16, Try.ntmps16
    go_wp2_with fail
    refine HCP.out.mono ?_
    rintro e w1 ⟨u, rfl, ho, hb⟩
    obtain ⟨a1, c1, b1, e1, rfl⟩ := ho.lay
    have hC := CpF.start ho hb
    have HC : Hid (CpF w (w1.alloc (.cells #[.slice a1 F.ns.length c1, .slice b1 F.ds.length e1] 31)) a b F.ns.length ca F.ds.length cb w1.heap.size (.slice a1 F.ns.length c1) (.slice b1 F.ds.length e1) F) := hC
    obtain ⟨p0, p1, _, _, _, _, _, _⟩ := hC.cells
    clear ho hb hC HCP
    go_wp2_with fail
    refine (HSH.out _ HC.out.bel).mono ?_
    rintro e w2 ⟨rfl, hb2⟩
    have HF : Hid (CpF w w2 a b F.ns.length ca F.ds.length cb w1.heap.size (.slice a1 F.ns.length c1) (.slice b1 F.ds.length e1) F) := HC.out.new hb2
    clear p0 p1 hb2 HC HSH
    generalize w1.heap.size = Q at *
    obtain ⟨_, _, r0, r1, q0, q1, z0, z1⟩ := HF.out.cells
    have hfar := HF.out.far
    have HDN : Hid _ := HF.out.done
    go_wp2
    refine bodyPost_ret (res_fs2 rfl _ _ (w.heap.size + 1) 31 #[.slice a1 F.ns.length c1, .slice b1 F.ds.length e1] _ rfl HDN.out.1 Try.underlying31 rfl Try.sizeFs) rfl ?_
    exact ⟨_, by rw [HK1.out, HK2.out]; rfl, by rw [HK3.out]; exact HDN.out.2.1, HDN.out.2.2⟩
end Go.Proofs.Ytioecnfgliponaa
