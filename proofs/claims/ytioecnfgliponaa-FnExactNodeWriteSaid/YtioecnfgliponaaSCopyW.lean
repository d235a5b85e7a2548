/-
  Own text: a copy of a branch, as the other program makes it.
-/
import Derived.Test.YtioecnfgliponaaDataB
namespace Go.Proofs.Ytioecnfgliponaa
open Go.RowKit

set_option maxRecDepth 20000 in
set_option maxHeartbeats 4000000 in
theorem specCopyF (v : Value) (F : FsD) (w : World) (hsm : SmF F) (hr : RdFs w v F) :
    Calls Try.prog 30 #[v] w fun e w' => ∃ u, e = .returned u ∧ OwnFs w' w.heap.size w'.heap.size u F ∧ Below w.heap.size w w' := by
  obtain ⟨i1, ii, iz0, iz1, iz2⟩ := info_parts Try.infoIntX
  obtain ⟨i2, ni, nz0, nz1, nz2⟩ := info_parts Try.infoNode
  obtain ⟨a, ca, b, cb, rfl, hcap, r1, r2⟩ := hr
  obtain ⟨s1, s2, s3, s4⟩ := hsm
  have HNS : Hid (∀ W, Below w.heap.size w W → RdNs W a F.ns) := fun W h => r1.below h (Nat.le_refl _)
  have HDS : Hid (∀ W, Below w.heap.size w W → RdS W b F.ds) := fun W h => r2.below h (Nat.le_refl _)
  have HS2 : Hid (∀ n ∈ F.ns, n.b.length ≤ 1048576) := s2
  clear r1 r2 hcap s2 s4
  go_enter Try.func30, Try.ntmps30
  go_wp2_with fail
  refine (copyTD _ _ F.ds _ (by omega) (HDS.out _ (below2 _ _ _))).mono ?_
  rintro e w3 ⟨vd, rfl, hod, hb3⟩
  obtain ⟨ad, cd, rfl⟩ := ownSliceD hod
  obtain ⟨w0, hw0⟩ : ∃ x, x = w.alloc (.cells #[.slice a F.ns.length ca, .slice b F.ds.length cb] 31) := ⟨_, rfl⟩
  have hz0 : w0.heap.size = w.heap.size + 1 := by rw [hw0]; simp
  have hX0 : Var w0 w.heap.size #[.slice a F.ns.length ca, .slice b F.ds.length cb] 31 := by rw [hw0]; exact Var.made _ _ _
  have hb0 : Below w.heap.size w w0 := by rw [hw0]; exact below1 _ _
  have hG0 : GrInv w0 (w3.alloc (.cells #[.slice none 0 0, .slice ad F.ds.length cd] 31)) w3.heap.size (.slice none 0 0) (.slice ad F.ds.length cd) [] F.ds := by
    have hs3 := hb3.size
    simp at hs3
    refine ⟨?_, Var.made _ _ _, ⟨World.ownsRow_nil _ _ _ _, by simp, by simp, (fun j hj => by cases hj), by simp⟩, ?_, ?_, by omega⟩
    · rw [hz0]
      exact ((Var.made2 w _ _ _).new hb3).alloc _
    · rw [hz0]
      have := ownsRow_below hod (below1 w3 (.cells #[.slice none 0 0, .slice ad F.ds.length cd] 31)) (Nat.le_refl _)
      simpa using this
    · rw [hw0]
      exact ((below1 _ _).trans (hb3.mono (by simp))).trans ((below1 w3 _).mono (by simp; omega))
  have HG0 : Hid (GrInv w0 (w3.alloc (.cells #[.slice none 0 0, .slice ad F.ds.length cd] 31)) w3.heap.size (.slice none 0 0) (.slice ad F.ds.length cd) [] F.ds) := hG0
  have HX0 : Hid (Var w0 w.heap.size #[.slice a F.ns.length ca, .slice b F.ds.length cb] 31) := hX0
  have HB0 : Hid (Below w.heap.size w w0) := hb0
  have hqz : w.heap.size + 2 ≤ w3.heap.size := by have := hb3.size; simp at this; omega
  clear hw0 hG0 hX0 hb0 hod hb3
  generalize hQ : w3.heap.size = Q at *
  go_wp2
  go_loopw [4] (fun j wr => ∃ (k : Nat) (vn : Value) (M : List NodeU), j = .int .i64 k ∧ k ≤ F.ns.length ∧ Hid (M.map (·.1) = F.ns.take k) ∧ Hid (GrInv w0 wr Q vn (.slice ad F.ds.length cd) M F.ds)) (fun j _ => F.ns.length - (intOf j).toNat)
  case atStart => exact ⟨0, .slice none 0 0, [], rfl, by omega, by rfl, HG0⟩
  case round =>
    obtain ⟨k, vn, M, rfl, hk, HM, HG⟩ := hrel
    clear HG0
    have hX := HX0.out.below HG.out.bel (by omega)
    have y0 := hX.cell 0
    simp at y0
    clear hX
    by_cases hlt : k < F.ns.length
    · have hBw : Below w.heap.size w wr := HB0.out.trans (HG.out.bel.mono (by omega))
      obtain ⟨g, off, u, rfl, hblt, hru, c0, c1, c2, c3, c4⟩ := (HNS.out wr hBw).at k hlt
      have hnb := HS2.out _ (List.getElem_mem hlt)
      have HMK : Hid (∀ x : NodeU, x.1 = F.ns[k] → (M ++ [x]).map (·.1) = F.ns.take (k + 1)) := fun x hx => by rw [List.map_append, HM.out, List.take_succ_eq_append_getElem hlt]; simp [hx]
      have hMl : M.length = k := by have := congrArg List.length HM.out; simp at this; omega
      have hMle : M.length ≤ 1048576 := by omega
      clear hMl HM
      generalize F.ns[k] = n at *
      obtain ⟨ab, cc, rfl, hcb1, hcb2, hrb⟩ := hru
      obtain ⟨W', hW'⟩ : ∃ x, x = wr.alloc (.cells #[.int .i64 n.k, .int .i64 n.g, .int .i64 n.t, .int .i64 n.s, .slice ab n.b.length cc] 57) := ⟨_, rfl⟩
      have hzW : W'.heap.size = wr.heap.size + 1 := by rw [hW']; simp
      have hbW : Below wr.heap.size wr W' := by rw [hW']; exact below1 _ _
      have hVN : Var W' wr.heap.size #[.int .i64 n.k, .int .i64 n.g, .int .i64 n.t, .int .i64 n.s, .slice ab n.b.length cc] 57 := by rw [hW']; exact Var.made _ _ _
      have ho0 : (W'.alloc (.cells #[] 3)).ownsRow (wr.heap.size + 1) 3 1 (.slice (some ⟨wr.heap.size + 1, 0, none⟩) 0 0) 0 [] := by
        have := World.ownsRow_made (e := 3) (size := 1) W' #[] 0 (Nat.le_refl _) (Nat.zero_le _) rfl
        rw [hzW] at this
        exact this
      have hb2 : Below wr.heap.size wr (W'.alloc (.cells #[] 3)) := hbW.trans ((below1 W' _).mono hbW.size)
      have HO0 : Hid ((W'.alloc (.cells #[] 3)).ownsRow (wr.heap.size + 1) 3 1 (.slice (some ⟨wr.heap.size + 1, 0, none⟩) 0 0) 0 []) := ho0
      have HS0 : Hid (Src Try.prog 1 53 (.slice ab n.b.length cc) n.b.length (n.b.map (Value.int .i64)) (W'.alloc (.cells #[] 3))) := srcIntD cc (hrb.below hb2 (Nat.le_refl _))
      have HVN : Hid (∀ W, Below (wr.heap.size + 1) (W'.alloc (.cells #[] 3)) W → Var W wr.heap.size #[.int .i64 n.k, .int .i64 n.g, .int .i64 n.t, .int .i64 n.s, .slice ab n.b.length cc] 57 ∧ Below wr.heap.size wr W) := fun W h => ⟨(hVN.alloc _).below h (by omega), hb2.trans (h.mono (by omega))⟩
      have hlo : w.heap.size + 2 ≤ wr.heap.size := by have := HG.out.size; omega
      have y1 := (hbW.cell (p := ⟨w.heap.size, 0, none⟩) (by simp; omega)).trans y0
      have y2 := (hb2.cell (p := ⟨w.heap.size, 0, none⟩) (by simp; omega)).trans y0
      have c42 := (hb2.cell (p := ⟨g, off + k * 5 + 4, none⟩) hblt).trans c4
      have hsz2 : wr.heap.size + 1 ≤ (W'.alloc (.cells #[] 3)).heap.size := by simp; omega
      subst hW'
      clear hzW hbW hVN ho0 hb2 hrb hcb1 hcb2
      go_wp2_with (at_builtin; refine wpList_append_own_src _ rfl (.tmp 22) (.tmp 28) 53 53 rfl (wr.heap.size + 1) 3 i1 (.int .i64 0) 1 8 Try.underlying53 ii iz0 iz1 iz2 rfl _ _ _ rfl HO0.out _ n.b.length (n.b.map (Value.int .i64)) rfl HS0.out (by unfold maxLen; omega) (by omega) hsz2 ?_)
      intro v5 w5 ho5 hg5
      obtain ⟨a5, c5, rfl⟩ := ownSliceD ho5
      have hb5 := (Only.of_grown hg5).below (B := wr.heap.size + 1) hsz2 (fun k hk => by cases hk; exact Nat.le_refl _)
      obtain ⟨hV5, hbr5⟩ := HVN.out w5 hb5
      have ho5' : w5.ownsRow (wr.heap.size + 1) 3 1 (.slice a5 n.b.length c5) n.b.length (n.b.map (Value.int .i64)) := by simpa using ho5
      have m4 := hV5.cell 4
      have f4 := hV5.frozen 4
      simp at m4
      have hV6 := hV5.set 4 (.slice a5 n.b.length c5)
      simp at hV6
      have hbr6 : Below wr.heap.size wr (w5.setCell ⟨wr.heap.size, 4, none⟩ (.slice a5 n.b.length c5)) := hbr5.setCell (Nat.le_refl _) _
      have ho6 := own_set ho5' (Q := wr.heap.size) (by omega) 4 (.slice a5 n.b.length c5)
      have HV6 : Hid (Var (w5.setCell ⟨wr.heap.size, 4, none⟩ (.slice a5 n.b.length c5)) wr.heap.size #[.int .i64 n.k, .int .i64 n.g, .int .i64 n.t, .int .i64 n.s, .slice a5 n.b.length c5] 57) := hV6
      have HB6 : Hid (Below wr.heap.size wr (w5.setCell ⟨wr.heap.size, 4, none⟩ (.slice a5 n.b.length c5))) := hbr6
      have HO6 : Hid ((w5.setCell ⟨wr.heap.size, 4, none⟩ (.slice a5 n.b.length c5)).ownsRow (wr.heap.size + 1) 3 1 (.slice a5 n.b.length c5) n.b.length (n.b.map (Value.int .i64))) := ho6
      clear hV5 hbr5 hV6 hbr6 ho6 ho5 ho5' hb5 hg5 HVN HO0 HS0 hsz2 y0 y1 y2 c42 c0 c1 c2 c3 c4
      go_upto_region 7 with fail
      clear m4 f4
      generalize w5.setCell ⟨wr.heap.size, 4, none⟩ (.slice a5 n.b.length c5) = w6 at *
      have HG6 : Hid (GrInv w0 w6 Q vn (.slice ad F.ds.length cd) M F.ds) := HG.out.new HB6.out
      have HLOW : Hid (∀ y ∈ M, ∀ j, blk y.2 j → ¬ blk (.slice a5 n.b.length c5) j) := fun y hy j h1 h2 => by
        have e1 := HG.out.nod.low y hy j h1
        have e2 := (HO6.out.lt j h2).1
        omega
      have m0 := HV6.out.cell 0
      have m1 := HV6.out.cell 1
      have m2 := HV6.out.cell 2
      have m3 := HV6.out.cell 3
      have m4 := HV6.out.cell 4
      have x0 := HG6.out.var.cell 0
      simp at m0 m1 m2 m3 m4 x0
      obtain ⟨an, cn, rfl⟩ := ownSliceD HG6.out.nod.row
      have HS7 : Hid (Src Try.prog 5 29 (.slice (some ⟨w6.heap.size, 0, none⟩) 1 1) 1 (encU (n, .slice a5 n.b.length c5)) (w6.alloc (.cells #[.int .i64 n.k, .int .i64 n.g, .int .i64 n.t, .int .i64 n.s, .slice a5 n.b.length c5] 57))) := srcNode w6 n a5 n.b.length c5
      have HG7 : Hid (GrInv w0 (w6.alloc (.cells #[.int .i64 n.k, .int .i64 n.g, .int .i64 n.t, .int .i64 n.s, .slice a5 n.b.length c5] 57)) Q (.slice an M.length cn) (.slice ad F.ds.length cd) M F.ds) := HG6.out.new (below1 _ _)
      have HO7 : Hid ((w6.alloc (.cells #[.int .i64 n.k, .int .i64 n.g, .int .i64 n.t, .int .i64 n.s, .slice a5 n.b.length c5] 57)).ownsRow (w0.heap.size + 1) 3 1 (.slice a5 n.b.length c5) n.b.length (n.b.map (Value.int .i64))) := ownsRow_base (ownsRow_below HO6.out (below1 _ _) (Nat.le_refl _)) (by omega)
      clear HG HG6 HO6 HV6 HB6
      go_wp2_with (at_builtin; refine wpList_append_own_src _ rfl (.tmp 32) (.tmp 34) 29 29 rfl (w0.heap.size + 1) 57 i2 _ 5 56 Try.underlying29 ni nz0 nz1 nz2 rfl _ _ _ rfl HG7.out.nod.row _ 1 (encU (n, .slice a5 n.b.length c5)) rfl HS7.out (by unfold maxLen; omega) (by omega) HG7.out.size ?_)
      intro v8 w8 ho8 hg8
      obtain ⟨a8, c8, rfl⟩ := ownSliceD ho8
      have HN8 : Hid (GrInv w0 (w8.setCell ⟨Q, 0, none⟩ (.slice a8 (M.length + 1) c8)) Q (.slice a8 (M.length + 1) c8) (.slice ad F.ds.length cd) (M ++ [(n, .slice a5 n.b.length c5)]) F.ds) := HG7.out.node HO7.out HLOW.out (by rw [hz0]; exact ho8) hg8
      have y2 := (HG7.out.varNode hg8).cell 0
      simp at y2
      have z2 := (HG7.out.varNode hg8).frozen 0
      clear HG7 HS7 HO7 HLOW ho8 hg8 m0 m1 m2 m3 m4 x0
      go_wp2
      go_roundw
      case rel => exact ⟨k + 1, _, M ++ [(n, .slice a5 n.b.length c5)], by go_num, by omega, HMK.out _ rfl, HN8⟩
      case measure => simp [intOf]; omega
    · obtain rfl : k = F.ns.length := by omega
      have hM := HM.out
      have hG := HG.out
      rw [List.take_length] at hM
      obtain ⟨an, cn, rfl⟩ := ownSliceD hG.nod.row
      have hm0 := hG.var.cell 0
      have hm1 := hG.var.cell 1
      have r0 := hG.res.cell 0
      have f0 := hG.res.frozen 0
      have r1 := (hG.res.set 0 (.slice an M.length cn)).cell 1
      have f1 := (hG.res.set 0 (.slice an M.length cn)).frozen 1
      simp at hm0 hm1 r0 r1
      obtain ⟨HD1, HD2, HD3⟩ := hG.done hM
      rw [hz0] at r0 f0 r1 f1 HD1 HD2 HD3
      have HE1 : Hid (Var ((wr.setCell ⟨w.heap.size + 1, 0, none⟩ (.slice an M.length cn)).setCell ⟨w.heap.size + 1, 1, none⟩ (.slice ad F.ds.length cd)) (w.heap.size + 1) #[.slice an M.length cn, .slice ad F.ds.length cd] 31) := HD1
      have HE2 : Hid (OwnFs ((wr.setCell ⟨w.heap.size + 1, 0, none⟩ (.slice an M.length cn)).setCell ⟨w.heap.size + 1, 1, none⟩ (.slice ad F.ds.length cd)) w.heap.size ((wr.setCell ⟨w.heap.size + 1, 0, none⟩ (.slice an M.length cn)).setCell ⟨w.heap.size + 1, 1, none⟩ (.slice ad F.ds.length cd)).heap.size (.agg #[.slice an M.length cn, .slice ad F.ds.length cd]) F) := HD2.base (by omega)
      have HE3 : Hid (Below w.heap.size w ((wr.setCell ⟨w.heap.size + 1, 0, none⟩ (.slice an M.length cn)).setCell ⟨w.heap.size + 1, 1, none⟩ (.slice ad F.ds.length cd))) := HB0.out.trans (HD3.mono (by omega))
      clear HD1 HD2 HD3 HM HG hM hG
      go_wp2
      refine bodyPost_ret (results_cell_row rfl _ _ (w.heap.size + 1) 31 #[.slice an M.length cn, .slice ad F.ds.length cd] (0, 0) _ rfl HE1.out Try.underlying31 rfl Try.sizeFs) rfl ?_
      exact ⟨_, rfl, HE2.out, HE3.out⟩
end Go.Proofs.Ytioecnfgliponaa
