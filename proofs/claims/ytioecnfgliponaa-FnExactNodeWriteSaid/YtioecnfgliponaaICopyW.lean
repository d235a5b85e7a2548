/-
  Own text: a copy of a branch, as the program makes it.
-/
import Derived.Test.YtioecnfgliponaaDataB
import Derived.Test.YtioecnfgliponaaCloneW
import Derived.Test.YtioecnfgliponaaHeldT
import Derived.Test.YtioecnfgliponaaAppAt
import Derived.Deep.DeepCutAuto
namespace Go.Proofs.Ytioecnfgliponaa
open Go.RowKit

set_option maxRecDepth 20000 in
set_option maxHeartbeats 8000000 in
theorem implFresh (P : Nat) (a b : Option Addr) (ca cb : Nat) (F : FsD) (w : World) (hsm : SmF F) (hP : P < w.heap.size) (hp0 : w.cell? ⟨P, 0, none⟩ = some (.slice a F.ns.length ca)) (hp1 : w.cell? ⟨P, 1, none⟩ = some (.slice b F.ds.length cb)) (r1 : RdNs w a F.ns) (r2 : RdS w b F.ds) :
    Calls Try.prog 58 #[.pointer (some ⟨P, 0, none⟩)] w fun e w' => ∃ u, e = .returned u ∧ OwnFs w' w.heap.size w'.heap.size u F ∧ Below w.heap.size w w' := by
  obtain ⟨i3, ii, iz0, iz1, iz2⟩ := info_parts Try.infoIntX
  obtain ⟨i2, ni, nz0, nz1, nz2⟩ := info_parts Try.infoNode
  obtain ⟨i1, gi, gz0, gz1, gz2⟩ := info_parts Try.infoTxtD
  obtain ⟨s1, s2, s3, s4⟩ := hsm
  have HNS : Hid (∀ W, Below w.heap.size w W → RdNs W a F.ns) := fun W h => r1.below h (Nat.le_refl _)
  have HDS : Hid (∀ W, Below w.heap.size w W → RdS W b F.ds) := fun W h => r2.below h (Nat.le_refl _)
  have HP0 : Hid (∀ W, Below w.heap.size w W → W.cell? ⟨P, 0, none⟩ = some (.slice a F.ns.length ca)) := fun W h => (h.cell hP).trans hp0
  have HP1 : Hid (∀ W, Below w.heap.size w W → W.cell? ⟨P, 1, none⟩ = some (.slice b F.ds.length cb)) := fun W h => (h.cell hP).trans hp1
  have HS2 : Hid (∀ n ∈ F.ns, n.b.length ≤ 1048576) := s2
  have HS4 : Hid (∀ s ∈ F.ds, s.size ≤ 1048576) := s4
  have hG0 : GrInv w ((w.alloc (.cells #[.slice none 0 0, .slice none 0 0] 31)).alloc (.cells #[.slice none 0 0, .slice none 0 0] 31)) (w.heap.size + 1) (.slice none 0 0) (.slice none 0 0) [] [] := by
    refine ⟨(Var.made w _ _).alloc _, Var.made2 w _ _ _, ⟨World.ownsRow_nil _ _ _ _, by simp, by simp, (fun j hj => by cases hj), by simp⟩, World.ownsRow_nil _ _ _ _, below2 _ _ _, by omega⟩
  have HG0 : Hid (GrInv w ((w.alloc (.cells #[.slice none 0 0, .slice none 0 0] 31)).alloc (.cells #[.slice none 0 0, .slice none 0 0] 31)) (w.heap.size + 1) (.slice none 0 0) (.slice none 0 0) [] []) := hG0
  have q0 := HP0.out _ hG0.bel
  clear r1 r2 s2 s4 hG0 hp0 hp1
  go_enter Try.func58, Try.ntmps58
  go_wp2
  clear q0
  go_loopw [13] (fun j wr => ∃ (k : Nat) (vn : Value) (M : List NodeU), j = .int .i64 k ∧ k ≤ F.ns.length ∧ Hid (M.map (·.1) = F.ns.take k) ∧ Hid (GrInv w wr (w.heap.size + 1) vn (.slice none 0 0) M [])) (fun j _ => F.ns.length - (intOf j).toNat)
  case atStart => exact ⟨0, .slice none 0 0, [], rfl, by omega, by rfl, HG0⟩
  case round =>
    obtain ⟨k, vn, M, rfl, hk, HM, HG⟩ := hrel
    clear HG0
    by_cases hlt : k < F.ns.length
    · have hBw : Below w.heap.size w wr := HG.out.bel
      obtain ⟨g, off, u, rfl, hblt, hru, c0, c1, c2, c3, c4⟩ := (HNS.out wr hBw).at k hlt
      have hnb := HS2.out _ (List.getElem_mem hlt)
      have HMK : Hid (∀ x : NodeU, x.1 = F.ns[k] → (M ++ [x]).map (·.1) = F.ns.take (k + 1)) := fun x hx => by rw [List.map_append, HM.out, List.take_succ_eq_append_getElem hlt]; simp [hx]
      have hMl : M.length = k := by have := congrArg List.length HM.out; simp at this; omega
      have hMle : M.length ≤ 1048576 := by omega
      clear hMl HM HDS HP0 HP1 HS2 HS4
      generalize F.ns[k] = n at *
      obtain ⟨ab, cc, rfl, hcb1, hcb2, hrb⟩ := hru
      have hlo : w.heap.size + 2 ≤ wr.heap.size := by have := HG.out.var.lt; omega
      obtain ⟨W', hW'⟩ : ∃ x, x = wr.alloc (.cells #[.int .i64 n.k, .int .i64 n.g, .int .i64 n.t, .int .i64 n.s, .slice ab n.b.length cc] 57) := ⟨_, rfl⟩
      have hzW : W'.heap.size = wr.heap.size + 1 := by rw [hW']; simp
      have hbW : Below wr.heap.size wr W' := by rw [hW']; exact below1 _ _
      have hVN : Var W' wr.heap.size #[.int .i64 n.k, .int .i64 n.g, .int .i64 n.t, .int .i64 n.s, .slice ab n.b.length cc] 57 := by rw [hW']; exact Var.made _ _ _
      have HS0 : Hid (Src Try.prog 1 53 (.slice ab n.b.length cc) n.b.length (n.b.map (Value.int .i64)) W') := srcIntD cc (hrb.below hbW (Nat.le_refl _))
      have HO0 : Hid (W'.ownsRow (wr.heap.size + 1) 3 1 (.slice none 0 0) 0 []) := World.ownsRow_nil _ _ _ _
      have HVN : Hid (∀ W, Below (wr.heap.size + 1) W' W → Var W wr.heap.size #[.int .i64 n.k, .int .i64 n.g, .int .i64 n.t, .int .i64 n.s, .slice ab n.b.length cc] 57 ∧ Below wr.heap.size wr W) := fun W h => ⟨hVN.below h (by omega), hbW.trans (h.mono (by omega))⟩
      have hsz2 : wr.heap.size + 1 ≤ W'.heap.size := by omega
      have m4 := hVN.cell 4
      simp at m4
      subst hW'
      clear hzW hbW hVN hrb hcb1 hcb2
      go_wp2_with (at_builtin; refine wpList_append_own_src _ rfl _ (.tmp 18) 53 53 rfl (wr.heap.size + 1) 3 i3 (.int .i64 0) 1 8 Try.underlying53 ii iz0 iz1 iz2 rfl _ _ _ rfl HO0.out _ n.b.length (n.b.map (Value.int .i64)) rfl HS0.out (by unfold maxLen; omega) (by omega) hsz2 ?_)
      intro v5 w5 ho5 hg5
      obtain ⟨a5, c5, rfl⟩ := ownSliceD ho5
      have hb5 := (Only.of_grown hg5).below (B := wr.heap.size + 1) hsz2 (fun k hk => by cases hk)
      obtain ⟨hV5, hbr5⟩ := HVN.out w5 hb5
      have ho5' : w5.ownsRow (wr.heap.size + 1) 3 1 (.slice a5 n.b.length c5) n.b.length (n.b.map (Value.int .i64)) := by simpa using ho5
      clear m4
      have m4 := hV5.cell 4
      have f4 := hV5.frozen 4
      simp at m4
      have hV6 := hV5.set 4 (.slice a5 n.b.length c5)
      simp at hV6
      have hbr6 : Below wr.heap.size wr (w5.setCell ⟨wr.heap.size, 4, none⟩ (.slice a5 n.b.length c5)) := hbr5.setCell (Nat.le_refl _) _
      have ho6 := own_set ho5' (Q := wr.heap.size) (by omega) 4 (.slice a5 n.b.length c5)
      have HV6 : Hid (Var (w5.setCell ⟨wr.heap.size, 4, none⟩ (.slice a5 n.b.length c5)) wr.heap.size #[.int .i64 n.k, .int .i64 n.g, .int .i64 n.t, .int .i64 n.s, .slice a5 n.b.length c5] 57) := hV6
      have HB6 : Hid (Below wr.heap.size wr (w5.setCell ⟨wr.heap.size, 4, none⟩ (.slice a5 n.b.length c5))) := hbr6
      have HO6 : Hid ((w5.setCell ⟨wr.heap.size, 4, none⟩ (.slice a5 n.b.length c5)).ownsRow (wr.heap.size + 1) 3 1 (.slice a5 n.b.length c5) n.b.length (n.b.map (Value.int .i64))) := ho6
      clear hV5 hbr5 hV6 hbr6 ho6 ho5 ho5' hb5 hg5 HVN HO0 HS0 hsz2 c0 c1 c2 c3 c4
      go_upto_region 6 with fail
      clear m4 f4
      generalize w5.setCell ⟨wr.heap.size, 4, none⟩ (.slice a5 n.b.length c5) = w6 at *
      have HG6 : Hid (GrInv w w6 (w.heap.size + 1) vn (.slice none 0 0) M []) := HG.out.new HB6.out
      have HLOW : Hid (∀ y ∈ M, ∀ j, blk y.2 j → ¬ blk (.slice a5 n.b.length c5) j) := fun y hy j h1 h2 => by
        have e1 := HG.out.nod.low y hy j h1
        have e2 := (HO6.out.lt j h2).1
        omega
      have m0 := HV6.out.cell 0
      have m1 := HV6.out.cell 1
      have m2 := HV6.out.cell 2
      have m3 := HV6.out.cell 3
      have m4 := HV6.out.cell 4
      have x0 := HG6.out.var.cell 0
      simp at m0 m1 m2 m3 m4 x0
      obtain ⟨an, cn, rfl⟩ := ownSliceD HG6.out.nod.row
      have HS7 : Hid (Src Try.prog 5 29 (.slice (some ⟨w6.heap.size, 0, none⟩) 1 1) 1 (encU (n, .slice a5 n.b.length c5)) (w6.alloc (.cells #[.int .i64 n.k, .int .i64 n.g, .int .i64 n.t, .int .i64 n.s, .slice a5 n.b.length c5] 57))) := srcNode w6 n a5 n.b.length c5
      have HG7 : Hid (GrInv w (w6.alloc (.cells #[.int .i64 n.k, .int .i64 n.g, .int .i64 n.t, .int .i64 n.s, .slice a5 n.b.length c5] 57)) (w.heap.size + 1) (.slice an M.length cn) (.slice none 0 0) M []) := HG6.out.new (below1 _ _)
      have HO7 : Hid ((w6.alloc (.cells #[.int .i64 n.k, .int .i64 n.g, .int .i64 n.t, .int .i64 n.s, .slice a5 n.b.length c5] 57)).ownsRow (w.heap.size + 1) 3 1 (.slice a5 n.b.length c5) n.b.length (n.b.map (Value.int .i64))) := ownsRow_base (ownsRow_below HO6.out (below1 _ _) (Nat.le_refl _)) (by omega)
      clear HG HG6 HO6 HV6 HB6
      go_wp2_with (at_builtin; refine wpList_append_own_src _ rfl (.tmp 22) (.tmp 24) 29 29 rfl (w.heap.size + 1) 57 i2 _ 5 56 Try.underlying29 ni nz0 nz1 nz2 rfl _ _ _ rfl HG7.out.nod.row _ 1 (encU (n, .slice a5 n.b.length c5)) rfl HS7.out (by unfold maxLen; omega) (by omega) HG7.out.size ?_)
      intro v8 w8 ho8 hg8
      obtain ⟨a8, c8, rfl⟩ := ownSliceD ho8
      have HN8 : Hid (GrInv w (w8.setCell ⟨w.heap.size + 1, 0, none⟩ (.slice a8 (M.length + 1) c8)) (w.heap.size + 1) (.slice a8 (M.length + 1) c8) (.slice none 0 0) (M ++ [(n, .slice a5 n.b.length c5)]) []) := HG7.out.node HO7.out HLOW.out ho8 hg8
      have y2 := (HG7.out.varNode hg8).cell 0
      simp at y2
      have z2 := (HG7.out.varNode hg8).frozen 0
      clear HG7 HS7 HO7 HLOW ho8 hg8 m0 m1 m2 m3 m4 x0
      go_wp2
      go_roundw
      case rel => exact ⟨k + 1, _, M ++ [(n, .slice a5 n.b.length c5)], by go_num, by omega, HMK.out _ rfl, HN8⟩
      case measure => simp [intOf]; omega
    obtain rfl : k = F.ns.length := by omega
    have HM2 : Hid (M.map (·.1) = F.ns) := by have := HM.out; rw [List.take_length] at this; exact this
    have q1 := HP1.out _ HG.out.bel
    clear HM HNS HP0 HS2
    go_wp2
    clear q1
    go_loopw [33] (fun j wr => ∃ (k : Nat) (vd : Value), j = .int .i64 k ∧ k ≤ F.ds.length ∧ Hid (GrInv w wr (w.heap.size + 1) vn vd M (F.ds.take k))) (fun j _ => F.ds.length - (intOf j).toNat)
    case atStart => exact ⟨0, .slice none 0 0, rfl, by omega, HG⟩
    case round =>
      obtain ⟨k, vd, rfl, hk, HG'⟩ := hrel
      clear HG
      have HG := HG'
      clear HG'
      by_cases hlt : k < F.ds.length
      · obtain ⟨g, off, rfl, hg', hcd⟩ := (HDS.out _ (Below.refl _ _)).cellT k hlt
        have d0 := (HG.out.bel.cell (p := ⟨g, off + k, none⟩) hg').trans hcd
        have hsz := HS4.out _ (List.getElem_mem hlt)
        have HRT : Hid (F.ds.take (k + 1) = F.ds.take k ++ [F.ds[k]]) := List.take_succ_eq_append_getElem hlt
        have hDl : (F.ds.take k).length ≤ 1048576 := by simp; omega
        clear hcd
        generalize F.ds[k] = s at *
        have HREL : Hid (∀ v5 W5, Hid (GrInv w W5 (w.heap.size + 1) vn v5 M (F.ds.take k ++ [s])) → ∃ (k' : Nat) (vd' : Value), Value.int .i64 ((k : Int) + 1) = .int .i64 k' ∧ k' ≤ F.ds.length ∧ Hid (GrInv w W5 (w.heap.size + 1) vn vd' M (F.ds.take k'))) := by
          intro v5 W5 h
          refine ⟨k + 1, v5, by go_num, by omega, ?_⟩
          rw [HRT.out]; exact h
        clear HRT HDS HP1 HS4 HM2
        generalize F.ds.take k = D at *
        go_upto_region 11 with fail
        clear d0
        refine wp_region_noPanic ?_
        refine wp_region_held_drew (S := fun _ => True) (by kernel_rfl) trivial (fun hT => ?_)
        clear hT
        have HGd : Hid (GrInv w wr.drew (w.heap.size + 1) vn vd M D) := HG.out.new ((Below.refl _ _).drew)
        clear HG
        have HG := HGd
        clear HGd
        generalize wr.drew = WD at *
--GEN
        refine held_take (i := 0) (v := .pointer (some ⟨w.heap.size + 1, 1, none⟩)) rfl rfl (by kernel_rfl) (by kernel_rfl) (by kernel_rfl) (by kernel_rfl) (fun W _ => by go_simp) trivial ?_
        simp only [Act.put, List.setIfInBounds_toArray, List.set_cons_zero, List.set_cons_succ]
        refine held_take (i := 2) (v := .string s) rfl rfl (by kernel_rfl) (by kernel_rfl) (by kernel_rfl) (by kernel_rfl) (fun W _ => by go_simp) trivial ?_
        simp only [Act.put, List.setIfInBounds_toArray, List.set_cons_zero, List.set_cons_succ]
        refine wpAnyH_ready (rs := [1, 3]) (by kernel_rfl) (by simp) (AllReadyH.cons rfl (fun K hK => ?_) (AllReadyH.cons rfl (fun K hK => ?_) AllReadyH.nil))
        · skip
          have y1 := HG.out.var.cell 1
          simp at y1
          go_simp
          refine hK.out _ _ trivial (fun hT => ?_)
          clear hK K hT
          try simp only [Act.put, List.setIfInBounds_toArray, List.set_cons_zero, List.set_cons_succ]
          clear y1
          refine wpAnyH_ready (rs := [3]) (by kernel_rfl) (by simp) (AllReadyH.cons rfl (fun K hK => ?_) AllReadyH.nil)
          go_simp
          refine (cloneT s _ (by omega)).mono ?_
          rintro e w2 ⟨rfl, hbc⟩
          have HGn : Hid (GrInv w w2 (w.heap.size + 1) vn vd M D) := HG.out.new hbc
          refine hK.out _ _ trivial (fun hT => ?_)
          clear hK K hT
          try simp only [Act.put, List.setIfInBounds_toArray, List.set_cons_zero, List.set_cons_succ]
          clear HG hbc
          have HG := HGn
          clear HGn
          refine wpAnyH_ready (rs := [4]) (by kernel_rfl) (by simp) (AllReadyH.cons rfl (fun K hK => ?_) AllReadyH.nil)
          go_simp
          have HGn : Hid (GrInv w (w2.alloc (.cells #[.string s] 9)) (w.heap.size + 1) vn vd M D) := HG.out.new (below1 _ _)
          have HS : Hid (Src Try.prog 1 23 (.slice (some ⟨w2.heap.size, 0, none⟩) 1 1) 1 ([s].map Value.string) (w2.alloc (.cells #[.string s] 9))) := srcOneD Try.underlying23 w2 (.string s) rfl
          refine hK.out _ _ trivial (fun hT => ?_)
          clear hK K hT
          try simp only [Act.put, List.setIfInBounds_toArray, List.set_cons_zero, List.set_cons_succ]
          clear HG
          have HG := HGn
          clear HGn
          generalize w2.alloc (.cells #[.string s] 9) = W3 at *
          refine wpAnyH_ready (rs := [5]) (by kernel_rfl) (by simp) (AllReadyH.cons rfl (fun K hK => ?_) AllReadyH.nil)
          refine step_own_srcN W3 rfl (.tmp 38) (.tmp 41) 23 23 rfl (w.heap.size + 1) 9 i1 (.string ⟨#[]⟩) 1 16 Try.underlying23 gi gz0 gz1 gz2 rfl vd D.length (D.map Value.string) (.slice (some ⟨w2.heap.size, 0, none⟩) 1 1) 1 ([s].map Value.string) (by unfold maxLen; omega) (by omega) (by simp [Act.eval]) (by simp [Act.eval]) HG.out.txt HS.out HG.out.size ?_
          intro v5 w5 ho5 hg5
          obtain ⟨a5, c5, rfl⟩ := ownSliceD ho5
          have HN5 : Hid (GrInv w (w5.setCell ⟨w.heap.size + 1, 1, none⟩ (.slice a5 (D.length + 1) c5)) (w.heap.size + 1) vn (.slice a5 (D.length + 1) c5) M (D ++ [s])) := HG.out.text ho5 hg5
          have y2 := (HG.out.varText hg5).cell 1
          simp at y2
          have z2 := (HG.out.varText hg5).frozen 1
          refine hK.out _ _ trivial (fun hT => ?_)
          clear hK K hT
          simp only [Act.put, List.setIfInBounds_toArray]
          clear HG HS ho5 hg5
          refine held_take (i := 6) (v := .pointer (some ⟨w.heap.size + 1, 1, none⟩)) rfl rfl (by kernel_rfl) (by kernel_rfl) (by kernel_rfl) (by kernel_rfl) (fun W _ => by go_simp) trivial ?_
          simp only [Act.put]
          refine wpAnyH_ready (rs := [7]) (by kernel_rfl) (by simp) (AllReadyH.cons rfl (fun K hK => ?_) AllReadyH.nil)
          go_simp
          refine hK.out _ _ trivial (fun hT => ?_)
          clear hK K hT
          try simp only [Act.put, List.setIfInBounds_toArray, List.set_cons_zero, List.set_cons_succ]
          clear y2 z2
          refine wpAnyH_done (by kernel_rfl) ?_ _
          simp only [NoPanic]
          go_wp2
          go_roundw
          case rel => exact HREL.out _ _ HN5
          case measure => simp [intOf]; omega
        · skip
          go_simp
          refine (cloneT s _ (by omega)).mono ?_
          rintro e w2 ⟨rfl, hbc⟩
          have HGn : Hid (GrInv w w2 (w.heap.size + 1) vn vd M D) := HG.out.new hbc
          refine hK.out _ _ trivial (fun hT => ?_)
          clear hK K hT
          try simp only [Act.put, List.setIfInBounds_toArray, List.set_cons_zero, List.set_cons_succ]
          clear HG hbc
          have HG := HGn
          clear HGn
          refine wpAnyH_ready (rs := [1, 4]) (by kernel_rfl) (by simp) (AllReadyH.cons rfl (fun K hK => ?_) (AllReadyH.cons rfl (fun K hK => ?_) AllReadyH.nil))
          · skip
            have y1 := HG.out.var.cell 1
            simp at y1
            go_simp
            refine hK.out _ _ trivial (fun hT => ?_)
            clear hK K hT
            try simp only [Act.put, List.setIfInBounds_toArray, List.set_cons_zero, List.set_cons_succ]
            clear y1
            refine wpAnyH_ready (rs := [4]) (by kernel_rfl) (by simp) (AllReadyH.cons rfl (fun K hK => ?_) AllReadyH.nil)
            go_simp
            have HGn : Hid (GrInv w (w2.alloc (.cells #[.string s] 9)) (w.heap.size + 1) vn vd M D) := HG.out.new (below1 _ _)
            have HS : Hid (Src Try.prog 1 23 (.slice (some ⟨w2.heap.size, 0, none⟩) 1 1) 1 ([s].map Value.string) (w2.alloc (.cells #[.string s] 9))) := srcOneD Try.underlying23 w2 (.string s) rfl
            refine hK.out _ _ trivial (fun hT => ?_)
            clear hK K hT
            try simp only [Act.put, List.setIfInBounds_toArray, List.set_cons_zero, List.set_cons_succ]
            clear HG
            have HG := HGn
            clear HGn
            generalize w2.alloc (.cells #[.string s] 9) = W3 at *
            refine wpAnyH_ready (rs := [5]) (by kernel_rfl) (by simp) (AllReadyH.cons rfl (fun K hK => ?_) AllReadyH.nil)
            refine step_own_srcN W3 rfl (.tmp 38) (.tmp 41) 23 23 rfl (w.heap.size + 1) 9 i1 (.string ⟨#[]⟩) 1 16 Try.underlying23 gi gz0 gz1 gz2 rfl vd D.length (D.map Value.string) (.slice (some ⟨w2.heap.size, 0, none⟩) 1 1) 1 ([s].map Value.string) (by unfold maxLen; omega) (by omega) (by simp [Act.eval]) (by simp [Act.eval]) HG.out.txt HS.out HG.out.size ?_
            intro v5 w5 ho5 hg5
            obtain ⟨a5, c5, rfl⟩ := ownSliceD ho5
            have HN5 : Hid (GrInv w (w5.setCell ⟨w.heap.size + 1, 1, none⟩ (.slice a5 (D.length + 1) c5)) (w.heap.size + 1) vn (.slice a5 (D.length + 1) c5) M (D ++ [s])) := HG.out.text ho5 hg5
            have y2 := (HG.out.varText hg5).cell 1
            simp at y2
            have z2 := (HG.out.varText hg5).frozen 1
            refine hK.out _ _ trivial (fun hT => ?_)
            clear hK K hT
            simp only [Act.put, List.setIfInBounds_toArray]
            clear HG HS ho5 hg5
            refine held_take (i := 6) (v := .pointer (some ⟨w.heap.size + 1, 1, none⟩)) rfl rfl (by kernel_rfl) (by kernel_rfl) (by kernel_rfl) (by kernel_rfl) (fun W _ => by go_simp) trivial ?_
            simp only [Act.put]
            refine wpAnyH_ready (rs := [7]) (by kernel_rfl) (by simp) (AllReadyH.cons rfl (fun K hK => ?_) AllReadyH.nil)
            go_simp
            refine hK.out _ _ trivial (fun hT => ?_)
            clear hK K hT
            try simp only [Act.put, List.setIfInBounds_toArray, List.set_cons_zero, List.set_cons_succ]
            clear y2 z2
            refine wpAnyH_done (by kernel_rfl) ?_ _
            simp only [NoPanic]
            go_wp2
            go_roundw
            case rel => exact HREL.out _ _ HN5
            case measure => simp [intOf]; omega
          · skip
            go_simp
            have HGn : Hid (GrInv w (w2.alloc (.cells #[.string s] 9)) (w.heap.size + 1) vn vd M D) := HG.out.new (below1 _ _)
            have HS : Hid (Src Try.prog 1 23 (.slice (some ⟨w2.heap.size, 0, none⟩) 1 1) 1 ([s].map Value.string) (w2.alloc (.cells #[.string s] 9))) := srcOneD Try.underlying23 w2 (.string s) rfl
            refine hK.out _ _ trivial (fun hT => ?_)
            clear hK K hT
            try simp only [Act.put, List.setIfInBounds_toArray, List.set_cons_zero, List.set_cons_succ]
            clear HG
            have HG := HGn
            clear HGn
            generalize w2.alloc (.cells #[.string s] 9) = W3 at *
            refine wpAnyH_ready (rs := [1]) (by kernel_rfl) (by simp) (AllReadyH.cons rfl (fun K hK => ?_) AllReadyH.nil)
            have y1 := HG.out.var.cell 1
            simp at y1
            go_simp
            refine hK.out _ _ trivial (fun hT => ?_)
            clear hK K hT
            try simp only [Act.put, List.setIfInBounds_toArray, List.set_cons_zero, List.set_cons_succ]
            clear y1
            refine wpAnyH_ready (rs := [5]) (by kernel_rfl) (by simp) (AllReadyH.cons rfl (fun K hK => ?_) AllReadyH.nil)
            refine step_own_srcN W3 rfl (.tmp 38) (.tmp 41) 23 23 rfl (w.heap.size + 1) 9 i1 (.string ⟨#[]⟩) 1 16 Try.underlying23 gi gz0 gz1 gz2 rfl vd D.length (D.map Value.string) (.slice (some ⟨w2.heap.size, 0, none⟩) 1 1) 1 ([s].map Value.string) (by unfold maxLen; omega) (by omega) (by simp [Act.eval]) (by simp [Act.eval]) HG.out.txt HS.out HG.out.size ?_
            intro v5 w5 ho5 hg5
            obtain ⟨a5, c5, rfl⟩ := ownSliceD ho5
            have HN5 : Hid (GrInv w (w5.setCell ⟨w.heap.size + 1, 1, none⟩ (.slice a5 (D.length + 1) c5)) (w.heap.size + 1) vn (.slice a5 (D.length + 1) c5) M (D ++ [s])) := HG.out.text ho5 hg5
            have y2 := (HG.out.varText hg5).cell 1
            simp at y2
            have z2 := (HG.out.varText hg5).frozen 1
            refine hK.out _ _ trivial (fun hT => ?_)
            clear hK K hT
            simp only [Act.put, List.setIfInBounds_toArray]
            clear HG HS ho5 hg5
            refine held_take (i := 6) (v := .pointer (some ⟨w.heap.size + 1, 1, none⟩)) rfl rfl (by kernel_rfl) (by kernel_rfl) (by kernel_rfl) (by kernel_rfl) (fun W _ => by go_simp) trivial ?_
            simp only [Act.put]
            refine wpAnyH_ready (rs := [7]) (by kernel_rfl) (by simp) (AllReadyH.cons rfl (fun K hK => ?_) AllReadyH.nil)
            go_simp
            refine hK.out _ _ trivial (fun hT => ?_)
            clear hK K hT
            try simp only [Act.put, List.setIfInBounds_toArray, List.set_cons_zero, List.set_cons_succ]
            clear y2 z2
            refine wpAnyH_done (by kernel_rfl) ?_ _
            simp only [NoPanic]
            go_wp2
            go_roundw
            case rel => exact HREL.out _ _ HN5
            case measure => simp [intOf]; omega
--GENEND
      · obtain rfl : k = F.ds.length := by omega
        have hM := HM2.out
        have hG := HG.out
        rw [List.take_length] at hG
        obtain ⟨an, cn, rfl⟩ := ownSliceD hG.nod.row
        obtain ⟨ad, cd, rfl⟩ := ownSliceD hG.txt
        have hm0 := hG.var.cell 0
        have hm1 := hG.var.cell 1
        have r0 := hG.res.cell 0
        have f0 := hG.res.frozen 0
        have r1 := (hG.res.set 0 (.slice an M.length cn)).cell 1
        have f1 := (hG.res.set 0 (.slice an M.length cn)).frozen 1
        simp at hm0 hm1 r0 r1
        obtain ⟨HD1, HD2, HD3⟩ := hG.done hM
        have HE1 : Hid (Var ((wr.setCell ⟨w.heap.size, 0, none⟩ (.slice an M.length cn)).setCell ⟨w.heap.size, 1, none⟩ (.slice ad F.ds.length cd)) w.heap.size #[.slice an M.length cn, .slice ad F.ds.length cd] 31) := HD1
        have HE2 : Hid (OwnFs ((wr.setCell ⟨w.heap.size, 0, none⟩ (.slice an M.length cn)).setCell ⟨w.heap.size, 1, none⟩ (.slice ad F.ds.length cd)) w.heap.size ((wr.setCell ⟨w.heap.size, 0, none⟩ (.slice an M.length cn)).setCell ⟨w.heap.size, 1, none⟩ (.slice ad F.ds.length cd)).heap.size (.agg #[.slice an M.length cn, .slice ad F.ds.length cd]) F) := HD2
        have HE3 : Hid (Below w.heap.size w ((wr.setCell ⟨w.heap.size, 0, none⟩ (.slice an M.length cn)).setCell ⟨w.heap.size, 1, none⟩ (.slice ad F.ds.length cd))) := HD3
        clear HD1 HD2 HD3 HM2 HG hM hG
        go_wp2
        refine bodyPost_ret (results_cell_row rfl _ _ w.heap.size 31 #[.slice an M.length cn, .slice ad F.ds.length cd] (0, 0) _ rfl HE1.out Try.underlying31 rfl Try.sizeFs) rfl ?_
        exact ⟨_, rfl, HE2.out, HE3.out⟩
end Go.Proofs.Ytioecnfgliponaa
