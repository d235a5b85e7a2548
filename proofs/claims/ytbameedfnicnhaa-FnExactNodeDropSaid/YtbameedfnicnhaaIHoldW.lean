/-
  Own text: what a node holds is laid anew, by the program.
-/
import Derived.Test.YtbameedfnicnhaaHoB
import Derived.Deep.RegionHeld3
namespace Go.Proofs.Ytbameedfnicnhaa
open Go.RowKit

theorem MuF.rdT {W : World} {lo Q g gd N D ca cb : Nat} {M : List NodeU} {ds : List ByteArray} (h : MuF W lo Q g gd N D ca cb M ds) : RdS W (some ⟨gd, 0, none⟩) ds := by
  obtain ⟨a, c, he, _, hr⟩ := own_rdS h.txt
  injection he with he _ _
  rw [he]; exact hr
theorem MuF.vcells {W : World} {lo Q g gd N D ca cb : Nat} {M : List NodeU} {ds : List ByteArray} (h : MuF W lo Q g gd N D ca cb M ds) : W.cell? ⟨Q, 0, none⟩ = some (.slice (some ⟨g, 0, none⟩) N ca) ∧ W.cell? ⟨Q, 1, none⟩ = some (.slice (some ⟨gd, 0, none⟩) D cb) :=
  ⟨(h.var.cell 0).trans rfl, (h.var.cell 1).trans rfl⟩
theorem HoInv.cell4 {w W : World} {lo P g gd N D ca cb i : Nat} {M : List NodeU} {y : NodeD} {u : Value} {ds : List ByteArray} (h : HoInv w W lo P g gd N D ca cb i M y u ds) (hi : i < M.length) : W.cell? ⟨g, i * 5 + 4, none⟩ = some u := by
  have hl : i < (M.set i (y, u)).length := by simpa using hi
  have := (h.mu.celln hl).2.2.2.2
  rw [List.getElem_set_self] at this
  exact this
theorem HoInv.grown4 {w W W' : World} {lo P g gd N D ca cb i : Nat} {M : List NodeU} {y : NodeD} {u : Value} {ds : List ByteArray} (h : HoInv w W lo P g gd N D ca cb i M y u ds) (hi : i < M.length) (hg : W.grownBy W' u.ownBlock) : W'.cell? ⟨g, i * 5 + 4, none⟩ = some u ∧ W'.frozen? ⟨g, i * 5 + 4, none⟩ = false := by
  have hO := Only.of_grown hg
  have hne : ¬ u.ownBlock = some g := fun e => own_apart h.own h.mu.nod.row (by decide) g e rfl
  refine ⟨(hO.cell (p := ⟨g, i * 5 + 4, none⟩) h.mu.in_g.2 hne).trans (h.cell4 hi), ?_⟩
  have := World.frozen?_of_block (w := W) (w' := W') (a := ⟨g, i * 5 + 4, none⟩) (hO.block g h.mu.in_g.2 hne)
  rw [this]; exact h.mu.fz _

set_option maxRecDepth 20000 in
set_option maxHeartbeats 8000000 in
theorem implHold (lo P g gd ca cb k : Nat) (M : List NodeU) (F : FsD) (d : ByteArray) (w : World) (hm : MuF w lo P g gd F.ns.length F.ds.length ca cb M F.ds) (hM : M.map (·.1) = F.ns) (hu : UsP F (k : Int)) (hd : d.size ≤ 80) :
    Calls Try.prog 37 #[.pointer (some ⟨P, 0, none⟩), .pointer (some ⟨g, k * 5, none⟩), .string d] w fun e w' => e = .returned (.bool (decide (needN d ≤ (allW F (k : Int)).length))) ∧ (needN d ≤ (allW F (k : Int)).length → ∃ M' : List NodeU, M'.map (·.1) = F.ns.set k (wrN F (k : Int) d) ∧ MuF w' lo P g gd F.ns.length F.ds.length ca cb M' (heldDs F (k : Int) d)) ∧ Only (fun q => q = g ∨ q = gd ∨ w.heap.size ≤ q) w w' := by
  obtain ⟨i3, ii, iz0, iz1, iz2⟩ := info_parts Try.infoIntH
  have hk : k < F.ns.length := by simpa using hu.2.2.1
  have hkM : k < M.length := by rw [← hM] at hk; simpa using hk
  have hMk : M[k].1 = F.ns[k] := by simp only [← hM, List.getElem_map]
  have hlow : ∀ z ∈ M, ∀ j, blk z.2 j → j < w.heap.size := fun z hz j hj => hm.nod.low z hz j hj
  have hlo : lo ≤ w.heap.size := by have := hm.in_g; omega
  have hd36 : F.ds.length ≤ 36 := hu.1.1.2.2.2
  have hbl : F.ns[k].b.length ≤ 5 := by have := hu.nod.len; rw [ndAt_nat hk] at this; exact this
  obtain ⟨ab, cc, hMs, hcl, _, hrb⟩ := RdU.own (hm.nod.inn _ (List.getElem_mem hkM))
  have hgx : ∀ j, blk M[k].2 j → j ≠ g ∧ j ≠ gd := fun j hj => ⟨fun e => own_apart (hm.nod.inn _ (List.getElem_mem hkM)) hm.nod.row (by decide) j hj (by rw [e]; rfl), fun e => own_apart (hm.nod.inn _ (List.getElem_mem hkM)) hm.txt (by decide) j hj (by rw [e]; rfl)⟩
  have HLR : Hid (∀ W, Only (fun q => q = g ∨ q = gd ∨ w.heap.size ≤ q) w W → Rd .i64 W ab F.ns[k].b) := fun W hO => by
    have h1 := own_only (hm.nod.inn _ (List.getElem_mem hkM)) hO (fun j hj e => by
      have h2 := hgx j hj
      have h3 := hlow _ (List.getElem_mem hkM) j hj
      omega)
    obtain ⟨ab', cc', hMs', _, _, hrb'⟩ := RdU.own h1
    rw [hMs] at hMs'
    injection hMs' with e1 _ _
    rw [e1, ← hMk]; exact hrb'
  have HST := HoInv.start (n := d.size) hm hkM
  rw [hMk] at HST hMs hcl
  have HAL : Hid (∀ x ∈ allW F (k : Int), 0 ≤ x ∧ x.toNat < F.ds.length) := fun x hx => allW_at hu hx
  have HAP : Hid (∀ j (hj : j < F.ns[k].b.length), (allW F (k : Int))[j]? = some F.ns[k].b[j]) := fun j hj => by
    unfold allW
    rw [ndAt_nat hk, List.getElem?_append_left hj, List.getElem?_eq_getElem hj]
  have hll : F.ns[k].b.length ≤ (allW F (k : Int)).length := by unfold allW; rw [ndAt_nat hk, List.length_append]; omega
  have HFI : Hid (∀ j, j ≤ needN d → j ≤ (allW F (k : Int)).length → F.ns[k].b.length ≤ j → firstE (putN (allW F (k : Int)) d F.ds j) = ((allW F (k : Int))[j]?).getD (-1)) := fun j h1 h2 h3 => first_put hu h1 h2 (by rw [ndAt_nat hk]; exact h3)
  have HWN : Hid (wrN F (k : Int) d = ⟨F.ns[k].k, F.ns[k].g, F.ns[k].t, (d.size : Nat), (allW F (k : Int)).take (needN d)⟩) := by show _ = _; unfold wrN; rw [ndAt_nat hk]
  have HHD : Hid (heldDs F (k : Int) d = clrN (F.ns[k].b.drop (needN d)) (putN (allW F (k : Int)) d F.ds (needN d)) (F.ns[k].b.drop (needN d)).length) := by show _ = _; unfold heldDs restB; rw [ndAt_nat hk]
  have HMM : Hid (∀ (y : NodeD) (u : Value), (M.set k (y, u)).map (·.1) = F.ns.set k y) := fun y u => by rw [List.map_set, hM]
  have HRX : Hid (∀ x ∈ F.ns[k].b, 0 ≤ x ∧ x.toNat < F.ds.length) := fun x hx => by
    have := hu.blk x (by rw [ndAt_nat hk]; exact hx)
    exact ⟨this.1, this.2.1⟩
  have HNE : Hid (∀ j : Nat, 16 * j < d.size ↔ j < needN d) := fun j => by unfold needN; omega
  have hn5 : needN d ≤ 5 := by unfold needN; omega
  have c4 := (hm.celln hkM).2.2.2.2
  have c3 := (hm.celln hkM).2.2.2.1
  rw [hMs] at c4
  have f3 := hm.fz (k * 5 + 3)
  have f4 := hm.fz (k * 5 + 4)
  have HLOW : Hid (∀ z ∈ M, ∀ j, blk z.2 j → j < w.heap.size) := hlow
  have HI0 : Hid (HoInv w ((w.setCell ⟨g, k * 5 + 3, none⟩ (.int .i64 (d.size : Nat))).setCell ⟨g, k * 5 + 4, none⟩ (.slice none 0 0)) lo P g gd F.ns.length F.ds.length ca cb k M ⟨F.ns[k].k, F.ns[k].g, F.ns[k].t, (d.size : Nat), []⟩ (.slice none 0 0) F.ds) := HST
  clear hu hM hm hrb HST hlow hgx hMs hMk
  generalize hALL : allW F (k : Int) = AL at *
  clear hALL
  generalize F.ns[k] = n at *
  clear hk
  go_enter Try.func37, Try.ntmps37
  go_upto_region 3 with fail
  clear c3 c4 f3 f4
  generalize (w.setCell ⟨g, k * 5 + 3, none⟩ (.int .i64 (d.size : Nat))).setCell ⟨g, k * 5 + 4, none⟩ (.slice none 0 0) = W0 at *
  go_wp2
  go_loopw [7, 8] (fun l f wr => ∃ (j : Nat) (al : Option Addr) (cl : Nat) (u : Value), l = .slice al (n.b.drop j).length cl ∧ f = .int .i64 ((16 * j : Nat) : Int) ∧ j ≤ needN d ∧ j ≤ AL.length ∧ (n.b.drop j).length ≤ cl ∧ Hid (∀ W, Only (fun q => q = g ∨ q = gd ∨ w.heap.size ≤ q) w W → Rd .i64 W al (n.b.drop j)) ∧ Hid (HoInv w wr lo P g gd F.ns.length F.ds.length ca cb k M ⟨n.k, n.g, n.t, (d.size : Nat), AL.take j⟩ u (putN AL d F.ds j))) (fun _ f _ => d.size - (intOf f).toNat)
  case atStart => exact ⟨0, ab, cc, .slice none 0 0, rfl, rfl, by omega, by omega, hcl, HLR, HI0⟩
  case round =>
    clear HI0 HLR
    obtain ⟨j, al, cl, u, rfl, rfl, hj, hjA, hcl', HLR, HI⟩ := hrel
    by_cases hlt : 16 * j < d.size
    · have hjn : j < needN d := (HNE.out j).1 hlt
      obtain ⟨v0, v1⟩ := HI.out.mu.vcells
      have hIX := indexE (some ⟨gd, 0, none⟩) cb (putN AL d F.ds j) wr (by rw [putN_len]; omega) HI.out.mu.rdT
      rw [putN_len] at hIX
      have HIX : Hid (Calls Try.prog 76 #[.slice (some ⟨gd, 0, none⟩) F.ds.length cb, .string ⟨#[]⟩] wr fun e w' => e = .returned (.int .i64 (firstE (putN AL d F.ds j))) ∧ w' = wr) := hIX
      clear hIX
      obtain ⟨T, hT⟩ : ∃ T, AL.take j = T := ⟨_, rfl⟩
      rw [hT] at HI
      have hTl : T.length ≤ 5 := by rw [← hT]; simp; omega
      have HTE : Hid (AL.take j = T) := hT
      clear hT
      by_cases hjL : j < n.b.length
      · have hx := HRX.out _ (List.getElem_mem hjL)
        obtain ⟨x, hxx⟩ := natOf hx.1
        have hxl : x < F.ds.length := by have := hx.2; rw [hxx] at this; simpa using this
        have HAJ : Hid (AL[j]? = some (x : Int)) := by show _ = _; rw [HAP.out j hjL, hxx]
        have hdr : n.b.drop j = (x : Int) :: n.b.drop (j + 1) := by rw [← hxx]; exact List.drop_eq_getElem_cons hjL
        have hrd := HLR.out wr HI.out.only
        rw [hdr] at hrd hcl'
        obtain ⟨ga, oa, rfl, hga, hca⟩ := hrd.cellI 0 (by simp)
        simp only [List.getElem_cons_zero, Nat.add_zero] at hca
        rw [List.length_cons] at hcl'
        obtain ⟨o, c', hcut, hor, hcc⟩ := cutI1 ga oa cl ((n.b.drop (j + 1)).length + 1) (by omega) (by omega)
        rw [Nat.add_sub_cancel] at hcut hor hcc
        have HLR2 : Hid (∀ W, Only (fun q => q = g ∨ q = gd ∨ w.heap.size ≤ q) w W → Rd .i64 W (some ⟨ga, o, none⟩) (n.b.drop (j + 1))) := fun W hO => by
          have := HLR.out W hO
          rw [hdr] at this
          exact rdI_cut1 this hor
        have hln : (n.b.drop j).length = (n.b.drop (j + 1)).length + 1 := by rw [hdr, List.length_cons]
        rw [hln]
        have hjA1 : j + 1 ≤ AL.length := by omega
        have hfd := HI.out.mu.fzd x
        clear hx hxx hrd hdr hor HLR hll hln hjL
        obtain ⟨nl, hnl⟩ : ∃ q, (n.b.drop (j + 1)).length = q := ⟨_, rfl⟩
        rw [hnl] at hcut hcc hcl'
        rw [hnl]
        have HNL : Hid ((n.b.drop (j + 1)).length = nl) := hnl
        clear hnl
        go_wp2_with fail
        refine HIX.out.mono ?_
        rintro e W' ⟨rfl, hw'⟩
        subst W'
        clear HIX
        go_upto_region 8 with fail
        go_quiet (fail)
        have HI1 : Hid (HoInv w (wr.drewN nq) lo P g gd F.ns.length F.ds.length ca cb k M ⟨n.k, n.g, n.t, (d.size : Nat), T⟩ u (putN AL d F.ds j)) := HI.out.new (belowN (Below.refl _ _) nq)
        clear HI v0 v1 hca hfd hcut
        generalize firstE (putN AL d F.ds j) = fe at *
        generalize wr.drewN nq = wq at *
        obtain ⟨v0, v1⟩ := HI1.out.mu.vcells
        have hfd := HI1.out.mu.fzd x
        go_upto_region 11 with fail
        have hwr : IntKind.i64.wrap (16 * (j : Int) + 16) = 16 * (j : Int) + 16 := by rw [IntKind.wrap_i64]; omega
        obtain ⟨pc, hpc⟩ : ∃ x, piece d j = x := ⟨_, rfl⟩
        have HPS : Hid (pc.size ≤ 16) := by show _ ≤ _; rw [← hpc]; exact piece_le d j
        have hsl : ∀ W, (Instr.slice 9 (.string d) (some (.int .i64 (16 * (j : Int)))) (some (.int .i64 (min (16 * (j : Int) + 16) (d.size : Int)))) none).run Try.prog W = .ok (.string pc) W := fun W => by
          have := run_slice_string (P := Try.prog) W 9 d .i64 .i64 (16 * (j : Int)) (min (16 * (j : Int) + 16) (d.size : Int)) Try.underlying9 (by omega) (by omega) (by omega)
          rw [this, ← hpc]
          unfold piece
          rw [show (16 * (j : Int)).toNat = 16 * j by omega, show (min (16 * (j : Int) + 16) (d.size : Int)).toNat = min (16 * j + 16) d.size by omega]
        have HPC : Hid (piece d j = pc) := hpc
        clear hpc
        refine wp_region_noPanic ?_
        refine wp_region_held_drew (S := fun _ => True) (by kernel_rfl) trivial (fun hT => ?_)
        clear hT
        have HI2 : Hid (HoInv w wq.drew lo P g gd F.ns.length F.ds.length ca cb k M ⟨n.k, n.g, n.t, (d.size : Nat), T⟩ u (putN AL d F.ds j)) := HI1.out.drew
        clear HI1
        generalize wq.drew = WD at *
        refine held_take (i := 0) (v := .pointer (some ⟨P, 0, none⟩)) rfl rfl (by kernel_rfl) (by kernel_rfl) (by kernel_rfl) (by kernel_rfl) (fun W _ => by go_simp) trivial ?_
        simp only [Act.put, List.setIfInBounds_toArray, List.set_cons_zero, List.set_cons_succ]
        refine held_take (i := 1) (v := .pointer (some ⟨P, 0, none⟩)) rfl rfl (by kernel_rfl) (by kernel_rfl) (by kernel_rfl) (by kernel_rfl) (fun W _ => by go_simp) trivial ?_
        simp only [Act.put, List.setIfInBounds_toArray, List.set_cons_zero, List.set_cons_succ]
        refine held_take (i := 2) (v := .pointer (some ⟨P, 1, none⟩)) rfl rfl (by kernel_rfl) (by kernel_rfl) (by kernel_rfl) (by kernel_rfl) (fun W _ => by go_simp) trivial ?_
        simp only [Act.put, List.setIfInBounds_toArray, List.set_cons_zero, List.set_cons_succ]
        refine held_take (i := 4) (v := .int .i64 (x : Nat)) rfl rfl (by kernel_rfl) (by kernel_rfl) (by kernel_rfl) (by kernel_rfl) (fun W _ => by go_simp) trivial ?_
        simp only [Act.put, List.setIfInBounds_toArray, List.set_cons_zero, List.set_cons_succ]
        refine held_take (i := 5) (v := .string d) rfl rfl (by kernel_rfl) (by kernel_rfl) (by kernel_rfl) (by kernel_rfl) (fun W _ => by go_simp) trivial ?_
        simp only [Act.put, List.setIfInBounds_toArray, List.set_cons_zero, List.set_cons_succ]
        refine held_take (i := 6) (v := .int .i64 (16 * (j : Int))) rfl rfl (by kernel_rfl) (by kernel_rfl) (by kernel_rfl) (by kernel_rfl) (fun W _ => by go_simp) trivial ?_
        simp only [Act.put, List.setIfInBounds_toArray, List.set_cons_zero, List.set_cons_succ]
        refine held_take (i := 7) (v := .int .i64 (16 * (j : Int))) rfl rfl (by kernel_rfl) (by kernel_rfl) (by kernel_rfl) (by kernel_rfl) (fun W _ => by go_simp) trivial ?_
        simp only [Act.put, List.setIfInBounds_toArray, List.set_cons_zero, List.set_cons_succ]
        refine held_take (i := 8) (v := .int .i64 (16 * (j : Int) + 16)) rfl rfl (by kernel_rfl) (by kernel_rfl) (by kernel_rfl) (by kernel_rfl) (fun W _ => by go_simp) trivial ?_
        simp only [Act.put, List.setIfInBounds_toArray, List.set_cons_zero, List.set_cons_succ]
        refine held_take (i := 9) (v := .string d) rfl rfl (by kernel_rfl) (by kernel_rfl) (by kernel_rfl) (by kernel_rfl) (fun W _ => by go_simp) trivial ?_
        simp only [Act.put, List.setIfInBounds_toArray, List.set_cons_zero, List.set_cons_succ]
        refine held_take (i := 10) (v := .int .i64 (d.size : Nat)) rfl rfl (by kernel_rfl) (by kernel_rfl) (by kernel_rfl) (by kernel_rfl) (fun W _ => by go_simp) trivial ?_
        simp only [Act.put, List.setIfInBounds_toArray, List.set_cons_zero, List.set_cons_succ]
        refine held_take (i := 11) (v := .int .i64 (min (16 * (j : Int) + 16) (d.size : Int))) rfl rfl (by kernel_rfl) (by kernel_rfl) (by kernel_rfl) (by kernel_rfl) (fun W _ => by go_simp) trivial ?_
        simp only [Act.put, List.setIfInBounds_toArray, List.set_cons_zero, List.set_cons_succ]
        refine held_take (i := 12) (v := .string pc) rfl rfl (by kernel_rfl) (by kernel_rfl) (by kernel_rfl) (by kernel_rfl) (fun W _ => by go_simp) trivial ?_
        simp only [Act.put, List.setIfInBounds_toArray, List.set_cons_zero, List.set_cons_succ]
        refine wpAnyH_ready (rs := [3, 13]) (by kernel_rfl) (by simp) (AllReadyH.cons rfl (fun K hK => ?_) (AllReadyH.cons rfl (fun K hK => ?_) AllReadyH.nil))
        · skip
          have v1 := HI2.out.mu.vcells.2
          go_simp
          refine hK.out _ _ trivial (fun hT => ?_)
          clear hK K hT
          try simp only [Act.put, List.setIfInBounds_toArray, List.set_cons_zero, List.set_cons_succ]
          clear v1
          refine wpAnyH_ready (rs := [13]) (by kernel_rfl) (by simp) (AllReadyH.cons rfl (fun K hK => ?_) AllReadyH.nil)
          go_simp
          refine (cloneT pc _ (by have := HPS.out; omega)).mono ?_
          rintro e w2 ⟨rfl, hbc⟩
          have HIn := HI2.out.new hbc
          have HI3 : Hid (HoInv w w2 lo P g gd F.ns.length F.ds.length ca cb k M ⟨n.k, n.g, n.t, (d.size : Nat), T⟩ u (putN AL d F.ds j)) := HIn
          refine hK.out _ _ trivial (fun hT => ?_)
          clear hK K hT
          try simp only [Act.put, List.setIfInBounds_toArray, List.set_cons_zero, List.set_cons_succ]
          clear HI2 hbc HIn
          have HI2 := HI3
          clear HI3
          refine held_take (i := 14) (v := .pointer (some ⟨gd, x, none⟩)) rfl rfl (by kernel_rfl) (by kernel_rfl) (by kernel_rfl) (by kernel_rfl) (fun W _ => by go_simp) trivial ?_
          simp only [Act.put, List.setIfInBounds_toArray, List.set_cons_zero, List.set_cons_succ]
          refine wpAnyH_ready (rs := [15]) (by kernel_rfl) (by simp) (AllReadyH.cons rfl (fun K hK => ?_) AllReadyH.nil)
          have hfd := HI2.out.mu.fzd x
          have hcd := HI2.out.mu.celld (k := x) (by rw [putN_len]; exact hxl)
          have HI4 : Hid (HoInv w (w2.setCell ⟨gd, x, none⟩ (.string pc)) lo P g gd F.ns.length F.ds.length ca cb k M ⟨n.k, n.g, n.t, (d.size : Nat), T⟩ u ((putN AL d F.ds j).set x pc)) := HI2.out.text x pc
          go_simp
          refine hK.out _ _ trivial (fun hT => ?_)
          clear hK K hT
          try simp only [Act.put, List.setIfInBounds_toArray, List.set_cons_zero, List.set_cons_succ]
          clear hfd hcd HI2 hsl hwr
          refine wpAnyH_done (by kernel_rfl) ?_ _
          simp only [NoPanic]
          generalize w2.setCell ⟨gd, x, none⟩ (.string pc) = w4 at *
          have HPN : Hid (putN AL d F.ds (j + 1) = (putN AL d F.ds j).set x pc) := by show _ = _; rw [putN, HAJ.out, HPC.out, Option.getD_some, Int.toNat_natCast]
          have HTN : Hid (AL.take (j + 1) = T ++ [(x : Int)]) := by show _ = _; rw [List.take_add_one, HAJ.out, HTE.out]; rfl
          have c4 := HI4.out.cell4 hkM
          obtain ⟨au, cu, rfl⟩ := ownSliceD HI4.out.own
          have HI5 : Hid (HoInv w (w4.alloc (.cells #[.int .i64 (x : Nat)] 3)) lo P g gd F.ns.length F.ds.length ca cb k M ⟨n.k, n.g, n.t, (d.size : Nat), T⟩ (.slice au T.length cu) ((putN AL d F.ds j).set x pc)) := HI4.out.new (below1 _ _)
          have HS5 : Hid (Src Try.prog 1 37 (.slice (some ⟨w4.heap.size, 0, none⟩) 1 1) 1 [.int .i64 (x : Nat)] (w4.alloc (.cells #[.int .i64 (x : Nat)] 3))) := srcOneD Try.underlying37 w4 (.int .i64 (x : Nat)) rfl
          have HO5 : Hid ((w4.alloc (.cells #[.int .i64 (x : Nat)] 3)).ownsRow w.heap.size 3 1 (.slice au T.length cu) T.length (T.map (Value.int .i64))) := HI5.out.own
          have hsz5 : w.heap.size ≤ (w4.alloc (.cells #[.int .i64 (x : Nat)] 3)).heap.size := HI5.out.only.size
          clear HI4
          go_wp2_with (at_builtin; refine wpList_append_own_src _ rfl (.tmp 64) (.tmp 66) 37 37 rfl w.heap.size 3 i3 (.int .i64 0) 1 8 Try.underlying37 ii iz0 iz1 iz2 rfl _ _ _ rfl HO5.out _ 1 [.int .i64 (x : Nat)] rfl HS5.out (by unfold maxLen; omega) (by omega) hsz5 ?_)
          intro v8 w8 ho8 hg8
          obtain ⟨a8, c8, rfl⟩ := ownSliceD ho8
          obtain ⟨d4, f4⟩ := HI5.out.grown4 hkM hg8
          have hI9 := HI5.out.app hkM HLOW.out hlo ho8 hg8
          rw [← HTN.out, ← HPN.out] at hI9
          have HI9 : Hid (HoInv w (w8.setCell ⟨g, k * 5 + 4, none⟩ (.slice a8 (T.length + 1) c8)) lo P g gd F.ns.length F.ds.length ca cb k M ⟨n.k, n.g, n.t, (d.size : Nat), AL.take (j + 1)⟩ (.slice a8 (T.length + 1) c8) (putN AL d F.ds (j + 1))) := hI9
          clear hI9 HI5 HO5 HS5 ho8 hg8 hsz5 c4 HPN HTN HAJ HPC HPS HTE
          go_wp2
          go_roundw
          case rel => exact ⟨j + 1, some ⟨ga, o, none⟩, c', _, by rw [HNL.out], by go_num, hjn, hjA1, by rw [HNL.out]; omega, HLR2, HI9⟩
          case measure => simp [intOf]; omega
        · skip
          go_simp
          refine (cloneT pc _ (by have := HPS.out; omega)).mono ?_
          rintro e w2 ⟨rfl, hbc⟩
          have HIn := HI2.out.new hbc
          have HI3 : Hid (HoInv w w2 lo P g gd F.ns.length F.ds.length ca cb k M ⟨n.k, n.g, n.t, (d.size : Nat), T⟩ u (putN AL d F.ds j)) := HIn
          refine hK.out _ _ trivial (fun hT => ?_)
          clear hK K hT
          try simp only [Act.put, List.setIfInBounds_toArray, List.set_cons_zero, List.set_cons_succ]
          clear HI2 hbc HIn
          have HI2 := HI3
          clear HI3
          refine wpAnyH_ready (rs := [3]) (by kernel_rfl) (by simp) (AllReadyH.cons rfl (fun K hK => ?_) AllReadyH.nil)
          have v1 := HI2.out.mu.vcells.2
          go_simp
          refine hK.out _ _ trivial (fun hT => ?_)
          clear hK K hT
          try simp only [Act.put, List.setIfInBounds_toArray, List.set_cons_zero, List.set_cons_succ]
          clear v1
          refine held_take (i := 14) (v := .pointer (some ⟨gd, x, none⟩)) rfl rfl (by kernel_rfl) (by kernel_rfl) (by kernel_rfl) (by kernel_rfl) (fun W _ => by go_simp) trivial ?_
          simp only [Act.put, List.setIfInBounds_toArray, List.set_cons_zero, List.set_cons_succ]
          refine wpAnyH_ready (rs := [15]) (by kernel_rfl) (by simp) (AllReadyH.cons rfl (fun K hK => ?_) AllReadyH.nil)
          have hfd := HI2.out.mu.fzd x
          have hcd := HI2.out.mu.celld (k := x) (by rw [putN_len]; exact hxl)
          have HI4 : Hid (HoInv w (w2.setCell ⟨gd, x, none⟩ (.string pc)) lo P g gd F.ns.length F.ds.length ca cb k M ⟨n.k, n.g, n.t, (d.size : Nat), T⟩ u ((putN AL d F.ds j).set x pc)) := HI2.out.text x pc
          go_simp
          refine hK.out _ _ trivial (fun hT => ?_)
          clear hK K hT
          try simp only [Act.put, List.setIfInBounds_toArray, List.set_cons_zero, List.set_cons_succ]
          clear hfd hcd HI2 hsl hwr
          refine wpAnyH_done (by kernel_rfl) ?_ _
          simp only [NoPanic]
          generalize w2.setCell ⟨gd, x, none⟩ (.string pc) = w4 at *
          have HPN : Hid (putN AL d F.ds (j + 1) = (putN AL d F.ds j).set x pc) := by show _ = _; rw [putN, HAJ.out, HPC.out, Option.getD_some, Int.toNat_natCast]
          have HTN : Hid (AL.take (j + 1) = T ++ [(x : Int)]) := by show _ = _; rw [List.take_add_one, HAJ.out, HTE.out]; rfl
          have c4 := HI4.out.cell4 hkM
          obtain ⟨au, cu, rfl⟩ := ownSliceD HI4.out.own
          have HI5 : Hid (HoInv w (w4.alloc (.cells #[.int .i64 (x : Nat)] 3)) lo P g gd F.ns.length F.ds.length ca cb k M ⟨n.k, n.g, n.t, (d.size : Nat), T⟩ (.slice au T.length cu) ((putN AL d F.ds j).set x pc)) := HI4.out.new (below1 _ _)
          have HS5 : Hid (Src Try.prog 1 37 (.slice (some ⟨w4.heap.size, 0, none⟩) 1 1) 1 [.int .i64 (x : Nat)] (w4.alloc (.cells #[.int .i64 (x : Nat)] 3))) := srcOneD Try.underlying37 w4 (.int .i64 (x : Nat)) rfl
          have HO5 : Hid ((w4.alloc (.cells #[.int .i64 (x : Nat)] 3)).ownsRow w.heap.size 3 1 (.slice au T.length cu) T.length (T.map (Value.int .i64))) := HI5.out.own
          have hsz5 : w.heap.size ≤ (w4.alloc (.cells #[.int .i64 (x : Nat)] 3)).heap.size := HI5.out.only.size
          clear HI4
          go_wp2_with (at_builtin; refine wpList_append_own_src _ rfl (.tmp 64) (.tmp 66) 37 37 rfl w.heap.size 3 i3 (.int .i64 0) 1 8 Try.underlying37 ii iz0 iz1 iz2 rfl _ _ _ rfl HO5.out _ 1 [.int .i64 (x : Nat)] rfl HS5.out (by unfold maxLen; omega) (by omega) hsz5 ?_)
          intro v8 w8 ho8 hg8
          obtain ⟨a8, c8, rfl⟩ := ownSliceD ho8
          obtain ⟨d4, f4⟩ := HI5.out.grown4 hkM hg8
          have hI9 := HI5.out.app hkM HLOW.out hlo ho8 hg8
          rw [← HTN.out, ← HPN.out] at hI9
          have HI9 : Hid (HoInv w (w8.setCell ⟨g, k * 5 + 4, none⟩ (.slice a8 (T.length + 1) c8)) lo P g gd F.ns.length F.ds.length ca cb k M ⟨n.k, n.g, n.t, (d.size : Nat), AL.take (j + 1)⟩ (.slice a8 (T.length + 1) c8) (putN AL d F.ds (j + 1))) := hI9
          clear hI9 HI5 HO5 HS5 ho8 hg8 hsz5 c4 HPN HTN HAJ HPC HPS HTE
          go_wp2
          go_roundw
          case rel => exact ⟨j + 1, some ⟨ga, o, none⟩, c', _, by rw [HNL.out], by go_num, hjn, hjA1, by rw [HNL.out]; omega, HLR2, HI9⟩
          case measure => simp [intOf]; omega
      · have hd0 : n.b.drop j = [] := List.drop_eq_nil_of_le (by omega)
        have hd1 : n.b.drop (j + 1) = [] := List.drop_eq_nil_of_le (by omega)
        have hl0 : (n.b.drop j).length = 0 := by rw [hd0]; rfl
        have HNL : Hid ((n.b.drop (j + 1)).length = 0) := by show _ = _; rw [hd1]; rfl
        rw [hl0] at hcl'
        rw [hl0]
        have HLR2 : Hid (∀ W, Only (fun q => q = g ∨ q = gd ∨ w.heap.size ≤ q) w W → Rd .i64 W al (n.b.drop (j + 1))) := fun W _ => by rw [hd1]; exact .inl rfl
        have hfe := HFI.out j (by omega) hjA (by omega)
        by_cases hjA1' : j < AL.length
        · have hx := HAL.out _ (List.getElem_mem hjA1')
          obtain ⟨x, hxx⟩ := natOf hx.1
          have hxl : x < F.ds.length := by have := hx.2; rw [hxx] at this; simpa using this
          have HAJ : Hid (AL[j]? = some (x : Int)) := by show _ = _; rw [List.getElem?_eq_getElem hjA1', hxx]
          rw [HAJ.out, Option.getD_some] at hfe
          rw [hfe] at HIX
          have hjA1 : j + 1 ≤ AL.length := hjA1'
          clear hx hxx hd0 hd1 hl0 hfe HLR hll hjL hjA1'
          go_wp2_with fail
          refine HIX.out.mono ?_
          rintro e W' ⟨rfl, hw'⟩
          subst W'
          clear HIX
          go_upto_region 11 with fail
          have HI1 : Hid (HoInv w wr lo P g gd F.ns.length F.ds.length ca cb k M ⟨n.k, n.g, n.t, (d.size : Nat), T⟩ u (putN AL d F.ds j)) := HI
          clear HI v0 v1
          generalize wr = wq at *
          have hwr : IntKind.i64.wrap (16 * (j : Int) + 16) = 16 * (j : Int) + 16 := by rw [IntKind.wrap_i64]; omega
          obtain ⟨pc, hpc⟩ : ∃ x, piece d j = x := ⟨_, rfl⟩
          have HPS : Hid (pc.size ≤ 16) := by show _ ≤ _; rw [← hpc]; exact piece_le d j
          have hsl : ∀ W, (Instr.slice 9 (.string d) (some (.int .i64 (16 * (j : Int)))) (some (.int .i64 (min (16 * (j : Int) + 16) (d.size : Int)))) none).run Try.prog W = .ok (.string pc) W := fun W => by
            have := run_slice_string (P := Try.prog) W 9 d .i64 .i64 (16 * (j : Int)) (min (16 * (j : Int) + 16) (d.size : Int)) Try.underlying9 (by omega) (by omega) (by omega)
            rw [this, ← hpc]
            unfold piece
            rw [show (16 * (j : Int)).toNat = 16 * j by omega, show (min (16 * (j : Int) + 16) (d.size : Int)).toNat = min (16 * j + 16) d.size by omega]
          have HPC : Hid (piece d j = pc) := hpc
          clear hpc
          refine wp_region_noPanic ?_
          refine wp_region_held_drew (S := fun _ => True) (by kernel_rfl) trivial (fun hT => ?_)
          clear hT
          have HI2 : Hid (HoInv w wq.drew lo P g gd F.ns.length F.ds.length ca cb k M ⟨n.k, n.g, n.t, (d.size : Nat), T⟩ u (putN AL d F.ds j)) := HI1.out.drew
          clear HI1
          generalize wq.drew = WD at *
          refine held_take (i := 0) (v := .pointer (some ⟨P, 0, none⟩)) rfl rfl (by kernel_rfl) (by kernel_rfl) (by kernel_rfl) (by kernel_rfl) (fun W _ => by go_simp) trivial ?_
          simp only [Act.put, List.setIfInBounds_toArray, List.set_cons_zero, List.set_cons_succ]
          refine held_take (i := 1) (v := .pointer (some ⟨P, 0, none⟩)) rfl rfl (by kernel_rfl) (by kernel_rfl) (by kernel_rfl) (by kernel_rfl) (fun W _ => by go_simp) trivial ?_
          simp only [Act.put, List.setIfInBounds_toArray, List.set_cons_zero, List.set_cons_succ]
          refine held_take (i := 2) (v := .pointer (some ⟨P, 1, none⟩)) rfl rfl (by kernel_rfl) (by kernel_rfl) (by kernel_rfl) (by kernel_rfl) (fun W _ => by go_simp) trivial ?_
          simp only [Act.put, List.setIfInBounds_toArray, List.set_cons_zero, List.set_cons_succ]
          refine held_take (i := 4) (v := .int .i64 (x : Nat)) rfl rfl (by kernel_rfl) (by kernel_rfl) (by kernel_rfl) (by kernel_rfl) (fun W _ => by go_simp) trivial ?_
          simp only [Act.put, List.setIfInBounds_toArray, List.set_cons_zero, List.set_cons_succ]
          refine held_take (i := 5) (v := .string d) rfl rfl (by kernel_rfl) (by kernel_rfl) (by kernel_rfl) (by kernel_rfl) (fun W _ => by go_simp) trivial ?_
          simp only [Act.put, List.setIfInBounds_toArray, List.set_cons_zero, List.set_cons_succ]
          refine held_take (i := 6) (v := .int .i64 (16 * (j : Int))) rfl rfl (by kernel_rfl) (by kernel_rfl) (by kernel_rfl) (by kernel_rfl) (fun W _ => by go_simp) trivial ?_
          simp only [Act.put, List.setIfInBounds_toArray, List.set_cons_zero, List.set_cons_succ]
          refine held_take (i := 7) (v := .int .i64 (16 * (j : Int))) rfl rfl (by kernel_rfl) (by kernel_rfl) (by kernel_rfl) (by kernel_rfl) (fun W _ => by go_simp) trivial ?_
          simp only [Act.put, List.setIfInBounds_toArray, List.set_cons_zero, List.set_cons_succ]
          refine held_take (i := 8) (v := .int .i64 (16 * (j : Int) + 16)) rfl rfl (by kernel_rfl) (by kernel_rfl) (by kernel_rfl) (by kernel_rfl) (fun W _ => by go_simp) trivial ?_
          simp only [Act.put, List.setIfInBounds_toArray, List.set_cons_zero, List.set_cons_succ]
          refine held_take (i := 9) (v := .string d) rfl rfl (by kernel_rfl) (by kernel_rfl) (by kernel_rfl) (by kernel_rfl) (fun W _ => by go_simp) trivial ?_
          simp only [Act.put, List.setIfInBounds_toArray, List.set_cons_zero, List.set_cons_succ]
          refine held_take (i := 10) (v := .int .i64 (d.size : Nat)) rfl rfl (by kernel_rfl) (by kernel_rfl) (by kernel_rfl) (by kernel_rfl) (fun W _ => by go_simp) trivial ?_
          simp only [Act.put, List.setIfInBounds_toArray, List.set_cons_zero, List.set_cons_succ]
          refine held_take (i := 11) (v := .int .i64 (min (16 * (j : Int) + 16) (d.size : Int))) rfl rfl (by kernel_rfl) (by kernel_rfl) (by kernel_rfl) (by kernel_rfl) (fun W _ => by go_simp) trivial ?_
          simp only [Act.put, List.setIfInBounds_toArray, List.set_cons_zero, List.set_cons_succ]
          refine held_take (i := 12) (v := .string pc) rfl rfl (by kernel_rfl) (by kernel_rfl) (by kernel_rfl) (by kernel_rfl) (fun W _ => by go_simp) trivial ?_
          simp only [Act.put, List.setIfInBounds_toArray, List.set_cons_zero, List.set_cons_succ]
          refine wpAnyH_ready (rs := [3, 13]) (by kernel_rfl) (by simp) (AllReadyH.cons rfl (fun K hK => ?_) (AllReadyH.cons rfl (fun K hK => ?_) AllReadyH.nil))
          · skip
            have v1 := HI2.out.mu.vcells.2
            go_simp
            refine hK.out _ _ trivial (fun hT => ?_)
            clear hK K hT
            try simp only [Act.put, List.setIfInBounds_toArray, List.set_cons_zero, List.set_cons_succ]
            clear v1
            refine wpAnyH_ready (rs := [13]) (by kernel_rfl) (by simp) (AllReadyH.cons rfl (fun K hK => ?_) AllReadyH.nil)
            go_simp
            refine (cloneT pc _ (by have := HPS.out; omega)).mono ?_
            rintro e w2 ⟨rfl, hbc⟩
            have HIn := HI2.out.new hbc
            have HI3 : Hid (HoInv w w2 lo P g gd F.ns.length F.ds.length ca cb k M ⟨n.k, n.g, n.t, (d.size : Nat), T⟩ u (putN AL d F.ds j)) := HIn
            refine hK.out _ _ trivial (fun hT => ?_)
            clear hK K hT
            try simp only [Act.put, List.setIfInBounds_toArray, List.set_cons_zero, List.set_cons_succ]
            clear HI2 hbc HIn
            have HI2 := HI3
            clear HI3
            refine held_take (i := 14) (v := .pointer (some ⟨gd, x, none⟩)) rfl rfl (by kernel_rfl) (by kernel_rfl) (by kernel_rfl) (by kernel_rfl) (fun W _ => by go_simp) trivial ?_
            simp only [Act.put, List.setIfInBounds_toArray, List.set_cons_zero, List.set_cons_succ]
            refine wpAnyH_ready (rs := [15]) (by kernel_rfl) (by simp) (AllReadyH.cons rfl (fun K hK => ?_) AllReadyH.nil)
            have hfd := HI2.out.mu.fzd x
            have hcd := HI2.out.mu.celld (k := x) (by rw [putN_len]; exact hxl)
            have HI4 : Hid (HoInv w (w2.setCell ⟨gd, x, none⟩ (.string pc)) lo P g gd F.ns.length F.ds.length ca cb k M ⟨n.k, n.g, n.t, (d.size : Nat), T⟩ u ((putN AL d F.ds j).set x pc)) := HI2.out.text x pc
            go_simp
            refine hK.out _ _ trivial (fun hT => ?_)
            clear hK K hT
            try simp only [Act.put, List.setIfInBounds_toArray, List.set_cons_zero, List.set_cons_succ]
            clear hfd hcd HI2 hsl hwr
            refine wpAnyH_done (by kernel_rfl) ?_ _
            simp only [NoPanic]
            generalize w2.setCell ⟨gd, x, none⟩ (.string pc) = w4 at *
            have HPN : Hid (putN AL d F.ds (j + 1) = (putN AL d F.ds j).set x pc) := by show _ = _; rw [putN, HAJ.out, HPC.out, Option.getD_some, Int.toNat_natCast]
            have HTN : Hid (AL.take (j + 1) = T ++ [(x : Int)]) := by show _ = _; rw [List.take_add_one, HAJ.out, HTE.out]; rfl
            have c4 := HI4.out.cell4 hkM
            obtain ⟨au, cu, rfl⟩ := ownSliceD HI4.out.own
            have HI5 : Hid (HoInv w (w4.alloc (.cells #[.int .i64 (x : Nat)] 3)) lo P g gd F.ns.length F.ds.length ca cb k M ⟨n.k, n.g, n.t, (d.size : Nat), T⟩ (.slice au T.length cu) ((putN AL d F.ds j).set x pc)) := HI4.out.new (below1 _ _)
            have HS5 : Hid (Src Try.prog 1 37 (.slice (some ⟨w4.heap.size, 0, none⟩) 1 1) 1 [.int .i64 (x : Nat)] (w4.alloc (.cells #[.int .i64 (x : Nat)] 3))) := srcOneD Try.underlying37 w4 (.int .i64 (x : Nat)) rfl
            have HO5 : Hid ((w4.alloc (.cells #[.int .i64 (x : Nat)] 3)).ownsRow w.heap.size 3 1 (.slice au T.length cu) T.length (T.map (Value.int .i64))) := HI5.out.own
            have hsz5 : w.heap.size ≤ (w4.alloc (.cells #[.int .i64 (x : Nat)] 3)).heap.size := HI5.out.only.size
            clear HI4
            go_wp2_with (at_builtin; refine wpList_append_own_src _ rfl (.tmp 64) (.tmp 66) 37 37 rfl w.heap.size 3 i3 (.int .i64 0) 1 8 Try.underlying37 ii iz0 iz1 iz2 rfl _ _ _ rfl HO5.out _ 1 [.int .i64 (x : Nat)] rfl HS5.out (by unfold maxLen; omega) (by omega) hsz5 ?_)
            intro v8 w8 ho8 hg8
            obtain ⟨a8, c8, rfl⟩ := ownSliceD ho8
            obtain ⟨d4, f4⟩ := HI5.out.grown4 hkM hg8
            have hI9 := HI5.out.app hkM HLOW.out hlo ho8 hg8
            rw [← HTN.out, ← HPN.out] at hI9
            have HI9 : Hid (HoInv w (w8.setCell ⟨g, k * 5 + 4, none⟩ (.slice a8 (T.length + 1) c8)) lo P g gd F.ns.length F.ds.length ca cb k M ⟨n.k, n.g, n.t, (d.size : Nat), AL.take (j + 1)⟩ (.slice a8 (T.length + 1) c8) (putN AL d F.ds (j + 1))) := hI9
            clear hI9 HI5 HO5 HS5 ho8 hg8 hsz5 c4 HPN HTN HAJ HPC HPS HTE
            go_wp2
            go_roundw
            case rel => exact ⟨j + 1, al, cl, _, by rw [HNL.out], by go_num, hjn, hjA1, by rw [HNL.out]; omega, HLR2, HI9⟩
            case measure => simp [intOf]; omega
          · skip
            go_simp
            refine (cloneT pc _ (by have := HPS.out; omega)).mono ?_
            rintro e w2 ⟨rfl, hbc⟩
            have HIn := HI2.out.new hbc
            have HI3 : Hid (HoInv w w2 lo P g gd F.ns.length F.ds.length ca cb k M ⟨n.k, n.g, n.t, (d.size : Nat), T⟩ u (putN AL d F.ds j)) := HIn
            refine hK.out _ _ trivial (fun hT => ?_)
            clear hK K hT
            try simp only [Act.put, List.setIfInBounds_toArray, List.set_cons_zero, List.set_cons_succ]
            clear HI2 hbc HIn
            have HI2 := HI3
            clear HI3
            refine wpAnyH_ready (rs := [3]) (by kernel_rfl) (by simp) (AllReadyH.cons rfl (fun K hK => ?_) AllReadyH.nil)
            have v1 := HI2.out.mu.vcells.2
            go_simp
            refine hK.out _ _ trivial (fun hT => ?_)
            clear hK K hT
            try simp only [Act.put, List.setIfInBounds_toArray, List.set_cons_zero, List.set_cons_succ]
            clear v1
            refine held_take (i := 14) (v := .pointer (some ⟨gd, x, none⟩)) rfl rfl (by kernel_rfl) (by kernel_rfl) (by kernel_rfl) (by kernel_rfl) (fun W _ => by go_simp) trivial ?_
            simp only [Act.put, List.setIfInBounds_toArray, List.set_cons_zero, List.set_cons_succ]
            refine wpAnyH_ready (rs := [15]) (by kernel_rfl) (by simp) (AllReadyH.cons rfl (fun K hK => ?_) AllReadyH.nil)
            have hfd := HI2.out.mu.fzd x
            have hcd := HI2.out.mu.celld (k := x) (by rw [putN_len]; exact hxl)
            have HI4 : Hid (HoInv w (w2.setCell ⟨gd, x, none⟩ (.string pc)) lo P g gd F.ns.length F.ds.length ca cb k M ⟨n.k, n.g, n.t, (d.size : Nat), T⟩ u ((putN AL d F.ds j).set x pc)) := HI2.out.text x pc
            go_simp
            refine hK.out _ _ trivial (fun hT => ?_)
            clear hK K hT
            try simp only [Act.put, List.setIfInBounds_toArray, List.set_cons_zero, List.set_cons_succ]
            clear hfd hcd HI2 hsl hwr
            refine wpAnyH_done (by kernel_rfl) ?_ _
            simp only [NoPanic]
            generalize w2.setCell ⟨gd, x, none⟩ (.string pc) = w4 at *
            have HPN : Hid (putN AL d F.ds (j + 1) = (putN AL d F.ds j).set x pc) := by show _ = _; rw [putN, HAJ.out, HPC.out, Option.getD_some, Int.toNat_natCast]
            have HTN : Hid (AL.take (j + 1) = T ++ [(x : Int)]) := by show _ = _; rw [List.take_add_one, HAJ.out, HTE.out]; rfl
            have c4 := HI4.out.cell4 hkM
            obtain ⟨au, cu, rfl⟩ := ownSliceD HI4.out.own
            have HI5 : Hid (HoInv w (w4.alloc (.cells #[.int .i64 (x : Nat)] 3)) lo P g gd F.ns.length F.ds.length ca cb k M ⟨n.k, n.g, n.t, (d.size : Nat), T⟩ (.slice au T.length cu) ((putN AL d F.ds j).set x pc)) := HI4.out.new (below1 _ _)
            have HS5 : Hid (Src Try.prog 1 37 (.slice (some ⟨w4.heap.size, 0, none⟩) 1 1) 1 [.int .i64 (x : Nat)] (w4.alloc (.cells #[.int .i64 (x : Nat)] 3))) := srcOneD Try.underlying37 w4 (.int .i64 (x : Nat)) rfl
            have HO5 : Hid ((w4.alloc (.cells #[.int .i64 (x : Nat)] 3)).ownsRow w.heap.size 3 1 (.slice au T.length cu) T.length (T.map (Value.int .i64))) := HI5.out.own
            have hsz5 : w.heap.size ≤ (w4.alloc (.cells #[.int .i64 (x : Nat)] 3)).heap.size := HI5.out.only.size
            clear HI4
            go_wp2_with (at_builtin; refine wpList_append_own_src _ rfl (.tmp 64) (.tmp 66) 37 37 rfl w.heap.size 3 i3 (.int .i64 0) 1 8 Try.underlying37 ii iz0 iz1 iz2 rfl _ _ _ rfl HO5.out _ 1 [.int .i64 (x : Nat)] rfl HS5.out (by unfold maxLen; omega) (by omega) hsz5 ?_)
            intro v8 w8 ho8 hg8
            obtain ⟨a8, c8, rfl⟩ := ownSliceD ho8
            obtain ⟨d4, f4⟩ := HI5.out.grown4 hkM hg8
            have hI9 := HI5.out.app hkM HLOW.out hlo ho8 hg8
            rw [← HTN.out, ← HPN.out] at hI9
            have HI9 : Hid (HoInv w (w8.setCell ⟨g, k * 5 + 4, none⟩ (.slice a8 (T.length + 1) c8)) lo P g gd F.ns.length F.ds.length ca cb k M ⟨n.k, n.g, n.t, (d.size : Nat), AL.take (j + 1)⟩ (.slice a8 (T.length + 1) c8) (putN AL d F.ds (j + 1))) := hI9
            clear hI9 HI5 HO5 HS5 ho8 hg8 hsz5 c4 HPN HTN HAJ HPC HPS HTE
            go_wp2
            go_roundw
            case rel => exact ⟨j + 1, al, cl, _, by rw [HNL.out], by go_num, hjn, hjA1, by rw [HNL.out]; omega, HLR2, HI9⟩
            case measure => simp [intOf]; omega
        · obtain rfl : j = AL.length := by omega
          rw [List.getElem?_eq_none (by omega)] at hfe
          rw [show ((none : Option Int).getD (-1)) = -1 from rfl] at hfe
          rw [hfe] at HIX
          have HQ : Hid (decide (needN d ≤ AL.length) = false) := decide_eq_false (by omega)
          have HON := HI.out.only
          clear hd0 hd1 hl0 hfe HLR hll hjL HI
          go_wp2_with fail
          refine HIX.out.mono ?_
          rintro e W' ⟨rfl, hw'⟩
          subst W'
          clear HIX
          go_wp2
          go_ret
          exact ⟨by rw [HQ.out]; rfl, fun h => by omega, HON⟩
    · obtain rfl : j = needN d := by
        have := (HNE.out j).2
        omega
      have HQ : Hid (decide (needN d ≤ AL.length) = true) := decide_eq_true hjA
      have HRX2 : Hid (∀ x ∈ n.b.drop (needN d), 0 ≤ x ∧ x.toNat < F.ds.length) := fun x hx => HRX.out x (List.mem_of_mem_drop hx)
      have hR5 : (n.b.drop (needN d)).length ≤ 5 := by simp; omega
      clear HRX HAP HFI HAL HNE hll hjA hcl'
      generalize n.b.drop (needN d) = R at *
      generalize hPT : putN AL d F.ds (needN d) = PT at *
      have hPTl : PT.length = F.ds.length := by rw [← hPT, putN_len]
      clear hPT
      go_wp2
      go_loopw [72] (fun q wr => ∃ m : Nat, m ≤ R.length ∧ q = .int .i64 m ∧ Hid (HoInv w wr lo P g gd F.ns.length F.ds.length ca cb k M ⟨n.k, n.g, n.t, (d.size : Nat), AL.take (needN d)⟩ u (clrN R PT m))) (fun q _ => R.length - (intOf q).toNat)
      case atStart => exact ⟨0, by omega, rfl, HI⟩
      case round =>
        clear HI
        obtain ⟨m, hm, rfl, HI⟩ := hrel
        by_cases hlt : m < R.length
        · obtain ⟨ga, oa, rfl, hga, hca⟩ := (HLR.out _ HI.out.only).cellI m hlt
          have hx := HRX2.out _ (List.getElem_mem hlt)
          obtain ⟨x, hxx⟩ := natOf hx.1
          rw [hxx] at hca hx
          have hxl : x < F.ds.length := by simpa using hx.2
          obtain ⟨v0, v1⟩ := HI.out.mu.vcells
          have hcd := HI.out.mu.celld (k := x) (by rw [clrN_len]; omega)
          have hfd := HI.out.mu.fzd x
          have hI2 := HI.out.text x ⟨#[]⟩
          have HI2 : Hid (HoInv w (wr.setCell ⟨gd, x, none⟩ (.string ⟨#[]⟩)) lo P g gd F.ns.length F.ds.length ca cb k M ⟨n.k, n.g, n.t, (d.size : Nat), AL.take (needN d)⟩ u (clrN R PT (m + 1))) := by
            show HoInv _ _ _ _ _ _ _ _ _ _ _ _ _ _ (clrN R PT (m + 1))
            unfold clrN
            rw [List.getElem?_eq_getElem hlt, Option.getD_some, hxx, Int.toNat_natCast]
            exact hI2
          clear hI2 hx HI HRX2 HLR
          try clear hxx
          generalize (clrN R PT m)[x]'(by rw [clrN_len]; omega) = dd at *
          go_wp2
          go_roundw
          case rel => exact ⟨m + 1, by omega, by go_num, HI2⟩
          case measure => simp [intOf]; omega
        · obtain rfl : m = R.length := by omega
          have HE := HI.out
          clear HLR HRX2 HI
          go_wp2
          go_ret
          refine ⟨by rw [HQ.out]; rfl, fun _ => ⟨M.set k (⟨n.k, n.g, n.t, (d.size : Nat), AL.take (needN d)⟩, u), by rw [HMM.out, HWN.out], ?_⟩, HE.only⟩
          rw [HHD.out]
          exact HE.mu
end Go.Proofs.Ytbameedfnicnhaa
