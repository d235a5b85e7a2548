/-
  Own texts, several together.
-/
import Derived.Test.YtioecnfgliponaaSDataW
import Derived.Test.YtioecnfgliponaaIShapeW
import Derived.Test.YtioecnfgliponaaBunH
import Derived.Deep.RegionHeld3
import Derived.Test.YtioecnfgliponaaICopyW
import Derived.Defers
import Derived.Recover
/-
  Own text: whether a node is there and not free, by the program.
-/
namespace Go.Proofs.Ytioecnfgliponaa
open Go.RowKit

def thP (F : FsD) (i : Int) : Prop := 0 ≤ i ∧ i.toNat < F.ns.length ∧ (ndAt F i).k ≠ 0
noncomputable def thB (F : FsD) (i : Int) : Bool := @decide (thP F i) (Classical.propDecidable _)
theorem thB_yes {F : FsD} {i : Int} (h : thP F i) : thB F i = true := @decide_eq_true _ (Classical.propDecidable _) h
theorem thB_no {F : FsD} {i : Int} (h : ¬ thP F i) : thB F i = false := @decide_eq_false _ (Classical.propDecidable _) h

set_option maxRecDepth 20000 in
set_option maxHeartbeats 4000000 in
theorem implThere (P : Nat) (a : Option Addr) (ca : Nat) (F : FsD) (i : Int) (w : World) (hp0 : w.cell? ⟨P, 0, none⟩ = some (.slice a F.ns.length ca)) (r1 : RdNs w a F.ns) :
    Calls Try.prog 51 #[.pointer (some ⟨P, 0, none⟩), .int .i64 i] w fun e w' => e = .returned (.bool (thB F i)) ∧ w' = w := by
  by_cases hi0 : 0 ≤ i
  · obtain ⟨k, rfl⟩ := natOf hi0
    by_cases hk : k < F.ns.length
    · have HU : Hid (F.ns[k].k ≠ 0 ↔ thP F (k : Int)) := ⟨fun h => ⟨by omega, by simpa using hk, by rw [ndAt_nat hk]; exact h⟩, fun h => by have := h.2.2; rw [ndAt_nat hk] at this; exact this⟩
      have hkI : (k : Int) < (F.ns.length : Int) := by omega
      obtain ⟨g, off, u, rfl, hblt, _, c0, _, _, _, _⟩ := r1.at k hk
      clear r1
      by_cases h0 : F.ns[k].k = 0
      · have HA : Hid (thB F (k : Int) = false) := thB_no fun h => HU.out.2 h h0
        rw [h0] at c0
        clear h0
        go_enter Try.func51, Try.ntmps51
        go_wp2
        go_ret
        exact ⟨by rw [HA.out]; rfl, rfl⟩
      · have HA : Hid (thB F (k : Int) = true) := thB_yes (HU.out.1 h0)
        clear HU
        generalize F.ns[k].k = y at *
        go_enter Try.func51, Try.ntmps51
        go_wp2
        go_ret
        exact ⟨by rw [HA.out]; simp [h0], rfl⟩
    · have HA : Hid (thB F (k : Int) = false) := thB_no fun h => hk (by simpa using h.2.1)
      have hkI : ¬ (k : Int) < (F.ns.length : Int) := by omega
      clear r1
      go_enter Try.func51, Try.ntmps51
      go_wp2
      go_ret
      exact ⟨by rw [HA.out]; rfl, rfl⟩
  · have HA : Hid (thB F i = false) := thB_no fun h => hi0 h.1
    clear r1
    go_enter Try.func51, Try.ntmps51
    go_wp2
    go_ret
    exact ⟨by rw [HA.out]; rfl, rfl⟩
end Go.Proofs.Ytioecnfgliponaa

/-
  Own text: whether the program takes a node for one that is in use.
-/
namespace Go.Proofs.Ytioecnfgliponaa
open Go.RowKit

set_option maxRecDepth 20000 in
set_option maxHeartbeats 4000000 in
theorem implUse (P : Nat) (a b : Option Addr) (ca cb : Nat) (F : FsD) (i : Int) (w : World) (hsm : SmF F) (hP : P < w.heap.size) (hp0 : w.cell? ⟨P, 0, none⟩ = some (.slice a F.ns.length ca)) (hp1 : w.cell? ⟨P, 1, none⟩ = some (.slice b F.ds.length cb)) (hr : RdFs w (.agg #[.slice a F.ns.length ca, .slice b F.ds.length cb]) F) :
    Calls Try.prog 26 #[.pointer (some ⟨P, 0, none⟩), .int .i64 i] w fun e w' => e = .returned (.bool (usB F i)) ∧ Below w.heap.size w w' := by
  have r1 : RdNs w a F.ns := by
    obtain ⟨a', ca', b', cb', he, _, r1, _⟩ := hr
    injection he with he
    simp at he
    obtain ⟨⟨rfl, rfl⟩, _⟩ := he
    exact r1
  have HSH : Hid (Calls Try.prog 46 #[.agg #[.slice a F.ns.length ca, .slice b F.ds.length cb]] w fun e w' => e = .returned (.bool (shOk F)) ∧ Below w.heap.size w w') := implShapeOk _ F w hsm hr
  have HV : Hid (∀ W, Below w.heap.size w W → W.cell? ⟨P, 0, none⟩ = some (.slice a F.ns.length ca)) := fun W h => (h.cell hP).trans hp0
  have HNS : Hid (∀ W, Below w.heap.size w W → RdNs W a F.ns) := fun W h => r1.below h (Nat.le_refl _)
  by_cases hS : ShapeP F
  · have HT : Hid (∀ W, Below w.heap.size w W → Calls Try.prog 51 #[.pointer (some ⟨P, 0, none⟩), .int .i64 i] W fun e w' => e = .returned (.bool (thB F i)) ∧ w' = W) := fun W h => implThere P a ca F i W (HV.out W h) (HNS.out W h)
    have HE : Hid (usB F i = thB F i) := by
      show _ = _
      by_cases hu : UsP F i
      · rw [usB_yes hu, thB_yes ⟨hu.2.1, hu.2.2.1, hu.2.2.2⟩]
      · rw [usB_no hu, thB_no fun h => hu ⟨hS, h.1, h.2.1, h.2.2⟩]
    have HSO : shOk F = true := shOk_yes hS
    rw [HSO] at HSH
    clear HSO hS r1 hr hsm HNS
    go_enter Try.func26, Try.ntmps26
    go_wp2_with fail
    refine HSH.out.mono ?_
    rintro e w1 ⟨rfl, hb1⟩
    go_wp2_with fail
    refine (HT.out w1 hb1).mono ?_
    rintro e w2 ⟨rfl, hx⟩
    subst hx
    go_wp2
    go_ret
    exact ⟨by rw [HE.out]; rfl, hb1⟩
  · have HSO : shOk F = false := shOk_no hS
    have HA : Hid (usB F i = false) := usB_no fun h => hS h.1
    rw [HSO] at HSH
    clear hS HSO HNS r1 hr hsm
    go_enter Try.func26, Try.ntmps26
    go_wp2_with fail
    refine HSH.out.mono ?_
    rintro e w1 ⟨rfl, hb1⟩
    clear HSH HV
    go_wp2
    go_ret
    exact ⟨by rw [HA.out]; rfl, hb1⟩
end Go.Proofs.Ytioecnfgliponaa

/-
  Own text: what a node holds is laid anew, by the program.
-/
namespace Go.Proofs.Ytioecnfgliponaa
open Go.RowKit

theorem MuF.rdT {W : World} {lo Q g gd N D ca cb : Nat} {M : List NodeU} {ds : List ByteArray} (h : MuF W lo Q g gd N D ca cb M ds) : RdS W (some ⟨gd, 0, none⟩) ds := by
  obtain ⟨a, c, he, _, hr⟩ := own_rdS h.txt
  injection he with he _ _
  rw [he]; exact hr
theorem MuF.vcells {W : World} {lo Q g gd N D ca cb : Nat} {M : List NodeU} {ds : List ByteArray} (h : MuF W lo Q g gd N D ca cb M ds) : W.cell? ⟨Q, 0, none⟩ = some (.slice (some ⟨g, 0, none⟩) N ca) ∧ W.cell? ⟨Q, 1, none⟩ = some (.slice (some ⟨gd, 0, none⟩) D cb) :=
  ⟨(h.var.cell 0).trans rfl, (h.var.cell 1).trans rfl⟩
theorem HoInv.cell4 {w W : World} {lo P g gd N D ca cb i : Nat} {M : List NodeU} {y : NodeD} {u : Value} {ds : List ByteArray} (h : HoInv w W lo P g gd N D ca cb i M y u ds) (hi : i < M.length) : W.cell? ⟨g, i * 5 + 4, none⟩ = some u := by
  have hl : i < (M.set i (y, u)).length := by simpa using hi
  have := (h.mu.celln hl).2.2.2.2
  rw [List.getElem_set_self] at this
  exact this
theorem HoInv.grown4 {w W W' : World} {lo P g gd N D ca cb i : Nat} {M : List NodeU} {y : NodeD} {u : Value} {ds : List ByteArray} (h : HoInv w W lo P g gd N D ca cb i M y u ds) (hi : i < M.length) (hg : W.grownBy W' u.ownBlock) : W'.cell? ⟨g, i * 5 + 4, none⟩ = some u ∧ W'.frozen? ⟨g, i * 5 + 4, none⟩ = false := by
  have hO := Only.of_grown hg
  have hne : ¬ u.ownBlock = some g := fun e => own_apart h.own h.mu.nod.row (by decide) g e rfl
  refine ⟨(hO.cell (p := ⟨g, i * 5 + 4, none⟩) h.mu.in_g.2 hne).trans (h.cell4 hi), ?_⟩
  have := World.frozen?_of_block (w := W) (w' := W') (a := ⟨g, i * 5 + 4, none⟩) (hO.block g h.mu.in_g.2 hne)
  rw [this]; exact h.mu.fz _

set_option maxRecDepth 20000 in
set_option maxHeartbeats 8000000 in
theorem implHold (lo P g gd ca cb k : Nat) (M : List NodeU) (F : FsD) (d : ByteArray) (w : World) (hm : MuF w lo P g gd F.ns.length F.ds.length ca cb M F.ds) (hM : M.map (·.1) = F.ns) (hu : UsP F (k : Int)) (hd : d.size ≤ 80) :
    Calls Try.prog 36 #[.pointer (some ⟨P, 0, none⟩), .pointer (some ⟨g, k * 5, none⟩), .string d] w fun e w' => e = .returned (.bool (decide (needN d ≤ (allW F (k : Int)).length))) ∧ (needN d ≤ (allW F (k : Int)).length → ∃ M' : List NodeU, M'.map (·.1) = F.ns.set k (wrN F (k : Int) d) ∧ MuF w' lo P g gd F.ns.length F.ds.length ca cb M' (heldDs F (k : Int) d)) ∧ Only (fun q => q = g ∨ q = gd ∨ w.heap.size ≤ q) w w' := by
  obtain ⟨i3, ii, iz0, iz1, iz2⟩ := info_parts Try.infoIntH
  have hk : k < F.ns.length := by simpa using hu.2.2.1
  have hkM : k < M.length := by rw [← hM] at hk; simpa using hk
  have hMk : M[k].1 = F.ns[k] := by simp only [← hM, List.getElem_map]
  have hlow : ∀ z ∈ M, ∀ j, blk z.2 j → j < w.heap.size := fun z hz j hj => hm.nod.low z hz j hj
  have hlo : lo ≤ w.heap.size := by have := hm.in_g; omega
  have hd36 : F.ds.length ≤ 36 := hu.1.1.2.2.2
  have hbl : F.ns[k].b.length ≤ 5 := by have := hu.nod.len; rw [ndAt_nat hk] at this; exact this
  obtain ⟨ab, cc, hMs, hcl, _, hrb⟩ := RdU.own (hm.nod.inn _ (List.getElem_mem hkM))
  have hgx : ∀ j, blk M[k].2 j → j ≠ g ∧ j ≠ gd := fun j hj => ⟨fun e => own_apart (hm.nod.inn _ (List.getElem_mem hkM)) hm.nod.row (by decide) j hj (by rw [e]; rfl), fun e => own_apart (hm.nod.inn _ (List.getElem_mem hkM)) hm.txt (by decide) j hj (by rw [e]; rfl)⟩
  have HLR : Hid (∀ W, Only (fun q => q = g ∨ q = gd ∨ w.heap.size ≤ q) w W → Rd .i64 W ab F.ns[k].b) := fun W hO => by
    have h1 := own_only (hm.nod.inn _ (List.getElem_mem hkM)) hO (fun j hj e => by
      have h2 := hgx j hj
      have h3 := hlow _ (List.getElem_mem hkM) j hj
      omega)
    obtain ⟨ab', cc', hMs', _, _, hrb'⟩ := RdU.own h1
    rw [hMs] at hMs'
    injection hMs' with e1 _ _
    rw [e1, ← hMk]; exact hrb'
  have HST := HoInv.start (n := d.size) hm hkM
  rw [hMk] at HST hMs hcl
  have HAL : Hid (∀ x ∈ allW F (k : Int), 0 ≤ x ∧ x.toNat < F.ds.length) := fun x hx => allW_at hu hx
  have HAP : Hid (∀ j (hj : j < F.ns[k].b.length), (allW F (k : Int))[j]? = some F.ns[k].b[j]) := fun j hj => by
    unfold allW
    rw [ndAt_nat hk, List.getElem?_append_left hj, List.getElem?_eq_getElem hj]
  have hll : F.ns[k].b.length ≤ (allW F (k : Int)).length := by unfold allW; rw [ndAt_nat hk, List.length_append]; omega
  have HFI : Hid (∀ j, j ≤ needN d → j ≤ (allW F (k : Int)).length → F.ns[k].b.length ≤ j → firstE (putN (allW F (k : Int)) d F.ds j) = ((allW F (k : Int))[j]?).getD (-1)) := fun j h1 h2 h3 => first_put hu h1 h2 (by rw [ndAt_nat hk]; exact h3)
  have HWN : Hid (wrN F (k : Int) d = ⟨F.ns[k].k, F.ns[k].g, F.ns[k].t, (d.size : Nat), (allW F (k : Int)).take (needN d)⟩) := by show _ = _; unfold wrN; rw [ndAt_nat hk]
  have HHD : Hid (heldDs F (k : Int) d = clrN (F.ns[k].b.drop (needN d)) (putN (allW F (k : Int)) d F.ds (needN d)) (F.ns[k].b.drop (needN d)).length) := by show _ = _; unfold heldDs restB; rw [ndAt_nat hk]
  have HMM : Hid (∀ (y : NodeD) (u : Value), (M.set k (y, u)).map (·.1) = F.ns.set k y) := fun y u => by rw [List.map_set, hM]
  have HRX : Hid (∀ x ∈ F.ns[k].b, 0 ≤ x ∧ x.toNat < F.ds.length) := fun x hx => by
    have := hu.blk x (by rw [ndAt_nat hk]; exact hx)
    exact ⟨this.1, this.2.1⟩
  have HNE : Hid (∀ j : Nat, 16 * j < d.size ↔ j < needN d) := fun j => by unfold needN; omega
  have hn5 : needN d ≤ 5 := by unfold needN; omega
  have c4 := (hm.celln hkM).2.2.2.2
  have c3 := (hm.celln hkM).2.2.2.1
  rw [hMs] at c4
  have f3 := hm.fz (k * 5 + 3)
  have f4 := hm.fz (k * 5 + 4)
  have HLOW : Hid (∀ z ∈ M, ∀ j, blk z.2 j → j < w.heap.size) := hlow
  have HI0 : Hid (HoInv w ((w.setCell ⟨g, k * 5 + 3, none⟩ (.int .i64 (d.size : Nat))).setCell ⟨g, k * 5 + 4, none⟩ (.slice none 0 0)) lo P g gd F.ns.length F.ds.length ca cb k M ⟨F.ns[k].k, F.ns[k].g, F.ns[k].t, (d.size : Nat), []⟩ (.slice none 0 0) F.ds) := HST
  clear hu hM hm hrb HST hlow hgx hMs hMk
  generalize hALL : allW F (k : Int) = AL at *
  clear hALL
  generalize F.ns[k] = n at *
  clear hk
  go_enter Try.func36, Try.ntmps36
  go_upto_region 3 with fail
  clear c3 c4 f3 f4
  generalize (w.setCell ⟨g, k * 5 + 3, none⟩ (.int .i64 (d.size : Nat))).setCell ⟨g, k * 5 + 4, none⟩ (.slice none 0 0) = W0 at *
  go_wp2
  go_loopw [7, 8] (fun l f wr => ∃ (j : Nat) (al : Option Addr) (cl : Nat) (u : Value), l = .slice al (n.b.drop j).length cl ∧ f = .int .i64 ((16 * j : Nat) : Int) ∧ j ≤ needN d ∧ j ≤ AL.length ∧ (n.b.drop j).length ≤ cl ∧ Hid (∀ W, Only (fun q => q = g ∨ q = gd ∨ w.heap.size ≤ q) w W → Rd .i64 W al (n.b.drop j)) ∧ Hid (HoInv w wr lo P g gd F.ns.length F.ds.length ca cb k M ⟨n.k, n.g, n.t, (d.size : Nat), AL.take j⟩ u (putN AL d F.ds j))) (fun _ f _ => d.size - (intOf f).toNat)
  case atStart => exact ⟨0, ab, cc, .slice none 0 0, rfl, rfl, by omega, by omega, hcl, HLR, HI0⟩
  case round =>
    clear HI0 HLR
    obtain ⟨j, al, cl, u, rfl, rfl, hj, hjA, hcl', HLR, HI⟩ := hrel
    by_cases hlt : 16 * j < d.size
    · have hjn : j < needN d := (HNE.out j).1 hlt
      obtain ⟨v0, v1⟩ := HI.out.mu.vcells
      have hIX := indexE (some ⟨gd, 0, none⟩) cb (putN AL d F.ds j) wr (by rw [putN_len]; omega) HI.out.mu.rdT
      rw [putN_len] at hIX
      have HIX : Hid (Calls Try.prog 59 #[.slice (some ⟨gd, 0, none⟩) F.ds.length cb, .string ⟨#[]⟩] wr fun e w' => e = .returned (.int .i64 (firstE (putN AL d F.ds j))) ∧ w' = wr) := hIX
      clear hIX
      obtain ⟨T, hT⟩ : ∃ T, AL.take j = T := ⟨_, rfl⟩
      rw [hT] at HI
      have hTl : T.length ≤ 5 := by rw [← hT]; simp; omega
      have HTE : Hid (AL.take j = T) := hT
      clear hT
      by_cases hjL : j < n.b.length
      · have hx := HRX.out _ (List.getElem_mem hjL)
        obtain ⟨x, hxx⟩ := natOf hx.1
        have hxl : x < F.ds.length := by have := hx.2; rw [hxx] at this; simpa using this
        have HAJ : Hid (AL[j]? = some (x : Int)) := by show _ = _; rw [HAP.out j hjL, hxx]
        have hdr : n.b.drop j = (x : Int) :: n.b.drop (j + 1) := by rw [← hxx]; exact List.drop_eq_getElem_cons hjL
        have hrd := HLR.out wr HI.out.only
        rw [hdr] at hrd hcl'
        obtain ⟨ga, oa, rfl, hga, hca⟩ := hrd.cellI 0 (by simp)
        simp only [List.getElem_cons_zero, Nat.add_zero] at hca
        rw [List.length_cons] at hcl'
        obtain ⟨o, c', hcut, hor, hcc⟩ := cutI1 ga oa cl ((n.b.drop (j + 1)).length + 1) (by omega) (by omega)
        rw [Nat.add_sub_cancel] at hcut hor hcc
        have HLR2 : Hid (∀ W, Only (fun q => q = g ∨ q = gd ∨ w.heap.size ≤ q) w W → Rd .i64 W (some ⟨ga, o, none⟩) (n.b.drop (j + 1))) := fun W hO => by
          have := HLR.out W hO
          rw [hdr] at this
          exact rdI_cut1 this hor
        have hln : (n.b.drop j).length = (n.b.drop (j + 1)).length + 1 := by rw [hdr, List.length_cons]
        rw [hln]
        have hjA1 : j + 1 ≤ AL.length := by omega
        have hfd := HI.out.mu.fzd x
        clear hx hxx hrd hdr hor HLR hll hln hjL
        obtain ⟨nl, hnl⟩ : ∃ q, (n.b.drop (j + 1)).length = q := ⟨_, rfl⟩
        rw [hnl] at hcut hcc hcl'
        rw [hnl]
        have HNL : Hid ((n.b.drop (j + 1)).length = nl) := hnl
        clear hnl
        go_wp2_with fail
        refine HIX.out.mono ?_
        rintro e W' ⟨rfl, hw'⟩
        subst W'
        clear HIX
        go_upto_region 8 with fail
        go_quiet (fail)
        have HI1 : Hid (HoInv w (wr.drewN nq) lo P g gd F.ns.length F.ds.length ca cb k M ⟨n.k, n.g, n.t, (d.size : Nat), T⟩ u (putN AL d F.ds j)) := HI.out.new (belowN (Below.refl _ _) nq)
        clear HI v0 v1 hca hfd hcut
        generalize firstE (putN AL d F.ds j) = fe at *
        generalize wr.drewN nq = wq at *
        obtain ⟨v0, v1⟩ := HI1.out.mu.vcells
        have hfd := HI1.out.mu.fzd x
        go_upto_region 11 with fail
        have hwr : IntKind.i64.wrap (16 * (j : Int) + 16) = 16 * (j : Int) + 16 := by rw [IntKind.wrap_i64]; omega
        obtain ⟨pc, hpc⟩ : ∃ x, piece d j = x := ⟨_, rfl⟩
        have HPS : Hid (pc.size ≤ 16) := by show _ ≤ _; rw [← hpc]; exact piece_le d j
        have hsl : ∀ W, (Instr.slice 9 (.string d) (some (.int .i64 (16 * (j : Int)))) (some (.int .i64 (min (16 * (j : Int) + 16) (d.size : Int)))) none).run Try.prog W = .ok (.string pc) W := fun W => by
          have := run_slice_string (P := Try.prog) W 9 d .i64 .i64 (16 * (j : Int)) (min (16 * (j : Int) + 16) (d.size : Int)) Try.underlying9 (by omega) (by omega) (by omega)
          rw [this, ← hpc]
          unfold piece
          rw [show (16 * (j : Int)).toNat = 16 * j by omega, show (min (16 * (j : Int) + 16) (d.size : Int)).toNat = min (16 * j + 16) d.size by omega]
        have HPC : Hid (piece d j = pc) := hpc
        clear hpc
        refine wp_region_noPanic ?_
        refine wp_region_held_drew (S := fun _ => True) (by kernel_rfl) trivial (fun hT => ?_)
        clear hT
        have HI2 : Hid (HoInv w wq.drew lo P g gd F.ns.length F.ds.length ca cb k M ⟨n.k, n.g, n.t, (d.size : Nat), T⟩ u (putN AL d F.ds j)) := HI1.out.drew
        clear HI1
        generalize wq.drew = WD at *
        refine held_take (i := 0) (v := .pointer (some ⟨P, 0, none⟩)) rfl rfl (by kernel_rfl) (by kernel_rfl) (by kernel_rfl) (by kernel_rfl) (fun W _ => by go_simp) trivial ?_
        simp only [Act.put, List.setIfInBounds_toArray, List.set_cons_zero, List.set_cons_succ]
        refine held_take (i := 1) (v := .pointer (some ⟨P, 0, none⟩)) rfl rfl (by kernel_rfl) (by kernel_rfl) (by kernel_rfl) (by kernel_rfl) (fun W _ => by go_simp) trivial ?_
        simp only [Act.put, List.setIfInBounds_toArray, List.set_cons_zero, List.set_cons_succ]
        refine held_take (i := 2) (v := .pointer (some ⟨P, 1, none⟩)) rfl rfl (by kernel_rfl) (by kernel_rfl) (by kernel_rfl) (by kernel_rfl) (fun W _ => by go_simp) trivial ?_
        simp only [Act.put, List.setIfInBounds_toArray, List.set_cons_zero, List.set_cons_succ]
        refine held_take (i := 4) (v := .int .i64 (x : Nat)) rfl rfl (by kernel_rfl) (by kernel_rfl) (by kernel_rfl) (by kernel_rfl) (fun W _ => by go_simp) trivial ?_
        simp only [Act.put, List.setIfInBounds_toArray, List.set_cons_zero, List.set_cons_succ]
        refine held_take (i := 5) (v := .string d) rfl rfl (by kernel_rfl) (by kernel_rfl) (by kernel_rfl) (by kernel_rfl) (fun W _ => by go_simp) trivial ?_
        simp only [Act.put, List.setIfInBounds_toArray, List.set_cons_zero, List.set_cons_succ]
        refine held_take (i := 6) (v := .int .i64 (16 * (j : Int))) rfl rfl (by kernel_rfl) (by kernel_rfl) (by kernel_rfl) (by kernel_rfl) (fun W _ => by go_simp) trivial ?_
        simp only [Act.put, List.setIfInBounds_toArray, List.set_cons_zero, List.set_cons_succ]
        refine held_take (i := 7) (v := .int .i64 (16 * (j : Int))) rfl rfl (by kernel_rfl) (by kernel_rfl) (by kernel_rfl) (by kernel_rfl) (fun W _ => by go_simp) trivial ?_
        simp only [Act.put, List.setIfInBounds_toArray, List.set_cons_zero, List.set_cons_succ]
        refine held_take (i := 8) (v := .int .i64 (16 * (j : Int) + 16)) rfl rfl (by kernel_rfl) (by kernel_rfl) (by kernel_rfl) (by kernel_rfl) (fun W _ => by go_simp) trivial ?_
        simp only [Act.put, List.setIfInBounds_toArray, List.set_cons_zero, List.set_cons_succ]
        refine held_take (i := 9) (v := .string d) rfl rfl (by kernel_rfl) (by kernel_rfl) (by kernel_rfl) (by kernel_rfl) (fun W _ => by go_simp) trivial ?_
        simp only [Act.put, List.setIfInBounds_toArray, List.set_cons_zero, List.set_cons_succ]
        refine held_take (i := 10) (v := .int .i64 (d.size : Nat)) rfl rfl (by kernel_rfl) (by kernel_rfl) (by kernel_rfl) (by kernel_rfl) (fun W _ => by go_simp) trivial ?_
        simp only [Act.put, List.setIfInBounds_toArray, List.set_cons_zero, List.set_cons_succ]
        refine held_take (i := 11) (v := .int .i64 (min (16 * (j : Int) + 16) (d.size : Int))) rfl rfl (by kernel_rfl) (by kernel_rfl) (by kernel_rfl) (by kernel_rfl) (fun W _ => by go_simp) trivial ?_
        simp only [Act.put, List.setIfInBounds_toArray, List.set_cons_zero, List.set_cons_succ]
        refine held_take (i := 12) (v := .string pc) rfl rfl (by kernel_rfl) (by kernel_rfl) (by kernel_rfl) (by kernel_rfl) (fun W _ => by go_simp) trivial ?_
        simp only [Act.put, List.setIfInBounds_toArray, List.set_cons_zero, List.set_cons_succ]
        refine wpAnyH_ready (rs := [3, 13]) (by kernel_rfl) (by simp) (AllReadyH.cons rfl (fun K hK => ?_) (AllReadyH.cons rfl (fun K hK => ?_) AllReadyH.nil))
        · skip
          have v1 := HI2.out.mu.vcells.2
          go_simp
          refine hK.out _ _ trivial (fun hT => ?_)
          clear hK K hT
          try simp only [Act.put, List.setIfInBounds_toArray, List.set_cons_zero, List.set_cons_succ]
          clear v1
          refine wpAnyH_ready (rs := [13]) (by kernel_rfl) (by simp) (AllReadyH.cons rfl (fun K hK => ?_) AllReadyH.nil)
          go_simp
          refine (cloneT pc _ (by have := HPS.out; omega)).mono ?_
          rintro e w2 ⟨rfl, hbc⟩
          have HIn := HI2.out.new hbc
          have HI3 : Hid (HoInv w w2 lo P g gd F.ns.length F.ds.length ca cb k M ⟨n.k, n.g, n.t, (d.size : Nat), T⟩ u (putN AL d F.ds j)) := HIn
          refine hK.out _ _ trivial (fun hT => ?_)
          clear hK K hT
          try simp only [Act.put, List.setIfInBounds_toArray, List.set_cons_zero, List.set_cons_succ]
          clear HI2 hbc HIn
          have HI2 := HI3
          clear HI3
          refine held_take (i := 14) (v := .pointer (some ⟨gd, x, none⟩)) rfl rfl (by kernel_rfl) (by kernel_rfl) (by kernel_rfl) (by kernel_rfl) (fun W _ => by go_simp) trivial ?_
          simp only [Act.put, List.setIfInBounds_toArray, List.set_cons_zero, List.set_cons_succ]
          refine wpAnyH_ready (rs := [15]) (by kernel_rfl) (by simp) (AllReadyH.cons rfl (fun K hK => ?_) AllReadyH.nil)
          have hfd := HI2.out.mu.fzd x
          have hcd := HI2.out.mu.celld (k := x) (by rw [putN_len]; exact hxl)
          have HI4 : Hid (HoInv w (w2.setCell ⟨gd, x, none⟩ (.string pc)) lo P g gd F.ns.length F.ds.length ca cb k M ⟨n.k, n.g, n.t, (d.size : Nat), T⟩ u ((putN AL d F.ds j).set x pc)) := HI2.out.text x pc
          go_simp
          refine hK.out _ _ trivial (fun hT => ?_)
          clear hK K hT
          try simp only [Act.put, List.setIfInBounds_toArray, List.set_cons_zero, List.set_cons_succ]
          clear hfd hcd HI2 hsl hwr
          refine wpAnyH_done (by kernel_rfl) ?_ _
          simp only [NoPanic]
          generalize w2.setCell ⟨gd, x, none⟩ (.string pc) = w4 at *
          have HPN : Hid (putN AL d F.ds (j + 1) = (putN AL d F.ds j).set x pc) := by show _ = _; rw [putN, HAJ.out, HPC.out, Option.getD_some, Int.toNat_natCast]
          have HTN : Hid (AL.take (j + 1) = T ++ [(x : Int)]) := by show _ = _; rw [List.take_add_one, HAJ.out, HTE.out]; rfl
          have c4 := HI4.out.cell4 hkM
          obtain ⟨au, cu, rfl⟩ := ownSliceD HI4.out.own
          have HI5 : Hid (HoInv w (w4.alloc (.cells #[.int .i64 (x : Nat)] 3)) lo P g gd F.ns.length F.ds.length ca cb k M ⟨n.k, n.g, n.t, (d.size : Nat), T⟩ (.slice au T.length cu) ((putN AL d F.ds j).set x pc)) := HI4.out.new (below1 _ _)
          have HS5 : Hid (Src Try.prog 1 53 (.slice (some ⟨w4.heap.size, 0, none⟩) 1 1) 1 [.int .i64 (x : Nat)] (w4.alloc (.cells #[.int .i64 (x : Nat)] 3))) := srcOneD Try.underlying53 w4 (.int .i64 (x : Nat)) rfl
          have HO5 : Hid ((w4.alloc (.cells #[.int .i64 (x : Nat)] 3)).ownsRow w.heap.size 3 1 (.slice au T.length cu) T.length (T.map (Value.int .i64))) := HI5.out.own
          have hsz5 : w.heap.size ≤ (w4.alloc (.cells #[.int .i64 (x : Nat)] 3)).heap.size := HI5.out.only.size
          clear HI4
          go_wp2_with (at_builtin; refine wpList_append_own_src _ rfl (.tmp 64) (.tmp 66) 53 53 rfl w.heap.size 3 i3 (.int .i64 0) 1 8 Try.underlying53 ii iz0 iz1 iz2 rfl _ _ _ rfl HO5.out _ 1 [.int .i64 (x : Nat)] rfl HS5.out (by unfold maxLen; omega) (by omega) hsz5 ?_)
          intro v8 w8 ho8 hg8
          obtain ⟨a8, c8, rfl⟩ := ownSliceD ho8
          obtain ⟨d4, f4⟩ := HI5.out.grown4 hkM hg8
          have hI9 := HI5.out.app hkM HLOW.out hlo ho8 hg8
          rw [← HTN.out, ← HPN.out] at hI9
          have HI9 : Hid (HoInv w (w8.setCell ⟨g, k * 5 + 4, none⟩ (.slice a8 (T.length + 1) c8)) lo P g gd F.ns.length F.ds.length ca cb k M ⟨n.k, n.g, n.t, (d.size : Nat), AL.take (j + 1)⟩ (.slice a8 (T.length + 1) c8) (putN AL d F.ds (j + 1))) := hI9
          clear hI9 HI5 HO5 HS5 ho8 hg8 hsz5 c4 HPN HTN HAJ HPC HPS HTE
          go_wp2
          go_roundw
          case rel => exact ⟨j + 1, some ⟨ga, o, none⟩, c', _, by rw [HNL.out], by go_num, hjn, hjA1, by rw [HNL.out]; omega, HLR2, HI9⟩
          case measure => simp [intOf]; omega
        · skip
          go_simp
          refine (cloneT pc _ (by have := HPS.out; omega)).mono ?_
          rintro e w2 ⟨rfl, hbc⟩
          have HIn := HI2.out.new hbc
          have HI3 : Hid (HoInv w w2 lo P g gd F.ns.length F.ds.length ca cb k M ⟨n.k, n.g, n.t, (d.size : Nat), T⟩ u (putN AL d F.ds j)) := HIn
          refine hK.out _ _ trivial (fun hT => ?_)
          clear hK K hT
          try simp only [Act.put, List.setIfInBounds_toArray, List.set_cons_zero, List.set_cons_succ]
          clear HI2 hbc HIn
          have HI2 := HI3
          clear HI3
          refine wpAnyH_ready (rs := [3]) (by kernel_rfl) (by simp) (AllReadyH.cons rfl (fun K hK => ?_) AllReadyH.nil)
          have v1 := HI2.out.mu.vcells.2
          go_simp
          refine hK.out _ _ trivial (fun hT => ?_)
          clear hK K hT
          try simp only [Act.put, List.setIfInBounds_toArray, List.set_cons_zero, List.set_cons_succ]
          clear v1
          refine held_take (i := 14) (v := .pointer (some ⟨gd, x, none⟩)) rfl rfl (by kernel_rfl) (by kernel_rfl) (by kernel_rfl) (by kernel_rfl) (fun W _ => by go_simp) trivial ?_
          simp only [Act.put, List.setIfInBounds_toArray, List.set_cons_zero, List.set_cons_succ]
          refine wpAnyH_ready (rs := [15]) (by kernel_rfl) (by simp) (AllReadyH.cons rfl (fun K hK => ?_) AllReadyH.nil)
          have hfd := HI2.out.mu.fzd x
          have hcd := HI2.out.mu.celld (k := x) (by rw [putN_len]; exact hxl)
          have HI4 : Hid (HoInv w (w2.setCell ⟨gd, x, none⟩ (.string pc)) lo P g gd F.ns.length F.ds.length ca cb k M ⟨n.k, n.g, n.t, (d.size : Nat), T⟩ u ((putN AL d F.ds j).set x pc)) := HI2.out.text x pc
          go_simp
          refine hK.out _ _ trivial (fun hT => ?_)
          clear hK K hT
          try simp only [Act.put, List.setIfInBounds_toArray, List.set_cons_zero, List.set_cons_succ]
          clear hfd hcd HI2 hsl hwr
          refine wpAnyH_done (by kernel_rfl) ?_ _
          simp only [NoPanic]
          generalize w2.setCell ⟨gd, x, none⟩ (.string pc) = w4 at *
          have HPN : Hid (putN AL d F.ds (j + 1) = (putN AL d F.ds j).set x pc) := by show _ = _; rw [putN, HAJ.out, HPC.out, Option.getD_some, Int.toNat_natCast]
          have HTN : Hid (AL.take (j + 1) = T ++ [(x : Int)]) := by show _ = _; rw [List.take_add_one, HAJ.out, HTE.out]; rfl
          have c4 := HI4.out.cell4 hkM
          obtain ⟨au, cu, rfl⟩ := ownSliceD HI4.out.own
          have HI5 : Hid (HoInv w (w4.alloc (.cells #[.int .i64 (x : Nat)] 3)) lo P g gd F.ns.length F.ds.length ca cb k M ⟨n.k, n.g, n.t, (d.size : Nat), T⟩ (.slice au T.length cu) ((putN AL d F.ds j).set x pc)) := HI4.out.new (below1 _ _)
          have HS5 : Hid (Src Try.prog 1 53 (.slice (some ⟨w4.heap.size, 0, none⟩) 1 1) 1 [.int .i64 (x : Nat)] (w4.alloc (.cells #[.int .i64 (x : Nat)] 3))) := srcOneD Try.underlying53 w4 (.int .i64 (x : Nat)) rfl
          have HO5 : Hid ((w4.alloc (.cells #[.int .i64 (x : Nat)] 3)).ownsRow w.heap.size 3 1 (.slice au T.length cu) T.length (T.map (Value.int .i64))) := HI5.out.own
          have hsz5 : w.heap.size ≤ (w4.alloc (.cells #[.int .i64 (x : Nat)] 3)).heap.size := HI5.out.only.size
          clear HI4
          go_wp2_with (at_builtin; refine wpList_append_own_src _ rfl (.tmp 64) (.tmp 66) 53 53 rfl w.heap.size 3 i3 (.int .i64 0) 1 8 Try.underlying53 ii iz0 iz1 iz2 rfl _ _ _ rfl HO5.out _ 1 [.int .i64 (x : Nat)] rfl HS5.out (by unfold maxLen; omega) (by omega) hsz5 ?_)
          intro v8 w8 ho8 hg8
          obtain ⟨a8, c8, rfl⟩ := ownSliceD ho8
          obtain ⟨d4, f4⟩ := HI5.out.grown4 hkM hg8
          have hI9 := HI5.out.app hkM HLOW.out hlo ho8 hg8
          rw [← HTN.out, ← HPN.out] at hI9
          have HI9 : Hid (HoInv w (w8.setCell ⟨g, k * 5 + 4, none⟩ (.slice a8 (T.length + 1) c8)) lo P g gd F.ns.length F.ds.length ca cb k M ⟨n.k, n.g, n.t, (d.size : Nat), AL.take (j + 1)⟩ (.slice a8 (T.length + 1) c8) (putN AL d F.ds (j + 1))) := hI9
          clear hI9 HI5 HO5 HS5 ho8 hg8 hsz5 c4 HPN HTN HAJ HPC HPS HTE
          go_wp2
          go_roundw
          case rel => exact ⟨j + 1, some ⟨ga, o, none⟩, c', _, by rw [HNL.out], by go_num, hjn, hjA1, by rw [HNL.out]; omega, HLR2, HI9⟩
          case measure => simp [intOf]; omega
      · have hd0 : n.b.drop j = [] := List.drop_eq_nil_of_le (by omega)
        have hd1 : n.b.drop (j + 1) = [] := List.drop_eq_nil_of_le (by omega)
        have hl0 : (n.b.drop j).length = 0 := by rw [hd0]; rfl
        have HNL : Hid ((n.b.drop (j + 1)).length = 0) := by show _ = _; rw [hd1]; rfl
        rw [hl0] at hcl'
        rw [hl0]
        have HLR2 : Hid (∀ W, Only (fun q => q = g ∨ q = gd ∨ w.heap.size ≤ q) w W → Rd .i64 W al (n.b.drop (j + 1))) := fun W _ => by rw [hd1]; exact .inl rfl
        have hfe := HFI.out j (by omega) hjA (by omega)
        by_cases hjA1' : j < AL.length
        · have hx := HAL.out _ (List.getElem_mem hjA1')
          obtain ⟨x, hxx⟩ := natOf hx.1
          have hxl : x < F.ds.length := by have := hx.2; rw [hxx] at this; simpa using this
          have HAJ : Hid (AL[j]? = some (x : Int)) := by show _ = _; rw [List.getElem?_eq_getElem hjA1', hxx]
          rw [HAJ.out, Option.getD_some] at hfe
          rw [hfe] at HIX
          have hjA1 : j + 1 ≤ AL.length := hjA1'
          clear hx hxx hd0 hd1 hl0 hfe HLR hll hjL hjA1'
          go_wp2_with fail
          refine HIX.out.mono ?_
          rintro e W' ⟨rfl, hw'⟩
          subst W'
          clear HIX
          go_upto_region 11 with fail
          have HI1 : Hid (HoInv w wr lo P g gd F.ns.length F.ds.length ca cb k M ⟨n.k, n.g, n.t, (d.size : Nat), T⟩ u (putN AL d F.ds j)) := HI
          clear HI v0 v1
          generalize wr = wq at *
          have hwr : IntKind.i64.wrap (16 * (j : Int) + 16) = 16 * (j : Int) + 16 := by rw [IntKind.wrap_i64]; omega
          obtain ⟨pc, hpc⟩ : ∃ x, piece d j = x := ⟨_, rfl⟩
          have HPS : Hid (pc.size ≤ 16) := by show _ ≤ _; rw [← hpc]; exact piece_le d j
          have hsl : ∀ W, (Instr.slice 9 (.string d) (some (.int .i64 (16 * (j : Int)))) (some (.int .i64 (min (16 * (j : Int) + 16) (d.size : Int)))) none).run Try.prog W = .ok (.string pc) W := fun W => by
            have := run_slice_string (P := Try.prog) W 9 d .i64 .i64 (16 * (j : Int)) (min (16 * (j : Int) + 16) (d.size : Int)) Try.underlying9 (by omega) (by omega) (by omega)
            rw [this, ← hpc]
            unfold piece
            rw [show (16 * (j : Int)).toNat = 16 * j by omega, show (min (16 * (j : Int) + 16) (d.size : Int)).toNat = min (16 * j + 16) d.size by omega]
          have HPC : Hid (piece d j = pc) := hpc
          clear hpc
          refine wp_region_noPanic ?_
          refine wp_region_held_drew (S := fun _ => True) (by kernel_rfl) trivial (fun hT => ?_)
          clear hT
          have HI2 : Hid (HoInv w wq.drew lo P g gd F.ns.length F.ds.length ca cb k M ⟨n.k, n.g, n.t, (d.size : Nat), T⟩ u (putN AL d F.ds j)) := HI1.out.drew
          clear HI1
          generalize wq.drew = WD at *
          refine held_take (i := 0) (v := .pointer (some ⟨P, 0, none⟩)) rfl rfl (by kernel_rfl) (by kernel_rfl) (by kernel_rfl) (by kernel_rfl) (fun W _ => by go_simp) trivial ?_
          simp only [Act.put, List.setIfInBounds_toArray, List.set_cons_zero, List.set_cons_succ]
          refine held_take (i := 1) (v := .pointer (some ⟨P, 0, none⟩)) rfl rfl (by kernel_rfl) (by kernel_rfl) (by kernel_rfl) (by kernel_rfl) (fun W _ => by go_simp) trivial ?_
          simp only [Act.put, List.setIfInBounds_toArray, List.set_cons_zero, List.set_cons_succ]
          refine held_take (i := 2) (v := .pointer (some ⟨P, 1, none⟩)) rfl rfl (by kernel_rfl) (by kernel_rfl) (by kernel_rfl) (by kernel_rfl) (fun W _ => by go_simp) trivial ?_
          simp only [Act.put, List.setIfInBounds_toArray, List.set_cons_zero, List.set_cons_succ]
          refine held_take (i := 4) (v := .int .i64 (x : Nat)) rfl rfl (by kernel_rfl) (by kernel_rfl) (by kernel_rfl) (by kernel_rfl) (fun W _ => by go_simp) trivial ?_
          simp only [Act.put, List.setIfInBounds_toArray, List.set_cons_zero, List.set_cons_succ]
          refine held_take (i := 5) (v := .string d) rfl rfl (by kernel_rfl) (by kernel_rfl) (by kernel_rfl) (by kernel_rfl) (fun W _ => by go_simp) trivial ?_
          simp only [Act.put, List.setIfInBounds_toArray, List.set_cons_zero, List.set_cons_succ]
          refine held_take (i := 6) (v := .int .i64 (16 * (j : Int))) rfl rfl (by kernel_rfl) (by kernel_rfl) (by kernel_rfl) (by kernel_rfl) (fun W _ => by go_simp) trivial ?_
          simp only [Act.put, List.setIfInBounds_toArray, List.set_cons_zero, List.set_cons_succ]
          refine held_take (i := 7) (v := .int .i64 (16 * (j : Int))) rfl rfl (by kernel_rfl) (by kernel_rfl) (by kernel_rfl) (by kernel_rfl) (fun W _ => by go_simp) trivial ?_
          simp only [Act.put, List.setIfInBounds_toArray, List.set_cons_zero, List.set_cons_succ]
          refine held_take (i := 8) (v := .int .i64 (16 * (j : Int) + 16)) rfl rfl (by kernel_rfl) (by kernel_rfl) (by kernel_rfl) (by kernel_rfl) (fun W _ => by go_simp) trivial ?_
          simp only [Act.put, List.setIfInBounds_toArray, List.set_cons_zero, List.set_cons_succ]
          refine held_take (i := 9) (v := .string d) rfl rfl (by kernel_rfl) (by kernel_rfl) (by kernel_rfl) (by kernel_rfl) (fun W _ => by go_simp) trivial ?_
          simp only [Act.put, List.setIfInBounds_toArray, List.set_cons_zero, List.set_cons_succ]
          refine held_take (i := 10) (v := .int .i64 (d.size : Nat)) rfl rfl (by kernel_rfl) (by kernel_rfl) (by kernel_rfl) (by kernel_rfl) (fun W _ => by go_simp) trivial ?_
          simp only [Act.put, List.setIfInBounds_toArray, List.set_cons_zero, List.set_cons_succ]
          refine held_take (i := 11) (v := .int .i64 (min (16 * (j : Int) + 16) (d.size : Int))) rfl rfl (by kernel_rfl) (by kernel_rfl) (by kernel_rfl) (by kernel_rfl) (fun W _ => by go_simp) trivial ?_
          simp only [Act.put, List.setIfInBounds_toArray, List.set_cons_zero, List.set_cons_succ]
          refine held_take (i := 12) (v := .string pc) rfl rfl (by kernel_rfl) (by kernel_rfl) (by kernel_rfl) (by kernel_rfl) (fun W _ => by go_simp) trivial ?_
          simp only [Act.put, List.setIfInBounds_toArray, List.set_cons_zero, List.set_cons_succ]
          refine wpAnyH_ready (rs := [3, 13]) (by kernel_rfl) (by simp) (AllReadyH.cons rfl (fun K hK => ?_) (AllReadyH.cons rfl (fun K hK => ?_) AllReadyH.nil))
          · skip
            have v1 := HI2.out.mu.vcells.2
            go_simp
            refine hK.out _ _ trivial (fun hT => ?_)
            clear hK K hT
            try simp only [Act.put, List.setIfInBounds_toArray, List.set_cons_zero, List.set_cons_succ]
            clear v1
            refine wpAnyH_ready (rs := [13]) (by kernel_rfl) (by simp) (AllReadyH.cons rfl (fun K hK => ?_) AllReadyH.nil)
            go_simp
            refine (cloneT pc _ (by have := HPS.out; omega)).mono ?_
            rintro e w2 ⟨rfl, hbc⟩
            have HIn := HI2.out.new hbc
            have HI3 : Hid (HoInv w w2 lo P g gd F.ns.length F.ds.length ca cb k M ⟨n.k, n.g, n.t, (d.size : Nat), T⟩ u (putN AL d F.ds j)) := HIn
            refine hK.out _ _ trivial (fun hT => ?_)
            clear hK K hT
            try simp only [Act.put, List.setIfInBounds_toArray, List.set_cons_zero, List.set_cons_succ]
            clear HI2 hbc HIn
            have HI2 := HI3
            clear HI3
            refine held_take (i := 14) (v := .pointer (some ⟨gd, x, none⟩)) rfl rfl (by kernel_rfl) (by kernel_rfl) (by kernel_rfl) (by kernel_rfl) (fun W _ => by go_simp) trivial ?_
            simp only [Act.put, List.setIfInBounds_toArray, List.set_cons_zero, List.set_cons_succ]
            refine wpAnyH_ready (rs := [15]) (by kernel_rfl) (by simp) (AllReadyH.cons rfl (fun K hK => ?_) AllReadyH.nil)
            have hfd := HI2.out.mu.fzd x
            have hcd := HI2.out.mu.celld (k := x) (by rw [putN_len]; exact hxl)
            have HI4 : Hid (HoInv w (w2.setCell ⟨gd, x, none⟩ (.string pc)) lo P g gd F.ns.length F.ds.length ca cb k M ⟨n.k, n.g, n.t, (d.size : Nat), T⟩ u ((putN AL d F.ds j).set x pc)) := HI2.out.text x pc
            go_simp
            refine hK.out _ _ trivial (fun hT => ?_)
            clear hK K hT
            try simp only [Act.put, List.setIfInBounds_toArray, List.set_cons_zero, List.set_cons_succ]
            clear hfd hcd HI2 hsl hwr
            refine wpAnyH_done (by kernel_rfl) ?_ _
            simp only [NoPanic]
            generalize w2.setCell ⟨gd, x, none⟩ (.string pc) = w4 at *
            have HPN : Hid (putN AL d F.ds (j + 1) = (putN AL d F.ds j).set x pc) := by show _ = _; rw [putN, HAJ.out, HPC.out, Option.getD_some, Int.toNat_natCast]
            have HTN : Hid (AL.take (j + 1) = T ++ [(x : Int)]) := by show _ = _; rw [List.take_add_one, HAJ.out, HTE.out]; rfl
            have c4 := HI4.out.cell4 hkM
            obtain ⟨au, cu, rfl⟩ := ownSliceD HI4.out.own
            have HI5 : Hid (HoInv w (w4.alloc (.cells #[.int .i64 (x : Nat)] 3)) lo P g gd F.ns.length F.ds.length ca cb k M ⟨n.k, n.g, n.t, (d.size : Nat), T⟩ (.slice au T.length cu) ((putN AL d F.ds j).set x pc)) := HI4.out.new (below1 _ _)
            have HS5 : Hid (Src Try.prog 1 53 (.slice (some ⟨w4.heap.size, 0, none⟩) 1 1) 1 [.int .i64 (x : Nat)] (w4.alloc (.cells #[.int .i64 (x : Nat)] 3))) := srcOneD Try.underlying53 w4 (.int .i64 (x : Nat)) rfl
            have HO5 : Hid ((w4.alloc (.cells #[.int .i64 (x : Nat)] 3)).ownsRow w.heap.size 3 1 (.slice au T.length cu) T.length (T.map (Value.int .i64))) := HI5.out.own
            have hsz5 : w.heap.size ≤ (w4.alloc (.cells #[.int .i64 (x : Nat)] 3)).heap.size := HI5.out.only.size
            clear HI4
            go_wp2_with (at_builtin; refine wpList_append_own_src _ rfl (.tmp 64) (.tmp 66) 53 53 rfl w.heap.size 3 i3 (.int .i64 0) 1 8 Try.underlying53 ii iz0 iz1 iz2 rfl _ _ _ rfl HO5.out _ 1 [.int .i64 (x : Nat)] rfl HS5.out (by unfold maxLen; omega) (by omega) hsz5 ?_)
            intro v8 w8 ho8 hg8
            obtain ⟨a8, c8, rfl⟩ := ownSliceD ho8
            obtain ⟨d4, f4⟩ := HI5.out.grown4 hkM hg8
            have hI9 := HI5.out.app hkM HLOW.out hlo ho8 hg8
            rw [← HTN.out, ← HPN.out] at hI9
            have HI9 : Hid (HoInv w (w8.setCell ⟨g, k * 5 + 4, none⟩ (.slice a8 (T.length + 1) c8)) lo P g gd F.ns.length F.ds.length ca cb k M ⟨n.k, n.g, n.t, (d.size : Nat), AL.take (j + 1)⟩ (.slice a8 (T.length + 1) c8) (putN AL d F.ds (j + 1))) := hI9
            clear hI9 HI5 HO5 HS5 ho8 hg8 hsz5 c4 HPN HTN HAJ HPC HPS HTE
            go_wp2
            go_roundw
            case rel => exact ⟨j + 1, al, cl, _, by rw [HNL.out], by go_num, hjn, hjA1, by rw [HNL.out]; omega, HLR2, HI9⟩
            case measure => simp [intOf]; omega
          · skip
            go_simp
            refine (cloneT pc _ (by have := HPS.out; omega)).mono ?_
            rintro e w2 ⟨rfl, hbc⟩
            have HIn := HI2.out.new hbc
            have HI3 : Hid (HoInv w w2 lo P g gd F.ns.length F.ds.length ca cb k M ⟨n.k, n.g, n.t, (d.size : Nat), T⟩ u (putN AL d F.ds j)) := HIn
            refine hK.out _ _ trivial (fun hT => ?_)
            clear hK K hT
            try simp only [Act.put, List.setIfInBounds_toArray, List.set_cons_zero, List.set_cons_succ]
            clear HI2 hbc HIn
            have HI2 := HI3
            clear HI3
            refine wpAnyH_ready (rs := [3]) (by kernel_rfl) (by simp) (AllReadyH.cons rfl (fun K hK => ?_) AllReadyH.nil)
            have v1 := HI2.out.mu.vcells.2
            go_simp
            refine hK.out _ _ trivial (fun hT => ?_)
            clear hK K hT
            try simp only [Act.put, List.setIfInBounds_toArray, List.set_cons_zero, List.set_cons_succ]
            clear v1
            refine held_take (i := 14) (v := .pointer (some ⟨gd, x, none⟩)) rfl rfl (by kernel_rfl) (by kernel_rfl) (by kernel_rfl) (by kernel_rfl) (fun W _ => by go_simp) trivial ?_
            simp only [Act.put, List.setIfInBounds_toArray, List.set_cons_zero, List.set_cons_succ]
            refine wpAnyH_ready (rs := [15]) (by kernel_rfl) (by simp) (AllReadyH.cons rfl (fun K hK => ?_) AllReadyH.nil)
            have hfd := HI2.out.mu.fzd x
            have hcd := HI2.out.mu.celld (k := x) (by rw [putN_len]; exact hxl)
            have HI4 : Hid (HoInv w (w2.setCell ⟨gd, x, none⟩ (.string pc)) lo P g gd F.ns.length F.ds.length ca cb k M ⟨n.k, n.g, n.t, (d.size : Nat), T⟩ u ((putN AL d F.ds j).set x pc)) := HI2.out.text x pc
            go_simp
            refine hK.out _ _ trivial (fun hT => ?_)
            clear hK K hT
            try simp only [Act.put, List.setIfInBounds_toArray, List.set_cons_zero, List.set_cons_succ]
            clear hfd hcd HI2 hsl hwr
            refine wpAnyH_done (by kernel_rfl) ?_ _
            simp only [NoPanic]
            generalize w2.setCell ⟨gd, x, none⟩ (.string pc) = w4 at *
            have HPN : Hid (putN AL d F.ds (j + 1) = (putN AL d F.ds j).set x pc) := by show _ = _; rw [putN, HAJ.out, HPC.out, Option.getD_some, Int.toNat_natCast]
            have HTN : Hid (AL.take (j + 1) = T ++ [(x : Int)]) := by show _ = _; rw [List.take_add_one, HAJ.out, HTE.out]; rfl
            have c4 := HI4.out.cell4 hkM
            obtain ⟨au, cu, rfl⟩ := ownSliceD HI4.out.own
            have HI5 : Hid (HoInv w (w4.alloc (.cells #[.int .i64 (x : Nat)] 3)) lo P g gd F.ns.length F.ds.length ca cb k M ⟨n.k, n.g, n.t, (d.size : Nat), T⟩ (.slice au T.length cu) ((putN AL d F.ds j).set x pc)) := HI4.out.new (below1 _ _)
            have HS5 : Hid (Src Try.prog 1 53 (.slice (some ⟨w4.heap.size, 0, none⟩) 1 1) 1 [.int .i64 (x : Nat)] (w4.alloc (.cells #[.int .i64 (x : Nat)] 3))) := srcOneD Try.underlying53 w4 (.int .i64 (x : Nat)) rfl
            have HO5 : Hid ((w4.alloc (.cells #[.int .i64 (x : Nat)] 3)).ownsRow w.heap.size 3 1 (.slice au T.length cu) T.length (T.map (Value.int .i64))) := HI5.out.own
            have hsz5 : w.heap.size ≤ (w4.alloc (.cells #[.int .i64 (x : Nat)] 3)).heap.size := HI5.out.only.size
            clear HI4
            go_wp2_with (at_builtin; refine wpList_append_own_src _ rfl (.tmp 64) (.tmp 66) 53 53 rfl w.heap.size 3 i3 (.int .i64 0) 1 8 Try.underlying53 ii iz0 iz1 iz2 rfl _ _ _ rfl HO5.out _ 1 [.int .i64 (x : Nat)] rfl HS5.out (by unfold maxLen; omega) (by omega) hsz5 ?_)
            intro v8 w8 ho8 hg8
            obtain ⟨a8, c8, rfl⟩ := ownSliceD ho8
            obtain ⟨d4, f4⟩ := HI5.out.grown4 hkM hg8
            have hI9 := HI5.out.app hkM HLOW.out hlo ho8 hg8
            rw [← HTN.out, ← HPN.out] at hI9
            have HI9 : Hid (HoInv w (w8.setCell ⟨g, k * 5 + 4, none⟩ (.slice a8 (T.length + 1) c8)) lo P g gd F.ns.length F.ds.length ca cb k M ⟨n.k, n.g, n.t, (d.size : Nat), AL.take (j + 1)⟩ (.slice a8 (T.length + 1) c8) (putN AL d F.ds (j + 1))) := hI9
            clear hI9 HI5 HO5 HS5 ho8 hg8 hsz5 c4 HPN HTN HAJ HPC HPS HTE
            go_wp2
            go_roundw
            case rel => exact ⟨j + 1, al, cl, _, by rw [HNL.out], by go_num, hjn, hjA1, by rw [HNL.out]; omega, HLR2, HI9⟩
            case measure => simp [intOf]; omega
        · obtain rfl : j = AL.length := by omega
          rw [List.getElem?_eq_none (by omega)] at hfe
          rw [show ((none : Option Int).getD (-1)) = -1 from rfl] at hfe
          rw [hfe] at HIX
          have HQ : Hid (decide (needN d ≤ AL.length) = false) := decide_eq_false (by omega)
          have HON := HI.out.only
          clear hd0 hd1 hl0 hfe HLR hll hjL HI
          go_wp2_with fail
          refine HIX.out.mono ?_
          rintro e W' ⟨rfl, hw'⟩
          subst W'
          clear HIX
          go_wp2
          go_ret
          exact ⟨by rw [HQ.out]; rfl, fun h => by omega, HON⟩
    · obtain rfl : j = needN d := by
        have := (HNE.out j).2
        omega
      have HQ : Hid (decide (needN d ≤ AL.length) = true) := decide_eq_true hjA
      have HRX2 : Hid (∀ x ∈ n.b.drop (needN d), 0 ≤ x ∧ x.toNat < F.ds.length) := fun x hx => HRX.out x (List.mem_of_mem_drop hx)
      have hR5 : (n.b.drop (needN d)).length ≤ 5 := by simp; omega
      clear HRX HAP HFI HAL HNE hll hjA hcl'
      generalize n.b.drop (needN d) = R at *
      generalize hPT : putN AL d F.ds (needN d) = PT at *
      have hPTl : PT.length = F.ds.length := by rw [← hPT, putN_len]
      clear hPT
      go_wp2
      go_loopw [72] (fun q wr => ∃ m : Nat, m ≤ R.length ∧ q = .int .i64 m ∧ Hid (HoInv w wr lo P g gd F.ns.length F.ds.length ca cb k M ⟨n.k, n.g, n.t, (d.size : Nat), AL.take (needN d)⟩ u (clrN R PT m))) (fun q _ => R.length - (intOf q).toNat)
      case atStart => exact ⟨0, by omega, rfl, HI⟩
      case round =>
        clear HI
        obtain ⟨m, hm, rfl, HI⟩ := hrel
        by_cases hlt : m < R.length
        · obtain ⟨ga, oa, rfl, hga, hca⟩ := (HLR.out _ HI.out.only).cellI m hlt
          have hx := HRX2.out _ (List.getElem_mem hlt)
          obtain ⟨x, hxx⟩ := natOf hx.1
          rw [hxx] at hca hx
          have hxl : x < F.ds.length := by simpa using hx.2
          obtain ⟨v0, v1⟩ := HI.out.mu.vcells
          have hcd := HI.out.mu.celld (k := x) (by rw [clrN_len]; omega)
          have hfd := HI.out.mu.fzd x
          have hI2 := HI.out.text x ⟨#[]⟩
          have HI2 : Hid (HoInv w (wr.setCell ⟨gd, x, none⟩ (.string ⟨#[]⟩)) lo P g gd F.ns.length F.ds.length ca cb k M ⟨n.k, n.g, n.t, (d.size : Nat), AL.take (needN d)⟩ u (clrN R PT (m + 1))) := by
            show HoInv _ _ _ _ _ _ _ _ _ _ _ _ _ _ (clrN R PT (m + 1))
            unfold clrN
            rw [List.getElem?_eq_getElem hlt, Option.getD_some, hxx, Int.toNat_natCast]
            exact hI2
          clear hI2 hx HI HRX2 HLR
          try clear hxx
          generalize (clrN R PT m)[x]'(by rw [clrN_len]; omega) = dd at *
          go_wp2
          go_roundw
          case rel => exact ⟨m + 1, by omega, by go_num, HI2⟩
          case measure => simp [intOf]; omega
        · obtain rfl : m = R.length := by omega
          have HE := HI.out
          clear HLR HRX2 HI
          go_wp2
          go_ret
          refine ⟨by rw [HQ.out]; rfl, fun _ => ⟨M.set k (⟨n.k, n.g, n.t, (d.size : Nat), AL.take (needN d)⟩, u), by rw [HMM.out, HWN.out], ?_⟩, HE.only⟩
          rw [HHD.out]
          exact HE.mu
end Go.Proofs.Ytioecnfgliponaa

/-
  Own text: the three changes that are done on a copy of a branch.
-/
namespace Go.Proofs.Ytioecnfgliponaa
open Go.RowKit

theorem only_lo {W w' : World} {lo g gd : Nat} (h : Only (fun q => q = g ∨ q = gd ∨ W.heap.size ≤ q) W w') (_ : lo ≤ g) (_ : lo ≤ gd) (_ : lo ≤ W.heap.size) : Only (fun q => lo ≤ q) W w' := h.mono fun q _ e => by omega
theorem wr_no {F : FsD} {i : Int} {d : ByteArray} (h : ¬ UsP F i) : wrOk F i d = false := wrOk_no fun h2 => h h2.1

set_option maxRecDepth 20000 in
set_option maxHeartbeats 8000000 in
theorem cloWr (lo P ki kd : Nat) (vn vd : Value) (F : FsD) (i : Int) (d : ByteArray) (W : World) (hsm : SmF F) (hv : Var W P #[vn, vd] 31) (ho : OwnFs W lo W.heap.size (.agg #[vn, vd]) F) (hP : P < lo) (hki : ki < lo) (hkd : kd < lo) (hlo : lo ≤ W.heap.size)
    (ci : W.cell? ⟨ki, 0, none⟩ = some (.int .i64 i)) (cd : W.cell? ⟨kd, 0, none⟩ = some (.string d)) :
    Calls Try.prog 35 #[.pointer (some ⟨P, 0, none⟩), .pointer (some ⟨ki, 0, none⟩), .pointer (some ⟨kd, 0, none⟩)] W fun e w' => e = .returned (.bool (wrOk F i d)) ∧ (wrOk F i d = true → OwnFs w' lo w'.heap.size (.agg #[vn, vd]) (wrF F i d)) ∧ Only (fun q => lo ≤ q) W w' := by
  obtain ⟨a, ca, b, cb, hlay⟩ := ho.lay
  simp at hlay
  obtain ⟨rfl, rfl⟩ := hlay
  have hlP := hv.lt
  have p0 : W.cell? ⟨P, 0, none⟩ = some (.slice a F.ns.length ca) := (hv.cell 0).trans rfl
  have p1 : W.cell? ⟨P, 1, none⟩ = some (.slice b F.ds.length cb) := (hv.cell 1).trans rfl
  have HUS := implUse P a b ca cb F i W.drew hsm hlP p0 p1 (ho.below ((Below.refl _ _).drew)).rd
  have HUS2 : Hid (Calls Try.prog 26 #[.pointer (some ⟨P, 0, none⟩), .int .i64 i] W.drew fun e w' => e = .returned (.bool (usB F i)) ∧ Below W.drew.heap.size W.drew w') := HUS
  have HCE : Hid (∀ w', Only (fun q => lo ≤ q) W w' → w'.cell? ⟨ki, 0, none⟩ = some (.int .i64 i) ∧ w'.cell? ⟨kd, 0, none⟩ = some (.string d) ∧ w'.cell? ⟨P, 0, none⟩ = some (.slice a F.ns.length ca)) := fun w' h => ⟨(h.cell (p := ⟨ki, 0, none⟩) (by show ki < _; omega) (by show ¬ lo ≤ ki; omega)).trans ci, (h.cell (p := ⟨kd, 0, none⟩) (by show kd < _; omega) (by show ¬ lo ≤ kd; omega)).trans cd, (h.cell (p := ⟨P, 0, none⟩) hlP (by show ¬ lo ≤ P; omega)).trans p0⟩
  have HSS : Hid (W.cell? ⟨ki, 0, none⟩ = some (.int .i64 i) ∧ W.cell? ⟨kd, 0, none⟩ = some (.string d) ∧ W.cell? ⟨P, 0, none⟩ = some (.slice a F.ns.length ca)) := ⟨ci, cd, p0⟩
  have HOB : Hid (∀ w', Below W.drew.heap.size W.drew w' → Only (fun q => lo ≤ q) W w') := fun w' h => (Only.of_new ((Below.refl _ _).drew)).trans ((Only.of_below h).mono fun q _ (e : W.drew.heap.size ≤ q) => by have : W.drew.heap.size = W.heap.size := rfl; omega)
  clear HUS p0 p1 ci cd
  by_cases hu : UsP F i
  · have HU1 : Hid (usB F i = true) := usB_yes hu
    rw [HU1.out] at HUS2
    obtain ⟨k, rfl⟩ := natOf hu.2.1
    have hk : k < F.ns.length := by simpa using hu.2.2.1
    have hn1 : 0 < F.ns.length := by omega
    have hd1 : 0 < F.ds.length := hu.1.1.2.2.1
    have hkn : F.ns.length ≤ 10 := hu.1.1.2.1
    by_cases hds : d.size ≤ 80
    · have hdI : (d.size : Int) ≤ 80 := by omega
      have HHO : Hid (∀ w1, Below W.drew.heap.size W.drew w1 → ∃ g gd, a = some ⟨g, 0, none⟩ ∧ lo ≤ g ∧ lo ≤ gd ∧ Calls Try.prog 36 #[.pointer (some ⟨P, 0, none⟩), .pointer (some ⟨g, k * 5, none⟩), .string d] w1 fun e w' => e = .returned (.bool (wrOk F (k : Nat) d)) ∧ (wrOk F (k : Nat) d = true → OwnFs w' lo w'.heap.size (.agg #[.slice a F.ns.length ca, .slice b F.ds.length cb]) (wrF F (k : Nat) d)) ∧ Only (fun q => q = g ∨ q = gd ∨ w1.heap.size ≤ q) w1 w') := by
        intro w1 hb1
        obtain ⟨g, gd, ca', cb', M, he, hM, h1, h2⟩ := ho.open hn1 hd1
        simp at he
        obtain ⟨⟨rfl, rfl⟩, rfl, rfl⟩ := he
        have hbW : Below W.heap.size W w1 := ((Below.refl _ _).drew).trans hb1
        have hmu : MuF w1 lo P g gd F.ns.length F.ds.length ca cb M F.ds := MuF.made (hv.new hbW) h1 h2 hbW (by rw [← hM]; simp) rfl
        refine ⟨g, gd, rfl, hmu.in_g.1, hmu.in_gd.1, ?_⟩
        have hq : wrOk F (k : Int) d = decide (needN d ≤ (allW F (k : Int)).length) := by
          by_cases h : needN d ≤ (allW F (k : Int)).length
          · rw [wrOk_yes ⟨hu, hds, h⟩, decide_eq_true h]
          · rw [wrOk_no fun h3 => h h3.2.2, decide_eq_false h]
        refine (implHold lo P g gd ca cb k M F d w1 hmu hM hu hds).mono ?_
        rintro e w' ⟨rfl, h3, h4⟩
        refine ⟨by rw [hq], fun h => ?_, h4⟩
        rw [hq] at h
        obtain ⟨M', hM', hmu'⟩ := h3 (of_decide_eq_true h)
        exact hmu'.own (F := wrF F (k : Int) d) (by rw [hM']; show _ = F.ns.set ((k : Int)).toNat _; rw [Int.toNat_natCast]) rfl
      have hki0 : ((k : Int)).toNat = k := Int.toNat_natCast k
      clear hu hv ho hsm hds
      go_enter Try.func35, Try.ntmps35
      go_upto_region 1 with fail
      refine wp_region_noPanic ?_
      refine wp_region_held_drew (S := (fun W => W.cell? ⟨ki, 0, none⟩ = some (.int .i64 (k : Nat)) ∧ W.cell? ⟨kd, 0, none⟩ = some (.string d) ∧ W.cell? ⟨P, 0, none⟩ = some (.slice a F.ns.length ca))) (by kernel_rfl) HSS.out (fun hT => ?_)
      clear hT
      refine held_take (i := 0) (v := .pointer (some ⟨P, 0, none⟩)) rfl rfl (by kernel_rfl) (by kernel_rfl) (by kernel_rfl) (by kernel_rfl) (fun W hS => by go_simp) HSS.out ?_
      simp only [Act.put, List.setIfInBounds_toArray, List.set_cons_zero, List.set_cons_succ]
      refine held_take (i := 1) (v := .int .i64 (k : Nat)) rfl rfl (by kernel_rfl) (by kernel_rfl) (by kernel_rfl) (by kernel_rfl) (fun W hS => by obtain ⟨hs0, hs1, hs2⟩ := hS; go_simp) HSS.out ?_
      simp only [Act.put, List.setIfInBounds_toArray, List.set_cons_zero, List.set_cons_succ]
      refine wpAnyH_ready (rs := [2]) (by kernel_rfl) (by simp) (AllReadyH.cons rfl (fun K hK => ?_) AllReadyH.nil)
      go_simp
      refine HUS2.out.mono ?_
      rintro e w1 ⟨rfl, hb1⟩
      have hss := HCE.out w1 (HOB.out w1 hb1)
      have HSN : Hid (w1.cell? ⟨ki, 0, none⟩ = some (.int .i64 (k : Nat)) ∧ w1.cell? ⟨kd, 0, none⟩ = some (.string d) ∧ w1.cell? ⟨P, 0, none⟩ = some (.slice a F.ns.length ca)) := hss
      refine hK.out _ _ HSN.out (fun hT => ?_)
      clear hK K hT
      try simp only [Act.put, List.setIfInBounds_toArray, List.set_cons_zero, List.set_cons_succ]
      clear HSS hss HUS2
      have HSS := HSN
      clear HSN
      refine held_take (i := 3) (v := .bool true) rfl rfl (by kernel_rfl) (by kernel_rfl) (by kernel_rfl) (by kernel_rfl) (fun W hS => by go_simp) HSS.out ?_
      simp only [Act.put, List.setIfInBounds_toArray, List.set_cons_zero, List.set_cons_succ]
      refine held_take (i := 4) (v := .string d) rfl rfl (by kernel_rfl) (by kernel_rfl) (by kernel_rfl) (by kernel_rfl) (fun W hS => by obtain ⟨hs0, hs1, hs2⟩ := hS; go_simp) HSS.out ?_
      simp only [Act.put, List.setIfInBounds_toArray, List.set_cons_zero, List.set_cons_succ]
      refine held_take (i := 5) (v := .int .i64 (d.size : Nat)) rfl rfl (by kernel_rfl) (by kernel_rfl) (by kernel_rfl) (by kernel_rfl) (fun W hS => by go_simp) HSS.out ?_
      simp only [Act.put, List.setIfInBounds_toArray, List.set_cons_zero, List.set_cons_succ]
      refine held_take (i := 6) (v := .bool true) rfl rfl (by kernel_rfl) (by kernel_rfl) (by kernel_rfl) (by kernel_rfl) (fun W hS => by go_simp) HSS.out ?_
      simp only [Act.put, List.setIfInBounds_toArray, List.set_cons_zero, List.set_cons_succ]
      refine held_take (i := 7) (v := .bool true) rfl rfl (by kernel_rfl) (by kernel_rfl) (by kernel_rfl) (by kernel_rfl) (fun W hS => by go_simp) HSS.out ?_
      simp only [Act.put, List.setIfInBounds_toArray, List.set_cons_zero, List.set_cons_succ]
      refine held_take (i := 8) (v := .bool true) rfl rfl (by kernel_rfl) (by kernel_rfl) (by kernel_rfl) (by kernel_rfl) (fun W hS => by go_simp) HSS.out ?_
      simp only [Act.put, List.setIfInBounds_toArray, List.set_cons_zero, List.set_cons_succ]
      refine held_take (i := 9) (v := .pointer (some ⟨P, 0, none⟩)) rfl rfl (by kernel_rfl) (by kernel_rfl) (by kernel_rfl) (by kernel_rfl) (fun W hS => by go_simp) HSS.out ?_
      simp only [Act.put, List.setIfInBounds_toArray, List.set_cons_zero, List.set_cons_succ]
      refine held_take (i := 10) (v := .pointer (some ⟨P, 0, none⟩)) rfl rfl (by kernel_rfl) (by kernel_rfl) (by kernel_rfl) (by kernel_rfl) (fun W hS => by go_simp) HSS.out ?_
      simp only [Act.put, List.setIfInBounds_toArray, List.set_cons_zero, List.set_cons_succ]
      refine held_take (i := 11) (v := .pointer (some ⟨P, 0, none⟩)) rfl rfl (by kernel_rfl) (by kernel_rfl) (by kernel_rfl) (by kernel_rfl) (fun W hS => by go_simp) HSS.out ?_
      simp only [Act.put, List.setIfInBounds_toArray, List.set_cons_zero, List.set_cons_succ]
      refine held_take (i := 12) (v := .pointer (some ⟨P, 0, none⟩)) rfl rfl (by kernel_rfl) (by kernel_rfl) (by kernel_rfl) (by kernel_rfl) (fun W hS => by go_simp) HSS.out ?_
      simp only [Act.put, List.setIfInBounds_toArray, List.set_cons_zero, List.set_cons_succ]
      refine held_take (i := 13) (v := .slice a F.ns.length ca) rfl rfl (by kernel_rfl) (by kernel_rfl) (by kernel_rfl) (by kernel_rfl) (fun W hS => by obtain ⟨hs0, hs1, hs2⟩ := hS; go_simp) HSS.out ?_
      simp only [Act.put, List.setIfInBounds_toArray, List.set_cons_zero, List.set_cons_succ]
      refine held_take (i := 14) (v := .int .i64 (k : Nat)) rfl rfl (by kernel_rfl) (by kernel_rfl) (by kernel_rfl) (by kernel_rfl) (fun W hS => by obtain ⟨hs0, hs1, hs2⟩ := hS; go_simp) HSS.out ?_
      simp only [Act.put, List.setIfInBounds_toArray, List.set_cons_zero, List.set_cons_succ]
      obtain ⟨g, gd, rfl, hlg, hlgd, hhold⟩ := HHO.out w1 hb1
      refine held_take (i := 15) (v := .pointer (some ⟨g, k * 5, none⟩)) rfl rfl (by kernel_rfl) (by kernel_rfl) (by kernel_rfl) (by kernel_rfl) (fun W hS => by go_simp) HSS.out ?_
      simp only [Act.put, List.setIfInBounds_toArray, List.set_cons_zero, List.set_cons_succ]
      refine held_take (i := 16) (v := .string d) rfl rfl (by kernel_rfl) (by kernel_rfl) (by kernel_rfl) (by kernel_rfl) (fun W hS => by obtain ⟨hs0, hs1, hs2⟩ := hS; go_simp) HSS.out ?_
      simp only [Act.put, List.setIfInBounds_toArray, List.set_cons_zero, List.set_cons_succ]
      have HHC : Hid (Calls Try.prog 36 #[.pointer (some ⟨P, 0, none⟩), .pointer (some ⟨g, k * 5, none⟩), .string d] w1 fun e w' => e = .returned (.bool (wrOk F (k : Nat) d)) ∧ (wrOk F (k : Nat) d = true → OwnFs w' lo w'.heap.size (.agg #[.slice (some ⟨g, 0, none⟩) F.ns.length ca, .slice b F.ds.length cb]) (wrF F (k : Nat) d)) ∧ Only (fun q => q = g ∨ q = gd ∨ w1.heap.size ≤ q) w1 w') := hhold
      clear hhold HHO
      refine wpAnyH_ready (rs := [17]) (by kernel_rfl) (by simp) (AllReadyH.cons rfl (fun K hK => ?_) AllReadyH.nil)
      go_simp
      refine HHC.out.mono ?_
      rintro e w2 ⟨rfl, hown, hon⟩
      have hzz : lo ≤ w1.heap.size := Nat.le_trans hlo (HOB.out w1 hb1).size
      have HON : Hid (Only (fun q => lo ≤ q) W w2) := (HOB.out w1 hb1).trans (only_lo hon hlg hlgd hzz)
      have HOW : Hid (wrOk F (k : Nat) d = true → OwnFs w2 lo w2.heap.size (.agg #[.slice (some ⟨g, 0, none⟩) F.ns.length ca, .slice b F.ds.length cb]) (wrF F (k : Nat) d)) := hown
      have hss := HCE.out w2 HON.out
      have HSN : Hid (w2.cell? ⟨ki, 0, none⟩ = some (.int .i64 (k : Nat)) ∧ w2.cell? ⟨kd, 0, none⟩ = some (.string d) ∧ w2.cell? ⟨P, 0, none⟩ = some (.slice (some ⟨g, 0, none⟩) F.ns.length ca)) := hss
      refine hK.out _ _ HSN.out (fun hT => ?_)
      clear hK K hT
      try simp only [Act.put, List.setIfInBounds_toArray, List.set_cons_zero, List.set_cons_succ]
      clear HSS hss hown hon HHC HCE HOB hb1
      have HSS := HSN
      clear HSN
      obtain ⟨ok, hok⟩ : ∃ x, wrOk F (k : Nat) d = x := ⟨_, rfl⟩
      have HOKE : Hid (wrOk F (k : Nat) d = ok) := hok
      rw [hok]
      clear hok
      refine held_take (i := 18) (v := .bool ok) rfl rfl (by kernel_rfl) (by kernel_rfl) (by kernel_rfl) (by kernel_rfl) (fun W hS => by go_simp) HSS.out ?_
      simp only [Act.put, List.setIfInBounds_toArray, List.set_cons_zero, List.set_cons_succ]
      refine held_take (i := 19) (v := .bool ok) rfl rfl (by kernel_rfl) (by kernel_rfl) (by kernel_rfl) (by kernel_rfl) (fun W hS => by go_simp) HSS.out ?_
      simp only [Act.put, List.setIfInBounds_toArray, List.set_cons_zero, List.set_cons_succ]
      refine wpAnyH_done (by kernel_rfl) ?_ _
      simp only [NoPanic]
      go_wp2
      go_ret
      exact ⟨by rw [HOKE.out]; rfl, HOW.out, HON.out⟩
    · have HOK : Hid (wrOk F (k : Nat) d = false) := wrOk_no fun h => hds h.2.1
      have hdI : ¬ (d.size : Int) ≤ 80 := by omega
      clear hu hv ho hsm hds
      go_enter Try.func35, Try.ntmps35
      go_upto_region 1 with fail
      refine wp_region_noPanic ?_
      refine wp_region_held_drew (S := (fun W => W.cell? ⟨ki, 0, none⟩ = some (.int .i64 (k : Nat)) ∧ W.cell? ⟨kd, 0, none⟩ = some (.string d) ∧ W.cell? ⟨P, 0, none⟩ = some (.slice a F.ns.length ca))) (by kernel_rfl) HSS.out (fun hT => ?_)
      clear hT
      refine held_take (i := 0) (v := .pointer (some ⟨P, 0, none⟩)) rfl rfl (by kernel_rfl) (by kernel_rfl) (by kernel_rfl) (by kernel_rfl) (fun W hS => by go_simp) HSS.out ?_
      simp only [Act.put, List.setIfInBounds_toArray, List.set_cons_zero, List.set_cons_succ]
      refine held_take (i := 1) (v := .int .i64 (k : Nat)) rfl rfl (by kernel_rfl) (by kernel_rfl) (by kernel_rfl) (by kernel_rfl) (fun W hS => by obtain ⟨hs0, hs1, hs2⟩ := hS; go_simp) HSS.out ?_
      simp only [Act.put, List.setIfInBounds_toArray, List.set_cons_zero, List.set_cons_succ]
      refine wpAnyH_ready (rs := [2]) (by kernel_rfl) (by simp) (AllReadyH.cons rfl (fun K hK => ?_) AllReadyH.nil)
      go_simp
      refine HUS2.out.mono ?_
      rintro e w1 ⟨rfl, hb1⟩
      have hss := HCE.out w1 (HOB.out w1 hb1)
      have HSN : Hid (w1.cell? ⟨ki, 0, none⟩ = some (.int .i64 (k : Nat)) ∧ w1.cell? ⟨kd, 0, none⟩ = some (.string d) ∧ w1.cell? ⟨P, 0, none⟩ = some (.slice a F.ns.length ca)) := hss
      refine hK.out _ _ HSN.out (fun hT => ?_)
      clear hK K hT
      try simp only [Act.put, List.setIfInBounds_toArray, List.set_cons_zero, List.set_cons_succ]
      clear HSS hss HUS2
      have HSS := HSN
      clear HSN
      refine held_take (i := 3) (v := .bool true) rfl rfl (by kernel_rfl) (by kernel_rfl) (by kernel_rfl) (by kernel_rfl) (fun W hS => by go_simp) HSS.out ?_
      simp only [Act.put, List.setIfInBounds_toArray, List.set_cons_zero, List.set_cons_succ]
      refine held_take (i := 4) (v := .string d) rfl rfl (by kernel_rfl) (by kernel_rfl) (by kernel_rfl) (by kernel_rfl) (fun W hS => by obtain ⟨hs0, hs1, hs2⟩ := hS; go_simp) HSS.out ?_
      simp only [Act.put, List.setIfInBounds_toArray, List.set_cons_zero, List.set_cons_succ]
      refine held_take (i := 5) (v := .int .i64 (d.size : Nat)) rfl rfl (by kernel_rfl) (by kernel_rfl) (by kernel_rfl) (by kernel_rfl) (fun W hS => by go_simp) HSS.out ?_
      simp only [Act.put, List.setIfInBounds_toArray, List.set_cons_zero, List.set_cons_succ]
      refine held_take (i := 6) (v := .bool false) rfl rfl (by kernel_rfl) (by kernel_rfl) (by kernel_rfl) (by kernel_rfl) (fun W hS => by go_simp) HSS.out ?_
      simp only [Act.put, List.setIfInBounds_toArray, List.set_cons_zero, List.set_cons_succ]
      refine held_take (i := 7) (v := .bool false) rfl rfl (by kernel_rfl) (by kernel_rfl) (by kernel_rfl) (by kernel_rfl) (fun W hS => by go_simp) HSS.out ?_
      simp only [Act.put, List.setIfInBounds_toArray, List.set_cons_zero, List.set_cons_succ]
      refine held_take (i := 8) (v := .bool false) rfl rfl (by kernel_rfl) (by kernel_rfl) (by kernel_rfl) (by kernel_rfl) (fun W hS => by go_simp) HSS.out ?_
      simp only [Act.put, List.setIfInBounds_toArray, List.set_cons_zero, List.set_cons_succ]
      have HON : Hid (Only (fun q => lo ≤ q) W w1) := HOB.out w1 hb1
      refine held_skip (i := 9) rfl rfl (by kernel_rfl) (by kernel_rfl) (by kernel_rfl) (by kernel_rfl) HSS.out ?_
      simp only [Act.put, List.setIfInBounds_toArray, List.set_cons_zero, List.set_cons_succ]
      refine held_skip (i := 10) rfl rfl (by kernel_rfl) (by kernel_rfl) (by kernel_rfl) (by kernel_rfl) HSS.out ?_
      simp only [Act.put, List.setIfInBounds_toArray, List.set_cons_zero, List.set_cons_succ]
      refine held_skip (i := 11) rfl rfl (by kernel_rfl) (by kernel_rfl) (by kernel_rfl) (by kernel_rfl) HSS.out ?_
      simp only [Act.put, List.setIfInBounds_toArray, List.set_cons_zero, List.set_cons_succ]
      refine held_skip (i := 12) rfl rfl (by kernel_rfl) (by kernel_rfl) (by kernel_rfl) (by kernel_rfl) HSS.out ?_
      simp only [Act.put, List.setIfInBounds_toArray, List.set_cons_zero, List.set_cons_succ]
      refine held_skip (i := 13) rfl rfl (by kernel_rfl) (by kernel_rfl) (by kernel_rfl) (by kernel_rfl) HSS.out ?_
      simp only [Act.put, List.setIfInBounds_toArray, List.set_cons_zero, List.set_cons_succ]
      refine held_skip (i := 14) rfl rfl (by kernel_rfl) (by kernel_rfl) (by kernel_rfl) (by kernel_rfl) HSS.out ?_
      simp only [Act.put, List.setIfInBounds_toArray, List.set_cons_zero, List.set_cons_succ]
      refine held_skip (i := 15) rfl rfl (by kernel_rfl) (by kernel_rfl) (by kernel_rfl) (by kernel_rfl) HSS.out ?_
      simp only [Act.put, List.setIfInBounds_toArray, List.set_cons_zero, List.set_cons_succ]
      refine held_skip (i := 16) rfl rfl (by kernel_rfl) (by kernel_rfl) (by kernel_rfl) (by kernel_rfl) HSS.out ?_
      simp only [Act.put, List.setIfInBounds_toArray, List.set_cons_zero, List.set_cons_succ]
      refine held_skip (i := 17) rfl rfl (by kernel_rfl) (by kernel_rfl) (by kernel_rfl) (by kernel_rfl) HSS.out ?_
      simp only [Act.put, List.setIfInBounds_toArray, List.set_cons_zero, List.set_cons_succ]
      refine held_take (i := 18) (v := .bool false) rfl rfl (by kernel_rfl) (by kernel_rfl) (by kernel_rfl) (by kernel_rfl) (fun W hS => by go_simp) HSS.out ?_
      simp only [Act.put, List.setIfInBounds_toArray, List.set_cons_zero, List.set_cons_succ]
      refine held_take (i := 19) (v := .bool false) rfl rfl (by kernel_rfl) (by kernel_rfl) (by kernel_rfl) (by kernel_rfl) (fun W hS => by go_simp) HSS.out ?_
      simp only [Act.put, List.setIfInBounds_toArray, List.set_cons_zero, List.set_cons_succ]
      refine wpAnyH_done (by kernel_rfl) ?_ _
      simp only [NoPanic]
      go_wp2
      go_ret
      exact ⟨by rw [HOK.out]; rfl, fun h => absurd (HOK.out.symm.trans h) (by decide), HON.out⟩
  · have HU1 : Hid (usB F i = false) := usB_no hu
    rw [HU1.out] at HUS2
    have HOK : Hid (wrOk F i d = false) := wr_no hu
    clear hu hv ho hsm
    go_enter Try.func35, Try.ntmps35
    go_upto_region 1 with fail
    refine wp_region_noPanic ?_
    refine wp_region_held_drew (S := (fun W => W.cell? ⟨ki, 0, none⟩ = some (.int .i64 i) ∧ W.cell? ⟨kd, 0, none⟩ = some (.string d) ∧ W.cell? ⟨P, 0, none⟩ = some (.slice a F.ns.length ca))) (by kernel_rfl) HSS.out (fun hT => ?_)
    clear hT
    refine held_take (i := 0) (v := .pointer (some ⟨P, 0, none⟩)) rfl rfl (by kernel_rfl) (by kernel_rfl) (by kernel_rfl) (by kernel_rfl) (fun W hS => by go_simp) HSS.out ?_
    simp only [Act.put, List.setIfInBounds_toArray, List.set_cons_zero, List.set_cons_succ]
    refine held_take (i := 1) (v := .int .i64 i) rfl rfl (by kernel_rfl) (by kernel_rfl) (by kernel_rfl) (by kernel_rfl) (fun W hS => by obtain ⟨hs0, hs1, hs2⟩ := hS; go_simp) HSS.out ?_
    simp only [Act.put, List.setIfInBounds_toArray, List.set_cons_zero, List.set_cons_succ]
    refine wpAnyH_ready (rs := [2]) (by kernel_rfl) (by simp) (AllReadyH.cons rfl (fun K hK => ?_) AllReadyH.nil)
    go_simp
    refine HUS2.out.mono ?_
    rintro e w1 ⟨rfl, hb1⟩
    have hss := HCE.out w1 (HOB.out w1 hb1)
    have HSN : Hid (w1.cell? ⟨ki, 0, none⟩ = some (.int .i64 i) ∧ w1.cell? ⟨kd, 0, none⟩ = some (.string d) ∧ w1.cell? ⟨P, 0, none⟩ = some (.slice a F.ns.length ca)) := hss
    refine hK.out _ _ HSN.out (fun hT => ?_)
    clear hK K hT
    try simp only [Act.put, List.setIfInBounds_toArray, List.set_cons_zero, List.set_cons_succ]
    clear HSS hss HUS2
    have HSS := HSN
    clear HSN
    refine held_take (i := 3) (v := .bool false) rfl rfl (by kernel_rfl) (by kernel_rfl) (by kernel_rfl) (by kernel_rfl) (fun W hS => by go_simp) HSS.out ?_
    simp only [Act.put, List.setIfInBounds_toArray, List.set_cons_zero, List.set_cons_succ]
    refine held_skip (i := 4) rfl rfl (by kernel_rfl) (by kernel_rfl) (by kernel_rfl) (by kernel_rfl) HSS.out ?_
    simp only [Act.put, List.setIfInBounds_toArray, List.set_cons_zero, List.set_cons_succ]
    refine held_skip (i := 5) rfl rfl (by kernel_rfl) (by kernel_rfl) (by kernel_rfl) (by kernel_rfl) HSS.out ?_
    simp only [Act.put, List.setIfInBounds_toArray, List.set_cons_zero, List.set_cons_succ]
    refine held_skip (i := 6) rfl rfl (by kernel_rfl) (by kernel_rfl) (by kernel_rfl) (by kernel_rfl) HSS.out ?_
    simp only [Act.put, List.setIfInBounds_toArray, List.set_cons_zero, List.set_cons_succ]
    refine held_take (i := 7) (v := .bool false) rfl rfl (by kernel_rfl) (by kernel_rfl) (by kernel_rfl) (by kernel_rfl) (fun W hS => by go_simp) HSS.out ?_
    simp only [Act.put, List.setIfInBounds_toArray, List.set_cons_zero, List.set_cons_succ]
    refine held_take (i := 8) (v := .bool false) rfl rfl (by kernel_rfl) (by kernel_rfl) (by kernel_rfl) (by kernel_rfl) (fun W hS => by go_simp) HSS.out ?_
    simp only [Act.put, List.setIfInBounds_toArray, List.set_cons_zero, List.set_cons_succ]
    have HON : Hid (Only (fun q => lo ≤ q) W w1) := HOB.out w1 hb1
    refine held_skip (i := 9) rfl rfl (by kernel_rfl) (by kernel_rfl) (by kernel_rfl) (by kernel_rfl) HSS.out ?_
    simp only [Act.put, List.setIfInBounds_toArray, List.set_cons_zero, List.set_cons_succ]
    refine held_skip (i := 10) rfl rfl (by kernel_rfl) (by kernel_rfl) (by kernel_rfl) (by kernel_rfl) HSS.out ?_
    simp only [Act.put, List.setIfInBounds_toArray, List.set_cons_zero, List.set_cons_succ]
    refine held_skip (i := 11) rfl rfl (by kernel_rfl) (by kernel_rfl) (by kernel_rfl) (by kernel_rfl) HSS.out ?_
    simp only [Act.put, List.setIfInBounds_toArray, List.set_cons_zero, List.set_cons_succ]
    refine held_skip (i := 12) rfl rfl (by kernel_rfl) (by kernel_rfl) (by kernel_rfl) (by kernel_rfl) HSS.out ?_
    simp only [Act.put, List.setIfInBounds_toArray, List.set_cons_zero, List.set_cons_succ]
    refine held_skip (i := 13) rfl rfl (by kernel_rfl) (by kernel_rfl) (by kernel_rfl) (by kernel_rfl) HSS.out ?_
    simp only [Act.put, List.setIfInBounds_toArray, List.set_cons_zero, List.set_cons_succ]
    refine held_skip (i := 14) rfl rfl (by kernel_rfl) (by kernel_rfl) (by kernel_rfl) (by kernel_rfl) HSS.out ?_
    simp only [Act.put, List.setIfInBounds_toArray, List.set_cons_zero, List.set_cons_succ]
    refine held_skip (i := 15) rfl rfl (by kernel_rfl) (by kernel_rfl) (by kernel_rfl) (by kernel_rfl) HSS.out ?_
    simp only [Act.put, List.setIfInBounds_toArray, List.set_cons_zero, List.set_cons_succ]
    refine held_skip (i := 16) rfl rfl (by kernel_rfl) (by kernel_rfl) (by kernel_rfl) (by kernel_rfl) HSS.out ?_
    simp only [Act.put, List.setIfInBounds_toArray, List.set_cons_zero, List.set_cons_succ]
    refine held_skip (i := 17) rfl rfl (by kernel_rfl) (by kernel_rfl) (by kernel_rfl) (by kernel_rfl) HSS.out ?_
    simp only [Act.put, List.setIfInBounds_toArray, List.set_cons_zero, List.set_cons_succ]
    refine held_take (i := 18) (v := .bool false) rfl rfl (by kernel_rfl) (by kernel_rfl) (by kernel_rfl) (by kernel_rfl) (fun W hS => by go_simp) HSS.out ?_
    simp only [Act.put, List.setIfInBounds_toArray, List.set_cons_zero, List.set_cons_succ]
    refine held_take (i := 19) (v := .bool false) rfl rfl (by kernel_rfl) (by kernel_rfl) (by kernel_rfl) (by kernel_rfl) (fun W hS => by go_simp) HSS.out ?_
    simp only [Act.put, List.setIfInBounds_toArray, List.set_cons_zero, List.set_cons_succ]
    refine wpAnyH_done (by kernel_rfl) ?_ _
    simp only [NoPanic]
    go_wp2
    go_ret
    exact ⟨by rw [HOK.out]; rfl, fun h => absurd (HOK.out.symm.trans h) (by decide), HON.out⟩

set_option maxRecDepth 20000 in
set_option maxHeartbeats 8000000 in
theorem cloDp (lo P ki : Nat) (vn vd : Value) (F : FsD) (i : Int) (W : World) (hsm : SmF F) (hv : Var W P #[vn, vd] 31) (ho : OwnFs W lo W.heap.size (.agg #[vn, vd]) F) (hP : P < lo) (hki : ki < lo) (hlo : lo ≤ W.heap.size)
    (ci : W.cell? ⟨ki, 0, none⟩ = some (.int .i64 i)) :
    Calls Try.prog 48 #[.pointer (some ⟨P, 0, none⟩), .pointer (some ⟨ki, 0, none⟩)] W fun e w' => e = .returned (.bool (dpOk F i)) ∧ (dpOk F i = true → OwnFs w' lo w'.heap.size (.agg #[vn, vd]) (dpD F i)) ∧ Only (fun q => lo ≤ q) W w' := by
  obtain ⟨a, ca, b, cb, hlay⟩ := ho.lay
  simp at hlay
  obtain ⟨rfl, rfl⟩ := hlay
  have hlP := hv.lt
  have p0 : W.cell? ⟨P, 0, none⟩ = some (.slice a F.ns.length ca) := (hv.cell 0).trans rfl
  have p1 : W.cell? ⟨P, 1, none⟩ = some (.slice b F.ds.length cb) := (hv.cell 1).trans rfl
  have HUS2 : Hid (Calls Try.prog 26 #[.pointer (some ⟨P, 0, none⟩), .int .i64 i] W fun e w' => e = .returned (.bool (usB F i)) ∧ Below W.heap.size W w') := implUse P a b ca cb F i W hsm hlP p0 p1 ho.rd
  have HCE : Hid (∀ w', Only (fun q => lo ≤ q) W w' → w'.cell? ⟨ki, 0, none⟩ = some (.int .i64 i) ∧ w'.cell? ⟨P, 0, none⟩ = some (.slice a F.ns.length ca)) := fun w' h => ⟨(h.cell (p := ⟨ki, 0, none⟩) (by show ki < _; omega) (by show ¬ lo ≤ ki; omega)).trans ci, (h.cell (p := ⟨P, 0, none⟩) hlP (by show ¬ lo ≤ P; omega)).trans p0⟩
  have HOB : Hid (∀ w', Below W.heap.size W w' → Only (fun q => lo ≤ q) W w') := fun w' h => (Only.of_below h).mono fun q _ (e : W.heap.size ≤ q) => by omega
  clear p0 p1
  by_cases hi0 : i = 0
  · subst hi0
    have HOK : Hid (dpOk F 0 = false) := dpOk_no fun h => h.2 rfl
    have HON : Hid (Only (fun q => lo ≤ q) W W) := Only.refl _ _
    clear hv ho hsm HUS2 HCE HOB
    go_enter Try.func48, Try.ntmps48
    go_wp2
    go_ret
    exact ⟨by rw [HOK.out]; rfl, fun h => absurd (HOK.out.symm.trans h) (by decide), HON.out⟩
  by_cases hu : UsP F i
  · have HU1 : Hid (usB F i = true) := usB_yes hu
    rw [HU1.out] at HUS2
    have HOK : Hid (dpOk F i = true) := dpOk_yes ⟨hu, hi0⟩
    obtain ⟨k, rfl⟩ := natOf hu.2.1
    have hk0 : ¬ (k : Int) = 0 := hi0
    have hk : k < F.ns.length := by simpa using hu.2.2.1
    have hn1 : 0 < F.ns.length := by omega
    have hd1 : 0 < F.ds.length := hu.1.1.2.2.1
    have hkn : F.ns.length ≤ 10 := hu.1.1.2.1
    obtain ⟨hz1, hz2, hz3⟩ := held_none F (k : Int) (d := ⟨#[]⟩) rfl
    have HDD : Hid (dpD F (k : Int) = ⟨F.ns.set k zeroN, heldDs F (k : Int) ⟨#[]⟩⟩) := by show _ = _; unfold dpD; rw [HOK.out, hz3]; rfl
    have HHO : Hid (∀ w1, Below W.heap.size W w1 → ∃ g gd, a = some ⟨g, 0, none⟩ ∧ b = some ⟨gd, 0, none⟩ ∧ lo ≤ g ∧ lo ≤ gd ∧ Calls Try.prog 36 #[.pointer (some ⟨P, 0, none⟩), .pointer (some ⟨g, k * 5, none⟩), .string ⟨#[]⟩] w1 fun e w' => e = .returned (.bool true) ∧ (∃ M' : List NodeU, M'.map (·.1) = F.ns.set k (wrN F (k : Int) ⟨#[]⟩) ∧ MuF w' lo P g gd F.ns.length F.ds.length ca cb M' (heldDs F (k : Int) ⟨#[]⟩)) ∧ Only (fun q => q = g ∨ q = gd ∨ w1.heap.size ≤ q) w1 w') := by
      intro w1 hbW
      obtain ⟨g, gd, ca', cb', M, he, hM, h1, h2⟩ := ho.open hn1 hd1
      simp at he
      obtain ⟨⟨rfl, rfl⟩, rfl, rfl⟩ := he
      have hmu : MuF w1 lo P g gd F.ns.length F.ds.length ca cb M F.ds := MuF.made (hv.new hbW) h1 h2 hbW (by rw [← hM]; simp) rfl
      refine ⟨g, gd, rfl, rfl, hmu.in_g.1, hmu.in_gd.1, ?_⟩
      have hle : needN ⟨#[]⟩ ≤ (allW F (k : Int)).length := by rw [hz1]; omega
      refine (implHold lo P g gd ca cb k M F ⟨#[]⟩ w1 hmu hM hu (by show 0 ≤ 80; omega)).mono ?_
      rintro e w' ⟨rfl, h3, h4⟩
      exact ⟨by rw [decide_eq_true hle], h3 hle, h4⟩
    have HSET : Hid (∀ M' : List NodeU, M'.map (·.1) = F.ns.set k (wrN F (k : Int) ⟨#[]⟩) → (M'.set k (zeroN, .slice none 0 0)).map (·.1) = F.ns.set k zeroN) := fun M' h => by rw [List.map_set, h, List.set_set]
    clear hu hv ho hsm hi0 hz1 hz2 hz3
    go_enter Try.func48, Try.ntmps48
    go_wp2_with fail
    refine HUS2.out.mono ?_
    rintro e w1 ⟨rfl, hb1⟩
    have HSS : Hid (w1.drew.cell? ⟨ki, 0, none⟩ = some (.int .i64 (k : Nat)) ∧ w1.drew.cell? ⟨P, 0, none⟩ = some (.slice a F.ns.length ca)) := HCE.out w1 (HOB.out w1 hb1)
    obtain ⟨g, gd, rfl, rfl, hlg, hlgd, hhold⟩ := HHO.out w1.drew (hb1.trans ((Below.refl _ _).drew))
    have HHC : Hid (Calls Try.prog 36 #[.pointer (some ⟨P, 0, none⟩), .pointer (some ⟨g, k * 5, none⟩), .string ⟨#[]⟩] w1.drew fun e w' => e = .returned (.bool true) ∧ (∃ M' : List NodeU, M'.map (·.1) = F.ns.set k (wrN F (k : Int) ⟨#[]⟩) ∧ MuF w' lo P g gd F.ns.length F.ds.length ca cb M' (heldDs F (k : Int) ⟨#[]⟩)) ∧ Only (fun q => q = g ∨ q = gd ∨ w1.drew.heap.size ≤ q) w1.drew w') := hhold
    clear hhold HHO HUS2
    go_upto_region 3 with fail
    refine wp_region_noPanic ?_
    refine wp_region_held_drew (S := (fun W => W.cell? ⟨ki, 0, none⟩ = some (.int .i64 (k : Nat)) ∧ W.cell? ⟨P, 0, none⟩ = some (.slice (some ⟨g, 0, none⟩) F.ns.length ca))) (by kernel_rfl) HSS.out (fun hT => ?_)
    clear hT
    refine held_take (i := 0) (v := .pointer (some ⟨P, 0, none⟩)) rfl rfl (by kernel_rfl) (by kernel_rfl) (by kernel_rfl) (by kernel_rfl) (fun W hS => by go_simp) HSS.out ?_
    simp only [Act.put, List.setIfInBounds_toArray, List.set_cons_zero, List.set_cons_succ]
    refine held_take (i := 1) (v := .pointer (some ⟨P, 0, none⟩)) rfl rfl (by kernel_rfl) (by kernel_rfl) (by kernel_rfl) (by kernel_rfl) (fun W hS => by go_simp) HSS.out ?_
    simp only [Act.put, List.setIfInBounds_toArray, List.set_cons_zero, List.set_cons_succ]
    refine held_take (i := 2) (v := .pointer (some ⟨P, 0, none⟩)) rfl rfl (by kernel_rfl) (by kernel_rfl) (by kernel_rfl) (by kernel_rfl) (fun W hS => by go_simp) HSS.out ?_
    simp only [Act.put, List.setIfInBounds_toArray, List.set_cons_zero, List.set_cons_succ]
    refine held_take (i := 3) (v := .pointer (some ⟨P, 0, none⟩)) rfl rfl (by kernel_rfl) (by kernel_rfl) (by kernel_rfl) (by kernel_rfl) (fun W hS => by go_simp) HSS.out ?_
    simp only [Act.put, List.setIfInBounds_toArray, List.set_cons_zero, List.set_cons_succ]
    refine held_take (i := 4) (v := .slice (some ⟨g, 0, none⟩) F.ns.length ca) rfl rfl (by kernel_rfl) (by kernel_rfl) (by kernel_rfl) (by kernel_rfl) (fun W hS => by obtain ⟨hs0, hs1⟩ := hS; go_simp) HSS.out ?_
    simp only [Act.put, List.setIfInBounds_toArray, List.set_cons_zero, List.set_cons_succ]
    refine held_take (i := 5) (v := .int .i64 (k : Nat)) rfl rfl (by kernel_rfl) (by kernel_rfl) (by kernel_rfl) (by kernel_rfl) (fun W hS => by obtain ⟨hs0, hs1⟩ := hS; go_simp) HSS.out ?_
    simp only [Act.put, List.setIfInBounds_toArray, List.set_cons_zero, List.set_cons_succ]
    refine held_take (i := 6) (v := .pointer (some ⟨g, k * 5, none⟩)) rfl rfl (by kernel_rfl) (by kernel_rfl) (by kernel_rfl) (by kernel_rfl) (fun W hS => by go_simp) HSS.out ?_
    simp only [Act.put, List.setIfInBounds_toArray, List.set_cons_zero, List.set_cons_succ]
    refine wpAnyH_ready (rs := [7]) (by kernel_rfl) (by simp) (AllReadyH.cons rfl (fun K hK => ?_) AllReadyH.nil)
    go_simp
    refine HHC.out.mono ?_
    rintro e w2 ⟨rfl, ⟨M', hM', hmu⟩, hon⟩
    have HON : Hid (Only (fun q => lo ≤ q) W w2) := (HOB.out w1 hb1).trans ((Only.of_new ((Below.refl _ _).drew)).trans (only_lo hon hlg hlgd (Nat.le_trans hlo (HOB.out w1 hb1).size)))
    have HMU : Hid (MuF w2 lo P g gd F.ns.length F.ds.length ca cb M' (heldDs F (k : Int) ⟨#[]⟩)) := hmu
    have HMM : Hid ((M'.set k (zeroN, .slice none 0 0)).map (·.1) = F.ns.set k zeroN) := HSET.out M' hM'
    have hkM : k < M'.length := by have := congrArg List.length hM'; simp at this; omega
    have hss := HCE.out w2 HON.out
    have HSN : Hid (w2.cell? ⟨ki, 0, none⟩ = some (.int .i64 (k : Nat)) ∧ w2.cell? ⟨P, 0, none⟩ = some (.slice (some ⟨g, 0, none⟩) F.ns.length ca)) := hss
    refine hK.out _ _ HSN.out (fun hT => ?_)
    clear hK K hT
    try simp only [Act.put, List.setIfInBounds_toArray, List.set_cons_zero, List.set_cons_succ]
    clear HSS hss hmu hon HHC HCE HOB hb1 HSET hM'
    refine wpAnyH_done (by kernel_rfl) ?_ _
    simp only [NoPanic]
    obtain ⟨s0, s1⟩ := HSN.out
    clear HSN
    obtain ⟨d0, d1, d2, d3, d4⟩ := HMU.out.celln hkM
    have f0 := HMU.out.fz (k * 5)
    have f1 := HMU.out.fz (k * 5 + 1)
    have f2 := HMU.out.fz (k * 5 + 2)
    have f3 := HMU.out.fz (k * 5 + 3)
    have f4 := HMU.out.fz (k * 5 + 4)
    have HW : Hid (MuF (((((w2.setCell ⟨g, k * 5, none⟩ (.int .i64 0)).setCell ⟨g, k * 5 + 1, none⟩ (.int .i64 0)).setCell ⟨g, k * 5 + 2, none⟩ (.int .i64 0)).setCell ⟨g, k * 5 + 3, none⟩ (.int .i64 0)).setCell ⟨g, k * 5 + 4, none⟩ (.slice none 0 0)).drew lo P g gd F.ns.length F.ds.length ca cb (M'.set k (zeroN, .slice none 0 0)) (heldDs F (k : Int) ⟨#[]⟩)) := (HMU.out.wipe hkM).new ((Below.refl _ _).drew)
    have HO9 : Hid (Only (fun q => lo ≤ q) W (((((w2.setCell ⟨g, k * 5, none⟩ (.int .i64 0)).setCell ⟨g, k * 5 + 1, none⟩ (.int .i64 0)).setCell ⟨g, k * 5 + 2, none⟩ (.int .i64 0)).setCell ⟨g, k * 5 + 3, none⟩ (.int .i64 0)).setCell ⟨g, k * 5 + 4, none⟩ (.slice none 0 0)).drew) := (HON.out.trans ((wipe_only w2 g k).mono fun q _ e => by omega)).trans (Only.of_new ((Below.refl _ _).drew))
    clear HMU HON
    generalize M'[k] = xk at *
    go_upto_region 4 with fail
    go_region
    all_goals
      clear d0 d1 d2 d3 d4 f0 f1 f2 f3 f4 s0 s1
      generalize (((((w2.setCell ⟨g, k * 5, none⟩ (.int .i64 0)).setCell ⟨g, k * 5 + 1, none⟩ (.int .i64 0)).setCell ⟨g, k * 5 + 2, none⟩ (.int .i64 0)).setCell ⟨g, k * 5 + 3, none⟩ (.int .i64 0)).setCell ⟨g, k * 5 + 4, none⟩ (.slice none 0 0)).drew = W9 at *
      go_wp2
      go_ret
      exact ⟨by rw [HOK.out]; rfl, fun _ => by rw [HDD.out]; exact HW.out.own (F := ⟨F.ns.set k zeroN, heldDs F (k : Int) ⟨#[]⟩⟩) HMM.out rfl, HO9.out⟩
  · have HU1 : Hid (usB F i = false) := usB_no hu
    rw [HU1.out] at HUS2
    have HOK : Hid (dpOk F i = false) := dpOk_no fun h => hu h.1
    clear hu hv ho hsm HCE
    go_enter Try.func48, Try.ntmps48
    go_wp2_with fail
    refine HUS2.out.mono ?_
    rintro e w1 ⟨rfl, hb1⟩
    have HON : Hid (Only (fun q => lo ≤ q) W w1) := HOB.out w1 hb1
    clear HUS2 HOB hb1
    go_wp2
    go_ret
    exact ⟨by rw [HOK.out]; rfl, fun h => absurd (HOK.out.symm.trans h) (by decide), HON.out⟩

end Go.Proofs.Ytioecnfgliponaa

/-
  Own text: a node is made on a copy of a branch.
-/
namespace Go.Proofs.Ytioecnfgliponaa
open Go.RowKit

theorem usedK (kind : Int) (w : World) : Calls Try.prog 47 #[.int .i64 kind] w fun e w' => e = .returned (.bool (decide (1 ≤ kind) && decide (kind ≤ 3))) ∧ w' = w := by
  have hk : kind = 1 ∨ kind = 2 ∨ kind = 3 ∨ (¬ kind = 1 ∧ ¬ kind = 2 ∧ ¬ kind = 3) := by omega
  rcases hk with rfl | rfl | rfl | ⟨h1, h2, h3⟩
  · go_enter Try.func47, Try.ntmps47
    go_wp2
    go_ret
    exact ⟨rfl, rfl⟩
  · go_enter Try.func47, Try.ntmps47
    go_wp2
    go_ret
    exact ⟨rfl, rfl⟩
  · go_enter Try.func47, Try.ntmps47
    go_wp2
    go_ret
    exact ⟨rfl, rfl⟩
  · have HQ : Hid ((decide (1 ≤ kind) && decide (kind ≤ 3)) = false) := and_noK (by omega)
    have e1 : (kind == 1) = false := by simpa using h1
    have e2 : (kind == 2) = false := by simpa using h2
    have e3 : (kind == 3) = false := by simpa using h3
    clear h1 h2 h3
    go_enter Try.func47, Try.ntmps47
    go_wp2
    go_ret
    exact ⟨by rw [HQ.out]; rfl, rfl⟩
/-- All five cells of a node are stored anew: it is of a kind, and empty. -/
def born (W : World) (g i : Nat) (x : Int) : World := ((((W.setCell ⟨g, i * 5, none⟩ (.int .i64 x)).setCell ⟨g, i * 5 + 1, none⟩ (.int .i64 0)).setCell ⟨g, i * 5 + 2, none⟩ (.int .i64 0)).setCell ⟨g, i * 5 + 3, none⟩ (.int .i64 0)).setCell ⟨g, i * 5 + 4, none⟩ (.slice none 0 0)
theorem born_only (W : World) (g i : Nat) (x : Int) : Only (fun q => q = g) W (born W g i x) :=
  ((((Only.setCell (S := fun q => q = g) (Only.refl _ _) (p := ⟨g, i * 5, none⟩) rfl _).setCell (p := ⟨g, i * 5 + 1, none⟩) rfl _).setCell (p := ⟨g, i * 5 + 2, none⟩) rfl _).setCell (p := ⟨g, i * 5 + 3, none⟩) rfl _).setCell (p := ⟨g, i * 5 + 4, none⟩) rfl _
theorem MuF.born {W : World} {lo Q g gd N D ca cb : Nat} {M : List NodeU} {ds : List ByteArray} (h : MuF W lo Q g gd N D ca cb M ds) {i : Nat} (hi : i < M.length) (x : Int) : MuF (born W g i x) lo Q g gd N D ca cb (M.set i (⟨x, 0, 0, 0, []⟩, .slice none 0 0)) ds := by
  have hn := h.nod
  rw [← h.ln] at hn
  have h4 := hn.four hi x 0 0 0
  rw [h.ln] at h4
  have hO : Only (fun q => q = g) W ((((W.setCell ⟨g, i * 5, none⟩ (.int .i64 x)).setCell ⟨g, i * 5 + 1, none⟩ (.int .i64 0)).setCell ⟨g, i * 5 + 2, none⟩ (.int .i64 0)).setCell ⟨g, i * 5 + 3, none⟩ (.int .i64 0)) :=
    (((Only.setCell (S := fun q => q = g) (Only.refl _ _) (p := ⟨g, i * 5, none⟩) rfl _).setCell (p := ⟨g, i * 5 + 1, none⟩) rfl _).setCell (p := ⟨g, i * 5 + 2, none⟩) rfl _).setCell (p := ⟨g, i * 5 + 3, none⟩) rfl _
  have hm := h.only_g hO (h4.hi hO.size) (by rw [List.length_set]; exact h.ln)
  have hi2 : i < (M.set i ((⟨x, 0, 0, 0, M[i].1.b⟩ : NodeD), M[i].2)).length := by simpa using hi
  have hm2 := hm.blocks hi2 [] (.slice none 0 0) (World.ownsRow_nil _ _ _ _) (fun _ _ _ _ _ e => by cases e)
  rw [List.getElem_set_self, List.set_set] at hm2
  exact hm2

set_option maxRecDepth 20000 in
set_option maxHeartbeats 2000000 in
theorem cloMk (lo P kk km : Nat) (vn vd : Value) (F : FsD) (kind : Int) (W : World) (hsm : SmF F) (hv : Var W P #[vn, vd] 31) (ho : OwnFs W lo W.heap.size (.agg #[vn, vd]) F) (_ : P < lo) (hkk : kk < lo) (hkm : km < lo) (hPm : P ≠ km) (hlo : lo ≤ W.heap.size)
    (ck : W.cell? ⟨kk, 0, none⟩ = some (.int .i64 kind)) (hm : Var W km #[.int .i64 (-1)] 3) :
    Calls Try.prog 43 #[.pointer (some ⟨P, 0, none⟩), .pointer (some ⟨kk, 0, none⟩), .pointer (some ⟨km, 0, none⟩)] W fun e w' => e = .returned (.bool (mdOk F kind)) ∧ (mdOk F kind = true → OwnFs w' lo w'.heap.size (.agg #[vn, vd]) (mdD F kind)) ∧ Only (fun q => lo ≤ q ∨ q = km) W w' ∧ w'.cell? ⟨km, 0, none⟩ = some (.int .i64 (mdI F kind)) := by
  obtain ⟨a, ca, b, cb, hlay⟩ := ho.lay
  simp at hlay
  obtain ⟨rfl, rfl⟩ := hlay
  have hlP := hv.lt
  have p0 : W.cell? ⟨P, 0, none⟩ = some (.slice a F.ns.length ca) := (hv.cell 0).trans rfl
  have m0 : W.cell? ⟨km, 0, none⟩ = some (.int .i64 (-1)) := (hm.cell 0).trans rfl
  have hrd := ho.rd
  have hs1 := hsm.1
  have HNS : Hid (RdNs W a F.ns) := by
    obtain ⟨a', ca', b', cb', he, _, r1, _⟩ := hrd
    injection he with he
    simp at he
    obtain ⟨⟨rfl, rfl⟩, _⟩ := he
    exact r1
  have HIX : Hid (Calls Try.prog 44 #[.slice a F.ns.length ca, .func (.func 45) #[] #[]] W fun e w' => e = .returned (.int .i64 (freeI1 F.ns)) ∧ Below W.heap.size W w') := indexFree a ca F.ns W (by omega) HNS.out
  have HSH : Hid (∀ w', Below W.heap.size W w' → Calls Try.prog 46 #[.agg #[.slice a F.ns.length ca, .slice b F.ds.length cb]] w' fun e w'' => e = .returned (.bool (shOk F)) ∧ Below w'.heap.size w' w'') := fun w' h => implShapeOk _ F w' hsm (hrd.below h (Nat.le_refl _))
  have HCE : Hid (∀ w', Below W.heap.size W w' → w'.cell? ⟨kk, 0, none⟩ = some (.int .i64 kind) ∧ w'.cell? ⟨P, 0, none⟩ = some (.slice a F.ns.length ca) ∧ w'.cell? ⟨P, 1, none⟩ = some (.slice b F.ds.length cb) ∧ w'.cell? ⟨km, 0, none⟩ = some (.int .i64 (-1))) := fun w' h => ⟨(h.cell (p := ⟨kk, 0, none⟩) (by show kk < _; omega)).trans ck, ((hv.new h).cell 0).trans rfl, ((hv.new h).cell 1).trans rfl, (h.cell (p := ⟨km, 0, none⟩) (by show km < _; omega)).trans m0⟩
  have HOB : Hid (∀ w', Below W.heap.size W w' → Only (fun q => lo ≤ q ∨ q = km) W w') := fun w' h => (Only.of_below h).mono fun q _ (e : W.heap.size ≤ q) => by left; omega
  by_cases hM : MdP F kind
  · obtain ⟨hS, hki, hix⟩ := hM
    obtain ⟨k, hk⟩ : ∃ k, F.ns.findIdx (·.k == 0) = k := ⟨_, rfl⟩
    have hkl : k < F.ns.length := by rw [← hk]; exact hix
    have hOK0 : mdOk F kind = true := mdOk_yes ⟨hS, hki, hix⟩
    have HOK : Hid (mdOk F kind = true) := hOK0
    have HMI : Hid (mdI F kind = (k : Int)) := by show _ = _; unfold mdI; rw [hOK0, if_pos rfl, hk]
    have HMD : Hid (mdD F kind = ⟨F.ns.set k ⟨kind, 0, 0, 0, []⟩, F.ds⟩) := by show _ = _; unfold mdD; rw [hOK0, if_pos rfl, hk]
    have hfr : freeI1 F.ns = (k : Int) := by unfold freeI1; rw [if_pos hix, hk]
    have HSO : Hid (shOk F = true) := shOk_yes hS
    have HUK : Hid (∀ w', Calls Try.prog 47 #[.int .i64 kind] w' fun e w'' => e = .returned (.bool true) ∧ w'' = w') := fun w' => by
      have := usedK kind w'
      rw [decide_eq_true hki.1, decide_eq_true hki.2] at this
      exact this
    have hn10 : F.ns.length ≤ 10 := hS.1.2.1
    have hd1 : 0 < F.ds.length := hS.1.2.2.1
    obtain ⟨g, gd, ca', cb', M, he, hMm, h1, h2⟩ := ho.open (by omega) hd1
    simp at he
    obtain ⟨⟨rfl, rfl⟩, rfl, rfl⟩ := he
    have hMl : M.length = F.ns.length := by rw [← hMm]; simp
    have HMU : Hid (∀ w', Below W.heap.size W w' → MuF w' lo P g gd F.ns.length F.ds.length ca cb M F.ds) := fun w' h => MuF.made (hv.new h) h1 h2 h hMl rfl
    have HMM : Hid ((M.set k ((⟨kind, 0, 0, 0, []⟩ : NodeD), .slice none 0 0)).map (·.1) = F.ns.set k ⟨kind, 0, 0, 0, []⟩) := by show _ = _; rw [List.map_set, hMm]
    have HVM : Hid (∀ w', Below W.heap.size W w' → Var w' km #[.int .i64 (-1)] 3) := fun w' h => hm.new h
    have hkM : k < M.length := by omega
    have hlg : lo ≤ g := (HMU.out W (Below.refl _ _)).in_g.1
    rw [HSO.out] at HSH
    rw [hfr] at HIX
    clear hS hki hix hk hOK0 hfr HSO hMm h1 h2 ho hv hm hrd hsm HNS ck m0
    go_enter Try.func43, Try.ntmps43
    go_wp2_with fail
    refine HIX.out.mono ?_
    rintro e w1 ⟨rfl, hb1⟩
    obtain ⟨s0, s1, s2, s3⟩ := HCE.out w1 hb1
    clear HIX
    go_wp2_with fail
    refine (HSH.out w1 hb1).mono ?_
    rintro e w2 ⟨rfl, hb2⟩
    have hb12 := hb1.trans (hb2.mono hb1.size)
    clear s0 s1 s2 s3 hb1 hb2 p0
    obtain ⟨s0, s1, s2, s3⟩ := HCE.out w2 hb12
    go_wp2_with fail
    refine (HUK.out w2).mono ?_
    rintro e w3 ⟨rfl, hw3⟩
    subst w3
    have hmu := HMU.out w2 hb12
    obtain ⟨d0, d1, d2, d3, d4⟩ := hmu.celln hkM
    have f0 := hmu.fz (k * 5)
    have f1 := hmu.fz (k * 5 + 1)
    have f2 := hmu.fz (k * 5 + 2)
    have f3 := hmu.fz (k * 5 + 3)
    have f4 := hmu.fz (k * 5 + 4)
    have fm := (HVM.out w2 hb12).frozen 0
    have HMU2 : Hid (MuF w2 lo P g gd F.ns.length F.ds.length ca cb M F.ds) := hmu
    have HVM2 : Hid (Var w2 km #[.int .i64 (-1)] 3) := HVM.out w2 hb12
    have HOB2 : Hid (Only (fun q => lo ≤ q ∨ q = km) W w2) := HOB.out w2 hb12
    clear hmu HSH HUK HCE HOB HVM HMU hb12
    have hmu9 : MuF ((((((w2.setCell ⟨g, k * 5, none⟩ (.int .i64 kind)).setCell ⟨g, k * 5 + 1, none⟩ (.int .i64 0)).setCell ⟨g, k * 5 + 2, none⟩ (.int .i64 0)).setCell ⟨g, k * 5 + 3, none⟩ (.int .i64 0)).setCell ⟨g, k * 5 + 4, none⟩ (.slice none 0 0)).setCell ⟨km, 0, none⟩ (.int .i64 (k : Nat))).drew lo P g gd F.ns.length F.ds.length ca cb (M.set k (⟨kind, 0, 0, 0, []⟩, .slice none 0 0)) F.ds := ((HMU2.out.born hkM kind).lowset hkm (fun e => hPm e.symm) 0 (.int .i64 (k : Nat))).new ((Below.refl _ _).drew)
    have hbo : Only (fun q => q = g) w2 (((((w2.setCell ⟨g, k * 5, none⟩ (.int .i64 kind)).setCell ⟨g, k * 5 + 1, none⟩ (.int .i64 0)).setCell ⟨g, k * 5 + 2, none⟩ (.int .i64 0)).setCell ⟨g, k * 5 + 3, none⟩ (.int .i64 0)).setCell ⟨g, k * 5 + 4, none⟩ (.slice none 0 0)) := born_only w2 g k kind
    have hb1 : Only (fun q => lo ≤ q ∨ q = km) w2 (((((w2.setCell ⟨g, k * 5, none⟩ (.int .i64 kind)).setCell ⟨g, k * 5 + 1, none⟩ (.int .i64 0)).setCell ⟨g, k * 5 + 2, none⟩ (.int .i64 0)).setCell ⟨g, k * 5 + 3, none⟩ (.int .i64 0)).setCell ⟨g, k * 5 + 4, none⟩ (.slice none 0 0)) := hbo.mono fun q _ e => by left; omega
    have hvm := HVM2.out.only hbo (by omega)
    have hb2 := HOB2.out.trans hb1
    have ho9 : Only (fun q => lo ≤ q ∨ q = km) W ((((((w2.setCell ⟨g, k * 5, none⟩ (.int .i64 kind)).setCell ⟨g, k * 5 + 1, none⟩ (.int .i64 0)).setCell ⟨g, k * 5 + 2, none⟩ (.int .i64 0)).setCell ⟨g, k * 5 + 3, none⟩ (.int .i64 0)).setCell ⟨g, k * 5 + 4, none⟩ (.slice none 0 0)).setCell ⟨km, 0, none⟩ (.int .i64 (k : Nat))).drew := (hb2.setCell (p := ⟨km, 0, none⟩) (.inr rfl) (.int .i64 (k : Nat))).trans (Only.of_new ((Below.refl _ _).drew))
    have hv2 := (hvm.set 0 (.int .i64 (k : Nat))).new ((Below.refl _ _).drew)
    have hv3 : Var ((((((w2.setCell ⟨g, k * 5, none⟩ (.int .i64 kind)).setCell ⟨g, k * 5 + 1, none⟩ (.int .i64 0)).setCell ⟨g, k * 5 + 2, none⟩ (.int .i64 0)).setCell ⟨g, k * 5 + 3, none⟩ (.int .i64 0)).setCell ⟨g, k * 5 + 4, none⟩ (.slice none 0 0)).setCell ⟨km, 0, none⟩ (.int .i64 (k : Nat))).drew km #[.int .i64 (k : Nat)] 3 := by simpa using hv2
    have HW : Hid (MuF ((((((w2.setCell ⟨g, k * 5, none⟩ (.int .i64 kind)).setCell ⟨g, k * 5 + 1, none⟩ (.int .i64 0)).setCell ⟨g, k * 5 + 2, none⟩ (.int .i64 0)).setCell ⟨g, k * 5 + 3, none⟩ (.int .i64 0)).setCell ⟨g, k * 5 + 4, none⟩ (.slice none 0 0)).setCell ⟨km, 0, none⟩ (.int .i64 (k : Nat))).drew lo P g gd F.ns.length F.ds.length ca cb (M.set k (⟨kind, 0, 0, 0, []⟩, .slice none 0 0)) F.ds ∧ Only (fun q => lo ≤ q ∨ q = km) W ((((((w2.setCell ⟨g, k * 5, none⟩ (.int .i64 kind)).setCell ⟨g, k * 5 + 1, none⟩ (.int .i64 0)).setCell ⟨g, k * 5 + 2, none⟩ (.int .i64 0)).setCell ⟨g, k * 5 + 3, none⟩ (.int .i64 0)).setCell ⟨g, k * 5 + 4, none⟩ (.slice none 0 0)).setCell ⟨km, 0, none⟩ (.int .i64 (k : Nat))).drew ∧ Var ((((((w2.setCell ⟨g, k * 5, none⟩ (.int .i64 kind)).setCell ⟨g, k * 5 + 1, none⟩ (.int .i64 0)).setCell ⟨g, k * 5 + 2, none⟩ (.int .i64 0)).setCell ⟨g, k * 5 + 3, none⟩ (.int .i64 0)).setCell ⟨g, k * 5 + 4, none⟩ (.slice none 0 0)).setCell ⟨km, 0, none⟩ (.int .i64 (k : Nat))).drew km #[.int .i64 (k : Nat)] 3) := ⟨hmu9, ho9, hv3⟩
    clear hmu9 hbo hb1 hvm hb2 ho9 hv2 hv3
    clear HMU2 HVM2 HOB2
    generalize M[k] = xk at *
    go_upto_region 4 with fail
    go_region
    all_goals
      clear d0 d1 d2 d3 d4 f0 f1 f2 f3 f4 fm s0 s1 s2 s3
      generalize ((((((w2.setCell ⟨g, k * 5, none⟩ (.int .i64 kind)).setCell ⟨g, k * 5 + 1, none⟩ (.int .i64 0)).setCell ⟨g, k * 5 + 2, none⟩ (.int .i64 0)).setCell ⟨g, k * 5 + 3, none⟩ (.int .i64 0)).setCell ⟨g, k * 5 + 4, none⟩ (.slice none 0 0)).setCell ⟨km, 0, none⟩ (.int .i64 (k : Nat))).drew = W9 at *
      go_wp2
      go_ret
      exact ⟨by rw [HOK.out]; rfl, fun _ => by rw [HMD.out]; exact HW.out.1.own (F := ⟨F.ns.set k ⟨kind, 0, 0, 0, []⟩, F.ds⟩) HMM.out rfl, HW.out.2.1, by rw [HMI.out]; exact (HW.out.2.2.cell 0).trans rfl⟩
  · obtain ⟨hk1, hk2, _⟩ := made_not hM
    have HK1 : Hid (mdOk F kind = false) := hk1
    have HK2 : Hid (mdI F kind = -1) := hk2
    clear hk1 hk2
    by_cases hS : ShapeP F
    · have HSO : Hid (shOk F = true) := shOk_yes hS
      rw [HSO.out] at HSH
      by_cases hki : 1 ≤ kind ∧ kind ≤ 3
      · have HUK : Hid (∀ w', Calls Try.prog 47 #[.int .i64 kind] w' fun e w'' => e = .returned (.bool true) ∧ w'' = w') := fun w' => by
          have := usedK kind w'
          rw [decide_eq_true hki.1, decide_eq_true hki.2] at this
          exact this
        have hfr : freeI1 F.ns = -1 := by unfold freeI1; rw [if_neg fun h => hM ⟨hS, hki, h⟩]
        rw [hfr] at HIX
        clear hki hfr hS HSO hM
        clear hv ho hm hsm hrd HNS ck m0
        go_enter Try.func43, Try.ntmps43
        go_wp2_with fail
        refine HIX.out.mono ?_
        rintro e w1 ⟨rfl, hb1⟩
        obtain ⟨s0, s1, s2, s3⟩ := HCE.out w1 hb1
        clear HIX
        go_wp2_with fail
        refine (HSH.out w1 hb1).mono ?_
        rintro e w2 ⟨rfl, hb2⟩
        have hb12 := hb1.trans (hb2.mono hb1.size)
        clear s0 s1 s2 s3 hb1 hb2 p0
        obtain ⟨s0, s1, s2, s3⟩ := HCE.out w2 hb12
        go_wp2_with fail
        refine (HUK.out w2).mono ?_
        rintro e w3 ⟨rfl, hw3⟩
        subst w3
        have HOB2 : Hid (Only (fun q => lo ≤ q ∨ q = km) W w2) := HOB.out w2 hb12
        have HC9 : Hid (w2.cell? ⟨km, 0, none⟩ = some (.int .i64 (-1))) := s3
        go_wp2
        go_ret
        exact ⟨by rw [HK1.out]; rfl, fun h => absurd (HK1.out.symm.trans h) (by decide), HOB2.out, by rw [HK2.out]; exact HC9.out⟩
      · have HUK : Hid (∀ w', Calls Try.prog 47 #[.int .i64 kind] w' fun e w'' => e = .returned (.bool false) ∧ w'' = w') := fun w' => by
          have := usedK kind w'
          rw [and_noK hki] at this
          exact this
        clear hki hS HSO hM
        generalize freeI1 F.ns = fr at *
        clear hv ho hm hsm hrd HNS ck m0
        go_enter Try.func43, Try.ntmps43
        go_wp2_with fail
        refine HIX.out.mono ?_
        rintro e w1 ⟨rfl, hb1⟩
        obtain ⟨s0, s1, s2, s3⟩ := HCE.out w1 hb1
        clear HIX
        go_wp2_with fail
        refine (HSH.out w1 hb1).mono ?_
        rintro e w2 ⟨rfl, hb2⟩
        have hb12 := hb1.trans (hb2.mono hb1.size)
        clear s0 s1 s2 s3 hb1 hb2 p0
        obtain ⟨s0, s1, s2, s3⟩ := HCE.out w2 hb12
        go_wp2_with fail
        refine (HUK.out w2).mono ?_
        rintro e w3 ⟨rfl, hw3⟩
        subst w3
        have HOB2 : Hid (Only (fun q => lo ≤ q ∨ q = km) W w2) := HOB.out w2 hb12
        have HC9 : Hid (w2.cell? ⟨km, 0, none⟩ = some (.int .i64 (-1))) := s3
        go_wp2
        go_ret
        exact ⟨by rw [HK1.out]; rfl, fun h => absurd (HK1.out.symm.trans h) (by decide), HOB2.out, by rw [HK2.out]; exact HC9.out⟩
    · have HSO : Hid (shOk F = false) := shOk_no hS
      rw [HSO.out] at HSH
      clear hS HSO hM
      generalize freeI1 F.ns = fr at *
      clear hv ho hm hsm hrd HNS ck m0
      go_enter Try.func43, Try.ntmps43
      go_wp2_with fail
      refine HIX.out.mono ?_
      rintro e w1 ⟨rfl, hb1⟩
      obtain ⟨s0, s1, s2, s3⟩ := HCE.out w1 hb1
      clear HIX
      go_wp2_with fail
      refine (HSH.out w1 hb1).mono ?_
      rintro e w2 ⟨rfl, hb2⟩
      have hb12 := hb1.trans (hb2.mono hb1.size)
      clear s0 s1 s2 s3 hb1 hb2 p0
      obtain ⟨s0, s1, s2, s3⟩ := HCE.out w2 hb12
      have HOB2 : Hid (Only (fun q => lo ≤ q ∨ q = km) W w2) := HOB.out w2 hb12
      have HC9 : Hid (w2.cell? ⟨km, 0, none⟩ = some (.int .i64 (-1))) := s3
      go_wp2
      go_ret
      exact ⟨by rw [HK1.out]; rfl, fun h => absurd (HK1.out.symm.trans h) (by decide), HOB2.out, by rw [HK2.out]; exact HC9.out⟩

end Go.Proofs.Ytioecnfgliponaa

/-
  Own text: a change on a copy of a branch, given back as it was where it was not done.
-/
namespace Go.Proofs.Ytioecnfgliponaa
open Go.RowKit

theorem res_fs3 {fn : Func} {p u : Tmp} (h : fn.results = #[.cell p 31, .cell u 4]) (tmps : Array Value) (w : World) (g gb : Nat) (cs : Array Value) (b : Bool) (hs : cs.size = 2)
    (hp : tmps.getD p undef = .pointer (some ⟨g, 0, none⟩)) (hg : Var w g cs 31) (hq : tmps.getD u undef = .pointer (some ⟨gb, 0, none⟩)) (hb : Var w gb #[.bool b] 4) :
    (results fn tmps).run Try.prog w = .ok (.tuple #[.agg cs, .bool b]) w := by
  have hl1 : (loadVar 31 ⟨g, 0, none⟩).run Try.prog w = .ok (.agg cs) w := run_loadVar_row w g 31 31 cs (0, 0) _ hg Try.underlying31 rfl (by rw [hs]; exact Try.sizeFs)
  have hc : w.cell? ⟨gb, 0, none⟩ = some (.bool b) := (hb.cell 0).trans rfl
  have hl2 : (loadVar 4 ⟨gb, 0, none⟩).run Try.prog w = .ok (.bool b) w := by simp [go_sem, loadVar, hc]
  have key : (results fn tmps).run Try.prog w = ((asAddr (tmps.getD p undef)).run Try.prog w).andThen fun a w₁ => ((loadVar 31 a).run Try.prog w₁).andThen fun v w₂ => ((asAddr (tmps.getD u undef)).run Try.prog w₂).andThen fun a' w₃ => ((loadVar 4 a').run Try.prog w₃).andThen fun v' w₄ => .ok (.tuple #[v, v']) w₄ := by
    simp only [results, h]
    simp [Sem.run_bind, Result.andThen]
  rw [key, hp, hq]
  simp [asAddr, hl1, hl2]

set_option maxRecDepth 20000 in
theorem begDone (Pd : Nat) (tf tc : Value) (um : FrameMode) (w : World) (hd : w.cell? ⟨Pd, 0, none⟩ = some (.bool true)) :
    CallsD Try.prog 57 #[.pointer (some ⟨Pd, 0, none⟩), tf, tc] um w fun e u' w' => u' = um ∧ (e = .returned (.tuple #[]) ∧ w' = w) := by
  go_enter_d Try.func57, Try.ntmps57
  go_wp2
  go_end0
  exact ⟨rfl, rfl⟩

set_option maxRecDepth 20000 in
set_option maxHeartbeats 1000000 in
theorem begUndo (Pd Pf Pc P0 : Nat) (c0 c1 : Value) (aa ab : Option Addr) (ca cb : Nat) (F : FsD) (um : FrameMode) (w : World) (hd : w.cell? ⟨Pd, 0, none⟩ = some (.bool false)) (hf : w.cell? ⟨Pf, 0, none⟩ = some (.pointer (some ⟨P0, 0, none⟩))) (hc : Var w Pc #[c0, c1] 31)
    (hsm : SmF F) (hP : P0 < w.heap.size) (hp0 : w.cell? ⟨P0, 0, none⟩ = some (.slice aa F.ns.length ca)) (hp1 : w.cell? ⟨P0, 1, none⟩ = some (.slice ab F.ds.length cb)) (r1 : RdNs w aa F.ns) (r2 : RdS w ab F.ds) :
    CallsD Try.prog 57 #[.pointer (some ⟨Pd, 0, none⟩), .pointer (some ⟨Pf, 0, none⟩), .pointer (some ⟨Pc, 0, none⟩)] um w fun e u' w' => u' = um ∧ (e = .returned (.tuple #[]) ∧ ∃ vn vd, Var w' Pc #[vn, vd] 31 ∧ OwnFs w' w.heap.size w'.heap.size (.agg #[vn, vd]) F ∧ Only (fun q => q = Pc ∨ w.heap.size ≤ q) w w') := by
  have HFR : Hid (Calls Try.prog 58 #[.pointer (some ⟨P0, 0, none⟩)] w fun e w' => ∃ u, e = .returned u ∧ OwnFs w' w.heap.size w'.heap.size u F ∧ Below w.heap.size w w') := implFresh P0 aa ab ca cb F w hsm hP hp0 hp1 r1 r2
  have HC : Hid (Var w Pc #[c0, c1] 31) := hc
  clear hp0 hp1 r1 r2 hsm hc
  go_enter_d Try.func57, Try.ntmps57
  go_wp2_with fail
  refine HFR.out.mono ?_
  rintro e w1 ⟨u, rfl, ho, hb⟩
  obtain ⟨a1, d1, b1, e1, rfl⟩ := ho.lay
  have hC1 := HC.out.new hb
  have x0 := hC1.cell 0
  have x1 := hC1.cell 1
  have z0 := hC1.frozen 0
  have z1 := hC1.frozen 1
  simp at x0 x1
  have hCl := HC.out.lt
  have hV := (hC1.set 0 (.slice a1 F.ns.length d1)).set 1 (.slice b1 F.ds.length e1)
  have hO : Only (fun q => q = Pc) w1 ((w1.setCell ⟨Pc, 0, none⟩ (.slice a1 F.ns.length d1)).setCell ⟨Pc, 1, none⟩ (.slice b1 F.ds.length e1)) := (Only.setCell (S := fun q => q = Pc) (Only.refl _ _) (p := ⟨Pc, 0, none⟩) rfl _).setCell (p := ⟨Pc, 1, none⟩) rfl _
  have HE : Hid (Var ((w1.setCell ⟨Pc, 0, none⟩ (.slice a1 F.ns.length d1)).setCell ⟨Pc, 1, none⟩ (.slice b1 F.ds.length e1)) Pc #[.slice a1 F.ns.length d1, .slice b1 F.ds.length e1] 31 ∧ OwnFs ((w1.setCell ⟨Pc, 0, none⟩ (.slice a1 F.ns.length d1)).setCell ⟨Pc, 1, none⟩ (.slice b1 F.ds.length e1)) w.heap.size ((w1.setCell ⟨Pc, 0, none⟩ (.slice a1 F.ns.length d1)).setCell ⟨Pc, 1, none⟩ (.slice b1 F.ds.length e1)).heap.size (.agg #[.slice a1 F.ns.length d1, .slice b1 F.ds.length e1]) F ∧ Only (fun q => q = Pc ∨ w.heap.size ≤ q) w ((w1.setCell ⟨Pc, 0, none⟩ (.slice a1 F.ns.length d1)).setCell ⟨Pc, 1, none⟩ (.slice b1 F.ds.length e1))) := by
    refine ⟨by simpa using hV, (ho.only hO (fun k h1 _ e => by omega)).hi hO.size, ((Only.of_new hb).trans (hO.mono fun q _ e => .inl e))⟩
  clear hC1 hV hO ho hb
  go_wp2
  go_end0
  exact ⟨rfl, _, _, HE.out⟩

set_option maxRecDepth 20000 in
set_option maxHeartbeats 4000000 in
theorem beginWr (P0 ki kd : Nat) (aa ab : Option Addr) (ca cb : Nat) (F F' : FsD) (ok : Bool) (X : Nat → Prop) (Z : World → Prop) (w : World) (hsm : SmF F) (hP : P0 < w.heap.size) (hX : ∀ q, X q → q < w.heap.size) (hZ : ∀ W W', w.heap.size ≤ W.heap.size → Only (fun q => w.heap.size ≤ q) W W' → Z W → Z W')
    (hF : ∀ W, Only (fun q => w.heap.size ≤ q ∨ X q) w W → W.cell? ⟨P0, 0, none⟩ = some (.slice aa F.ns.length ca) ∧ W.cell? ⟨P0, 1, none⟩ = some (.slice ab F.ds.length cb) ∧ RdNs W aa F.ns ∧ RdS W ab F.ds)
    (hch : ∀ W vn vd, Var W (w.heap.size + 1) #[vn, vd] 31 → OwnFs W (w.heap.size + 3) W.heap.size (.agg #[vn, vd]) F → Below w.heap.size w W → w.heap.size + 3 ≤ W.heap.size →
      Calls Try.prog 35 #[.pointer (some ⟨w.heap.size + 1, 0, none⟩), .pointer (some ⟨ki, 0, none⟩), .pointer (some ⟨kd, 0, none⟩)] W fun e w' => e = .returned (.bool ok) ∧ (ok = true → OwnFs w' (w.heap.size + 3) w'.heap.size (.agg #[vn, vd]) F') ∧ Only (fun q => w.heap.size + 3 ≤ q ∨ X q) W w' ∧ Z w') :
    Calls Try.prog 34 #[.pointer (some ⟨P0, 0, none⟩), .func (.func 35) #[] #[.pointer (some ⟨ki, 0, none⟩), .pointer (some ⟨kd, 0, none⟩)]] w fun e w' => ∃ u, e = .returned (.tuple #[u, .bool ok]) ∧ OwnFs w' w.heap.size w'.heap.size u (if ok = true then F' else F) ∧ Only (fun q => w.heap.size ≤ q ∨ X q) w w' ∧ Z w' := by
  have hmf : ∀ (fn : Fn) (first cap : Array Value) (w : World), (Instr.makeFunc fn first cap).run Try.prog w = .ok (.func fn first cap) w := fun _ _ _ _ => rfl
  have hF0 := hF _ ((Only.of_below (below3 w (.cells #[.pointer (some ⟨P0, 0, none⟩)] 60) (.cells #[.slice none 0 0, .slice none 0 0] 31) (.cells #[.bool false] 4))).mono fun q _ h => .inl h)
  have hz0 : (((w.alloc (.cells #[.pointer (some ⟨P0, 0, none⟩)] 60)).alloc (.cells #[.slice none 0 0, .slice none 0 0] 31)).alloc (.cells #[.bool false] 4)).heap.size = w.heap.size + 3 := by simp
  have hFr := implFresh P0 aa ab ca cb F _ hsm (by rw [hz0]; omega) hF0.1 hF0.2.1 hF0.2.2.1 hF0.2.2.2
  have HB0 : Hid (Below w.heap.size w (((w.alloc (.cells #[.pointer (some ⟨P0, 0, none⟩)] 60)).alloc (.cells #[.slice none 0 0, .slice none 0 0] 31)).alloc (.cells #[.bool false] 4))) := below3 _ _ _ _
  have HVF : Hid (Var (((w.alloc (.cells #[.pointer (some ⟨P0, 0, none⟩)] 60)).alloc (.cells #[.slice none 0 0, .slice none 0 0] 31)).alloc (.cells #[.bool false] 4)) w.heap.size #[.pointer (some ⟨P0, 0, none⟩)] 60) := ((Var.made w _ _).alloc _).alloc _
  have HVC : Hid (Var (((w.alloc (.cells #[.pointer (some ⟨P0, 0, none⟩)] 60)).alloc (.cells #[.slice none 0 0, .slice none 0 0] 31)).alloc (.cells #[.bool false] 4)) (w.heap.size + 1) #[.slice none 0 0, .slice none 0 0] 31) := (Var.made2 w _ _ _).alloc _
  have HVD : Hid (Var (((w.alloc (.cells #[.pointer (some ⟨P0, 0, none⟩)] 60)).alloc (.cells #[.slice none 0 0, .slice none 0 0] 31)).alloc (.cells #[.bool false] 4)) (w.heap.size + 1 + 1) #[.bool false] 4) := Var.made3 w _ _ _ _
  rw [hz0] at hFr
  have HFR : Hid (Calls Try.prog 58 #[.pointer (some ⟨P0, 0, none⟩)] (((w.alloc (.cells #[.pointer (some ⟨P0, 0, none⟩)] 60)).alloc (.cells #[.slice none 0 0, .slice none 0 0] 31)).alloc (.cells #[.bool false] 4)) fun e w' => ∃ u, e = .returned u ∧ OwnFs w' (w.heap.size + 3) w'.heap.size u F ∧ Below (w.heap.size + 3) (((w.alloc (.cells #[.pointer (some ⟨P0, 0, none⟩)] 60)).alloc (.cells #[.slice none 0 0, .slice none 0 0] 31)).alloc (.cells #[.bool false] 4)) w') := hFr
  have HF : Hid (∀ W, Only (fun q => w.heap.size ≤ q ∨ X q) w W → W.cell? ⟨P0, 0, none⟩ = some (.slice aa F.ns.length ca) ∧ W.cell? ⟨P0, 1, none⟩ = some (.slice ab F.ds.length cb) ∧ RdNs W aa F.ns ∧ RdS W ab F.ds) := hF
  have HCH : Hid (∀ W vn vd, Var W (w.heap.size + 1) #[vn, vd] 31 → OwnFs W (w.heap.size + 3) W.heap.size (.agg #[vn, vd]) F → Below w.heap.size w W → w.heap.size + 3 ≤ W.heap.size →
      Calls Try.prog 35 #[.pointer (some ⟨w.heap.size + 1, 0, none⟩), .pointer (some ⟨ki, 0, none⟩), .pointer (some ⟨kd, 0, none⟩)] W fun e w' => e = .returned (.bool ok) ∧ (ok = true → OwnFs w' (w.heap.size + 3) w'.heap.size (.agg #[vn, vd]) F') ∧ Only (fun q => w.heap.size + 3 ≤ q ∨ X q) W w' ∧ Z w') := hch
  have HSM : Hid (SmF F) := hsm
  have HX : Hid (∀ q, X q → q < w.heap.size) := hX
  have HZ : Hid (∀ W W', w.heap.size ≤ W.heap.size → Only (fun q => w.heap.size ≤ q) W W' → Z W → Z W') := hZ
  clear hF0 hFr hF hch hsm hX hZ
  go_enter_defers Try.func34, Try.ntmps34
  go_wp2_with fail
  refine HFR.out.mono ?_
  rintro e w1 ⟨u, rfl, ho, hb⟩
  obtain ⟨a1, c1, b1, e1, rfl⟩ := ho.lay
  have hF1 := HVF.out.below hb (by omega)
  have hC1 := HVC.out.below hb (by omega)
  have hD1 := HVD.out.below hb (by omega)
  have hB1 := HB0.out.trans (hb.mono (by omega))
  have hz1 : w.heap.size + 3 ≤ w1.heap.size := by have := hb.size; omega
  have x0 := hC1.cell 0
  have x1 := hC1.cell 1
  have z0 := hC1.frozen 0
  have z1 := hC1.frozen 1
  simp at x0 x1
  have hO : Only (fun q => q = w.heap.size + 1) w1 ((w1.setCell ⟨w.heap.size + 1, 0, none⟩ (.slice a1 F.ns.length c1)).setCell ⟨w.heap.size + 1, 1, none⟩ (.slice b1 F.ds.length e1)) := (Only.setCell (S := fun q => q = w.heap.size + 1) (Only.refl _ _) (p := ⟨w.heap.size + 1, 0, none⟩) rfl _).setCell (p := ⟨w.heap.size + 1, 1, none⟩) rfl _
  have hV := (hC1.set 0 (.slice a1 F.ns.length c1)).set 1 (.slice b1 F.ds.length e1)
  have hC2 : Var ((w1.setCell ⟨w.heap.size + 1, 0, none⟩ (.slice a1 F.ns.length c1)).setCell ⟨w.heap.size + 1, 1, none⟩ (.slice b1 F.ds.length e1)) (w.heap.size + 1) #[.slice a1 F.ns.length c1, .slice b1 F.ds.length e1] 31 := by simpa using hV
  have hF2 := hF1.only hO (by omega)
  have hD2 := hD1.only hO (by omega)
  have hB2 := hB1.trans (hO.below hB1.size (fun q e => by omega))
  have ho2 := (ho.only hO (fun k h1 _ e => by omega)).hi hO.size
  have hz2 := Nat.le_trans hz1 hO.size
  have HS2 : Hid (Var ((w1.setCell ⟨w.heap.size + 1, 0, none⟩ (.slice a1 F.ns.length c1)).setCell ⟨w.heap.size + 1, 1, none⟩ (.slice b1 F.ds.length e1)) (w.heap.size + 1) #[.slice a1 F.ns.length c1, .slice b1 F.ds.length e1] 31 ∧ OwnFs ((w1.setCell ⟨w.heap.size + 1, 0, none⟩ (.slice a1 F.ns.length c1)).setCell ⟨w.heap.size + 1, 1, none⟩ (.slice b1 F.ds.length e1)) (w.heap.size + 3) ((w1.setCell ⟨w.heap.size + 1, 0, none⟩ (.slice a1 F.ns.length c1)).setCell ⟨w.heap.size + 1, 1, none⟩ (.slice b1 F.ds.length e1)).heap.size (.agg #[.slice a1 F.ns.length c1, .slice b1 F.ds.length e1]) F ∧ Below w.heap.size w ((w1.setCell ⟨w.heap.size + 1, 0, none⟩ (.slice a1 F.ns.length c1)).setCell ⟨w.heap.size + 1, 1, none⟩ (.slice b1 F.ds.length e1)) ∧ w.heap.size + 3 ≤ ((w1.setCell ⟨w.heap.size + 1, 0, none⟩ (.slice a1 F.ns.length c1)).setCell ⟨w.heap.size + 1, 1, none⟩ (.slice b1 F.ds.length e1)).heap.size ∧ Var ((w1.setCell ⟨w.heap.size + 1, 0, none⟩ (.slice a1 F.ns.length c1)).setCell ⟨w.heap.size + 1, 1, none⟩ (.slice b1 F.ds.length e1)) w.heap.size #[.pointer (some ⟨P0, 0, none⟩)] 60 ∧ Var ((w1.setCell ⟨w.heap.size + 1, 0, none⟩ (.slice a1 F.ns.length c1)).setCell ⟨w.heap.size + 1, 1, none⟩ (.slice b1 F.ds.length e1)) (w.heap.size + 1 + 1) #[.bool false] 4) := ⟨hC2, ho2, hB2, hz2, hF2, hD2⟩
  clear hF1 hC1 hD1 hB1 hO hV hC2 hF2 hD2 hB2 ho2 hz2 ho hb HFR HVF HVC HVD HB0
  go_upto_region 3 with fail
  clear x0 x1 z0 z1
  generalize (w1.setCell ⟨w.heap.size + 1, 0, none⟩ (.slice a1 F.ns.length c1)).setCell ⟨w.heap.size + 1, 1, none⟩ (.slice b1 F.ds.length e1) = W2 at *
  go_wp2_with fail
  refine (HCH.out W2 _ _ HS2.out.1 HS2.out.2.1 HS2.out.2.2.1 HS2.out.2.2.2.1).mono ?_
  rintro e W3 ⟨rfl, hown, hon, hz⟩
  have HX1 := HX.out
  have hC3 := HS2.out.1.only hon (fun h => h.elim (fun h => by omega) (fun h => by have := HX1 _ h; omega))
  have hF3 := HS2.out.2.2.2.2.1.only hon (fun h => h.elim (fun h => by omega) (fun h => by have := HX1 _ h; omega))
  have hD3 := HS2.out.2.2.2.2.2.only hon (fun h => h.elim (fun h => by omega) (fun h => by have := HX1 _ h; omega))
  have hO3 : Only (fun q => w.heap.size ≤ q ∨ X q) w W3 := ((Only.of_below HS2.out.2.2.1).mono fun q _ h => .inl h).trans (hon.mono fun q _ h => h.elim (fun h => .inl (by omega)) .inr)
  have hz3 : w.heap.size + 3 ≤ W3.heap.size := by have h1 := HS2.out.2.2.2.1; have h2 := hon.size; omega
  have t0 := hD3.cell 0
  have s0 := hD3.frozen 0
  simp at t0
  have HD4 : Hid (Var (W3.setCell ⟨w.heap.size + 1 + 1, 0, none⟩ (.bool ok)) (w.heap.size + 1 + 1) #[.bool ok] 4) := by show Var _ _ _ _; have := hD3.set 0 (.bool ok); simpa using this
  have hP4 : Only (fun q => q = w.heap.size + 1 + 1) W3 (W3.setCell ⟨w.heap.size + 1 + 1, 0, none⟩ (.bool ok)) := Only.setCell (S := fun q => q = w.heap.size + 1 + 1) (Only.refl _ _) (p := ⟨w.heap.size + 1 + 1, 0, none⟩) rfl _
  have HC4 : Hid (Var (W3.setCell ⟨w.heap.size + 1 + 1, 0, none⟩ (.bool ok)) (w.heap.size + 1) #[.slice a1 F.ns.length c1, .slice b1 F.ds.length e1] 31) := hC3.only hP4 (by omega)
  have HF4 : Hid (Var (W3.setCell ⟨w.heap.size + 1 + 1, 0, none⟩ (.bool ok)) w.heap.size #[.pointer (some ⟨P0, 0, none⟩)] 60) := hF3.only hP4 (by omega)
  have HO4 : Hid (Only (fun q => w.heap.size ≤ q ∨ X q) w (W3.setCell ⟨w.heap.size + 1 + 1, 0, none⟩ (.bool ok))) := hO3.trans (hP4.mono fun q _ e => by left; omega)
  have HW4 : Hid (ok = true → OwnFs (W3.setCell ⟨w.heap.size + 1 + 1, 0, none⟩ (.bool ok)) (w.heap.size + 3) (W3.setCell ⟨w.heap.size + 1 + 1, 0, none⟩ (.bool ok)).heap.size (.agg #[.slice a1 F.ns.length c1, .slice b1 F.ds.length e1]) F') := fun h => ((hown h).only hP4 (fun k h1 _ e => by omega)).hi hP4.size
  have hz4 := Nat.le_trans hz3 hP4.size
  have HZ4 : Hid (Z (W3.setCell ⟨w.heap.size + 1 + 1, 0, none⟩ (.bool ok))) := HZ.out _ _ (by omega) (hP4.mono fun q _ e => by omega) hz
  clear hz hC3 hF3 hD3 hO3 hz3 hP4 hown hon HS2 HCH HX1 HX
  go_upto_region 4 with fail
  clear t0 s0
  generalize W3.setCell ⟨w.heap.size + 1 + 1, 0, none⟩ (.bool ok) = W4 at *
  have x0 := HC4.out.cell 0
  have x1 := HC4.out.cell 1
  have z0 := HC4.out.frozen 0
  have z1 := HC4.out.frozen 1
  have t0 := HD4.out.cell 0
  have s0 := HD4.out.frozen 0
  simp at x0 x1 t0
  have hv5 := ((HC4.out.set 0 (.slice a1 F.ns.length c1)).set 1 (.slice b1 F.ds.length e1))
  simp at hv5
  have hO5 : Only (fun q => q = w.heap.size + 1) W4 ((W4.setCell ⟨w.heap.size + 1, 0, none⟩ (.slice a1 F.ns.length c1)).setCell ⟨w.heap.size + 1, 1, none⟩ (.slice b1 F.ds.length e1)) := (Only.setCell (S := fun q => q = w.heap.size + 1) (Only.refl _ _) (p := ⟨w.heap.size + 1, 0, none⟩) rfl _).setCell (p := ⟨w.heap.size + 1, 1, none⟩) rfl _
  have hd5 := (HD4.out.only hO5 (by omega)).set 0 (.bool ok)
  simp at hd5
  have hO6 : Only (fun q => q = w.heap.size + 1 + 1) ((W4.setCell ⟨w.heap.size + 1, 0, none⟩ (.slice a1 F.ns.length c1)).setCell ⟨w.heap.size + 1, 1, none⟩ (.slice b1 F.ds.length e1)) (((W4.setCell ⟨w.heap.size + 1, 0, none⟩ (.slice a1 F.ns.length c1)).setCell ⟨w.heap.size + 1, 1, none⟩ (.slice b1 F.ds.length e1)).setCell ⟨w.heap.size + 1 + 1, 0, none⟩ (.bool ok)) := Only.setCell (S := fun q => q = w.heap.size + 1 + 1) (Only.refl _ _) (p := ⟨w.heap.size + 1 + 1, 0, none⟩) rfl _
  have hO7 : Only (fun q => q = w.heap.size + 1 ∨ q = w.heap.size + 1 + 1) W4 (((W4.setCell ⟨w.heap.size + 1, 0, none⟩ (.slice a1 F.ns.length c1)).setCell ⟨w.heap.size + 1, 1, none⟩ (.slice b1 F.ds.length e1)).setCell ⟨w.heap.size + 1 + 1, 0, none⟩ (.bool ok)).drew := ((hO5.mono fun q _ e => .inl e).trans (hO6.mono fun q _ e => .inr e)).trans (Only.of_new ((Below.refl _ _).drew))
  have HC5 : Hid (Var (((W4.setCell ⟨w.heap.size + 1, 0, none⟩ (.slice a1 F.ns.length c1)).setCell ⟨w.heap.size + 1, 1, none⟩ (.slice b1 F.ds.length e1)).setCell ⟨w.heap.size + 1 + 1, 0, none⟩ (.bool ok)).drew (w.heap.size + 1) #[.slice a1 F.ns.length c1, .slice b1 F.ds.length e1] 31) := (hv5.only hO6 (by omega)).new ((Below.refl _ _).drew)
  have HD5 : Hid (Var (((W4.setCell ⟨w.heap.size + 1, 0, none⟩ (.slice a1 F.ns.length c1)).setCell ⟨w.heap.size + 1, 1, none⟩ (.slice b1 F.ds.length e1)).setCell ⟨w.heap.size + 1 + 1, 0, none⟩ (.bool ok)).drew (w.heap.size + 1 + 1) #[.bool ok] 4) := hd5.new ((Below.refl _ _).drew)
  have HF5 : Hid (Var (((W4.setCell ⟨w.heap.size + 1, 0, none⟩ (.slice a1 F.ns.length c1)).setCell ⟨w.heap.size + 1, 1, none⟩ (.slice b1 F.ds.length e1)).setCell ⟨w.heap.size + 1 + 1, 0, none⟩ (.bool ok)).drew w.heap.size #[.pointer (some ⟨P0, 0, none⟩)] 60) := HF4.out.only hO7 (by omega)
  have HO5 : Hid (Only (fun q => w.heap.size ≤ q ∨ X q) w (((W4.setCell ⟨w.heap.size + 1, 0, none⟩ (.slice a1 F.ns.length c1)).setCell ⟨w.heap.size + 1, 1, none⟩ (.slice b1 F.ds.length e1)).setCell ⟨w.heap.size + 1 + 1, 0, none⟩ (.bool ok)).drew) := HO4.out.trans (hO7.mono fun q _ e => by left; omega)
  have HW5 : Hid (ok = true → OwnFs (((W4.setCell ⟨w.heap.size + 1, 0, none⟩ (.slice a1 F.ns.length c1)).setCell ⟨w.heap.size + 1, 1, none⟩ (.slice b1 F.ds.length e1)).setCell ⟨w.heap.size + 1 + 1, 0, none⟩ (.bool ok)).drew (w.heap.size + 3) ((((W4.setCell ⟨w.heap.size + 1, 0, none⟩ (.slice a1 F.ns.length c1)).setCell ⟨w.heap.size + 1, 1, none⟩ (.slice b1 F.ds.length e1)).setCell ⟨w.heap.size + 1 + 1, 0, none⟩ (.bool ok)).drew).heap.size (.agg #[.slice a1 F.ns.length c1, .slice b1 F.ds.length e1]) F') := fun h => ((HW4.out h).only hO7 (fun k h1 _ e => by omega)).hi hO7.size
  have hz5 := Nat.le_trans hz4 hO7.size
  have HZ5 : Hid (Z (((W4.setCell ⟨w.heap.size + 1, 0, none⟩ (.slice a1 F.ns.length c1)).setCell ⟨w.heap.size + 1, 1, none⟩ (.slice b1 F.ds.length e1)).setCell ⟨w.heap.size + 1 + 1, 0, none⟩ (.bool ok)).drew) := HZ.out _ _ (by omega) (hO7.mono fun q _ e => by omega) HZ4.out
  clear hv5 hO5 hd5 hO6 hO7 HC4 HD4 HF4 HO4 HW4 hz4 HZ4
  go_region
  clear x0 x1 z0 z1 t0 s0
  generalize (((W4.setCell ⟨w.heap.size + 1, 0, none⟩ (.slice a1 F.ns.length c1)).setCell ⟨w.heap.size + 1, 1, none⟩ (.slice b1 F.ds.length e1)).setCell ⟨w.heap.size + 1 + 1, 0, none⟩ (.bool ok)).drew = W6 at *
  have x0 := HC5.out.cell 0
  have x1 := HC5.out.cell 1
  have z0 := HC5.out.frozen 0
  have z1 := HC5.out.frozen 1
  have t0 := HD5.out.cell 0
  have y0 := HF5.out.cell 0
  simp at x0 x1 t0 y0
  cases ok with
  | true =>
    clear x0 x1 z0 z1 y0
    go_wp2
    refine leaves_cons (f := 57) (args := #[.pointer (some ⟨w.heap.size + 1 + 1, 0, none⟩), .pointer (some ⟨w.heap.size, 0, none⟩), .pointer (some ⟨w.heap.size + 1, 0, none⟩)]) (by simp) (by simp [go_sem]) ?_
    refine (begDone (w.heap.size + 1 + 1) (.pointer (some ⟨w.heap.size, 0, none⟩)) (.pointer (some ⟨w.heap.size + 1, 0, none⟩)) .returning W6 t0).mono ?_
    rintro e u' w'' ⟨rfl, rfl, hw⟩
    subst w''
    simp [Leaves, settle, go_sem]
    exact ⟨_, res_fs3 rfl _ _ (w.heap.size + 1) (w.heap.size + 1 + 1) #[.slice a1 F.ns.length c1, .slice b1 F.ds.length e1] true rfl rfl HC5.out rfl HD5.out, _, rfl, (HW5.out (by first | trivial | rfl)).base (by omega), HO5.out, HZ5.out⟩
  | false =>
    obtain ⟨f0, f1, f2, f3⟩ := HF.out W6 HO5.out
    clear x0 x1 z0 z1
    go_wp2
    refine leaves_cons (f := 57) (args := #[.pointer (some ⟨w.heap.size + 1 + 1, 0, none⟩), .pointer (some ⟨w.heap.size, 0, none⟩), .pointer (some ⟨w.heap.size + 1, 0, none⟩)]) (by simp) (by simp [go_sem]) ?_
    refine (begUndo (w.heap.size + 1 + 1) w.heap.size (w.heap.size + 1) P0 _ _ aa ab ca cb F .returning W6 t0 y0 HC5.out HSM.out (by have := HO5.out.size; omega) f0 f1 f2 f3).mono ?_
    rintro e u' w'' ⟨rfl, rfl, vn, vd, hvc, hov, hon⟩
    have HD6 : Hid (Var w'' (w.heap.size + 1 + 1) #[.bool false] 4) := HD5.out.only hon (by omega)
    have HV6 : Hid (Var w'' (w.heap.size + 1) #[vn, vd] 31) := hvc
    have HO6 : Hid (OwnFs w'' w.heap.size w''.heap.size (.agg #[vn, vd]) F) := hov.base (by omega)
    have HO7 : Hid (Only (fun q => w.heap.size ≤ q ∨ X q) w w'') := HO5.out.trans (hon.mono fun q _ h => by left; omega)
    have HZ7 : Hid (Z w'') := HZ.out _ _ (by omega) (hon.mono fun q _ h => by omega) HZ5.out
    clear hvc hov hon
    simp [Leaves, settle, go_sem]
    exact ⟨_, res_fs3 rfl _ _ (w.heap.size + 1) (w.heap.size + 1 + 1) #[vn, vd] false rfl rfl HV6.out rfl HD6.out, _, rfl, HO6.out, HO7.out, HZ7.out⟩

set_option maxRecDepth 20000 in
set_option maxHeartbeats 4000000 in
theorem beginMk (P0 kk km : Nat) (aa ab : Option Addr) (ca cb : Nat) (F F' : FsD) (ok : Bool) (X : Nat → Prop) (Z : World → Prop) (w : World) (hsm : SmF F) (hP : P0 < w.heap.size) (hX : ∀ q, X q → q < w.heap.size) (hZ : ∀ W W', w.heap.size ≤ W.heap.size → Only (fun q => w.heap.size ≤ q) W W' → Z W → Z W')
    (hF : ∀ W, Only (fun q => w.heap.size ≤ q ∨ X q) w W → W.cell? ⟨P0, 0, none⟩ = some (.slice aa F.ns.length ca) ∧ W.cell? ⟨P0, 1, none⟩ = some (.slice ab F.ds.length cb) ∧ RdNs W aa F.ns ∧ RdS W ab F.ds)
    (hch : ∀ W vn vd, Var W (w.heap.size + 1) #[vn, vd] 31 → OwnFs W (w.heap.size + 3) W.heap.size (.agg #[vn, vd]) F → Below w.heap.size w W → w.heap.size + 3 ≤ W.heap.size →
      Calls Try.prog 43 #[.pointer (some ⟨w.heap.size + 1, 0, none⟩), .pointer (some ⟨kk, 0, none⟩), .pointer (some ⟨km, 0, none⟩)] W fun e w' => e = .returned (.bool ok) ∧ (ok = true → OwnFs w' (w.heap.size + 3) w'.heap.size (.agg #[vn, vd]) F') ∧ Only (fun q => w.heap.size + 3 ≤ q ∨ X q) W w' ∧ Z w') :
    Calls Try.prog 34 #[.pointer (some ⟨P0, 0, none⟩), .func (.func 43) #[] #[.pointer (some ⟨kk, 0, none⟩), .pointer (some ⟨km, 0, none⟩)]] w fun e w' => ∃ u, e = .returned (.tuple #[u, .bool ok]) ∧ OwnFs w' w.heap.size w'.heap.size u (if ok = true then F' else F) ∧ Only (fun q => w.heap.size ≤ q ∨ X q) w w' ∧ Z w' := by
  have hmf : ∀ (fn : Fn) (first cap : Array Value) (w : World), (Instr.makeFunc fn first cap).run Try.prog w = .ok (.func fn first cap) w := fun _ _ _ _ => rfl
  have hF0 := hF _ ((Only.of_below (below3 w (.cells #[.pointer (some ⟨P0, 0, none⟩)] 60) (.cells #[.slice none 0 0, .slice none 0 0] 31) (.cells #[.bool false] 4))).mono fun q _ h => .inl h)
  have hz0 : (((w.alloc (.cells #[.pointer (some ⟨P0, 0, none⟩)] 60)).alloc (.cells #[.slice none 0 0, .slice none 0 0] 31)).alloc (.cells #[.bool false] 4)).heap.size = w.heap.size + 3 := by simp
  have hFr := implFresh P0 aa ab ca cb F _ hsm (by rw [hz0]; omega) hF0.1 hF0.2.1 hF0.2.2.1 hF0.2.2.2
  have HB0 : Hid (Below w.heap.size w (((w.alloc (.cells #[.pointer (some ⟨P0, 0, none⟩)] 60)).alloc (.cells #[.slice none 0 0, .slice none 0 0] 31)).alloc (.cells #[.bool false] 4))) := below3 _ _ _ _
  have HVF : Hid (Var (((w.alloc (.cells #[.pointer (some ⟨P0, 0, none⟩)] 60)).alloc (.cells #[.slice none 0 0, .slice none 0 0] 31)).alloc (.cells #[.bool false] 4)) w.heap.size #[.pointer (some ⟨P0, 0, none⟩)] 60) := ((Var.made w _ _).alloc _).alloc _
  have HVC : Hid (Var (((w.alloc (.cells #[.pointer (some ⟨P0, 0, none⟩)] 60)).alloc (.cells #[.slice none 0 0, .slice none 0 0] 31)).alloc (.cells #[.bool false] 4)) (w.heap.size + 1) #[.slice none 0 0, .slice none 0 0] 31) := (Var.made2 w _ _ _).alloc _
  have HVD : Hid (Var (((w.alloc (.cells #[.pointer (some ⟨P0, 0, none⟩)] 60)).alloc (.cells #[.slice none 0 0, .slice none 0 0] 31)).alloc (.cells #[.bool false] 4)) (w.heap.size + 1 + 1) #[.bool false] 4) := Var.made3 w _ _ _ _
  rw [hz0] at hFr
  have HFR : Hid (Calls Try.prog 58 #[.pointer (some ⟨P0, 0, none⟩)] (((w.alloc (.cells #[.pointer (some ⟨P0, 0, none⟩)] 60)).alloc (.cells #[.slice none 0 0, .slice none 0 0] 31)).alloc (.cells #[.bool false] 4)) fun e w' => ∃ u, e = .returned u ∧ OwnFs w' (w.heap.size + 3) w'.heap.size u F ∧ Below (w.heap.size + 3) (((w.alloc (.cells #[.pointer (some ⟨P0, 0, none⟩)] 60)).alloc (.cells #[.slice none 0 0, .slice none 0 0] 31)).alloc (.cells #[.bool false] 4)) w') := hFr
  have HF : Hid (∀ W, Only (fun q => w.heap.size ≤ q ∨ X q) w W → W.cell? ⟨P0, 0, none⟩ = some (.slice aa F.ns.length ca) ∧ W.cell? ⟨P0, 1, none⟩ = some (.slice ab F.ds.length cb) ∧ RdNs W aa F.ns ∧ RdS W ab F.ds) := hF
  have HCH : Hid (∀ W vn vd, Var W (w.heap.size + 1) #[vn, vd] 31 → OwnFs W (w.heap.size + 3) W.heap.size (.agg #[vn, vd]) F → Below w.heap.size w W → w.heap.size + 3 ≤ W.heap.size →
      Calls Try.prog 43 #[.pointer (some ⟨w.heap.size + 1, 0, none⟩), .pointer (some ⟨kk, 0, none⟩), .pointer (some ⟨km, 0, none⟩)] W fun e w' => e = .returned (.bool ok) ∧ (ok = true → OwnFs w' (w.heap.size + 3) w'.heap.size (.agg #[vn, vd]) F') ∧ Only (fun q => w.heap.size + 3 ≤ q ∨ X q) W w' ∧ Z w') := hch
  have HSM : Hid (SmF F) := hsm
  have HX : Hid (∀ q, X q → q < w.heap.size) := hX
  have HZ : Hid (∀ W W', w.heap.size ≤ W.heap.size → Only (fun q => w.heap.size ≤ q) W W' → Z W → Z W') := hZ
  clear hF0 hFr hF hch hsm hX hZ
  go_enter_defers Try.func34, Try.ntmps34
  go_wp2_with fail
  refine HFR.out.mono ?_
  rintro e w1 ⟨u, rfl, ho, hb⟩
  obtain ⟨a1, c1, b1, e1, rfl⟩ := ho.lay
  have hF1 := HVF.out.below hb (by omega)
  have hC1 := HVC.out.below hb (by omega)
  have hD1 := HVD.out.below hb (by omega)
  have hB1 := HB0.out.trans (hb.mono (by omega))
  have hz1 : w.heap.size + 3 ≤ w1.heap.size := by have := hb.size; omega
  have x0 := hC1.cell 0
  have x1 := hC1.cell 1
  have z0 := hC1.frozen 0
  have z1 := hC1.frozen 1
  simp at x0 x1
  have hO : Only (fun q => q = w.heap.size + 1) w1 ((w1.setCell ⟨w.heap.size + 1, 0, none⟩ (.slice a1 F.ns.length c1)).setCell ⟨w.heap.size + 1, 1, none⟩ (.slice b1 F.ds.length e1)) := (Only.setCell (S := fun q => q = w.heap.size + 1) (Only.refl _ _) (p := ⟨w.heap.size + 1, 0, none⟩) rfl _).setCell (p := ⟨w.heap.size + 1, 1, none⟩) rfl _
  have hV := (hC1.set 0 (.slice a1 F.ns.length c1)).set 1 (.slice b1 F.ds.length e1)
  have hC2 : Var ((w1.setCell ⟨w.heap.size + 1, 0, none⟩ (.slice a1 F.ns.length c1)).setCell ⟨w.heap.size + 1, 1, none⟩ (.slice b1 F.ds.length e1)) (w.heap.size + 1) #[.slice a1 F.ns.length c1, .slice b1 F.ds.length e1] 31 := by simpa using hV
  have hF2 := hF1.only hO (by omega)
  have hD2 := hD1.only hO (by omega)
  have hB2 := hB1.trans (hO.below hB1.size (fun q e => by omega))
  have ho2 := (ho.only hO (fun k h1 _ e => by omega)).hi hO.size
  have hz2 := Nat.le_trans hz1 hO.size
  have HS2 : Hid (Var ((w1.setCell ⟨w.heap.size + 1, 0, none⟩ (.slice a1 F.ns.length c1)).setCell ⟨w.heap.size + 1, 1, none⟩ (.slice b1 F.ds.length e1)) (w.heap.size + 1) #[.slice a1 F.ns.length c1, .slice b1 F.ds.length e1] 31 ∧ OwnFs ((w1.setCell ⟨w.heap.size + 1, 0, none⟩ (.slice a1 F.ns.length c1)).setCell ⟨w.heap.size + 1, 1, none⟩ (.slice b1 F.ds.length e1)) (w.heap.size + 3) ((w1.setCell ⟨w.heap.size + 1, 0, none⟩ (.slice a1 F.ns.length c1)).setCell ⟨w.heap.size + 1, 1, none⟩ (.slice b1 F.ds.length e1)).heap.size (.agg #[.slice a1 F.ns.length c1, .slice b1 F.ds.length e1]) F ∧ Below w.heap.size w ((w1.setCell ⟨w.heap.size + 1, 0, none⟩ (.slice a1 F.ns.length c1)).setCell ⟨w.heap.size + 1, 1, none⟩ (.slice b1 F.ds.length e1)) ∧ w.heap.size + 3 ≤ ((w1.setCell ⟨w.heap.size + 1, 0, none⟩ (.slice a1 F.ns.length c1)).setCell ⟨w.heap.size + 1, 1, none⟩ (.slice b1 F.ds.length e1)).heap.size ∧ Var ((w1.setCell ⟨w.heap.size + 1, 0, none⟩ (.slice a1 F.ns.length c1)).setCell ⟨w.heap.size + 1, 1, none⟩ (.slice b1 F.ds.length e1)) w.heap.size #[.pointer (some ⟨P0, 0, none⟩)] 60 ∧ Var ((w1.setCell ⟨w.heap.size + 1, 0, none⟩ (.slice a1 F.ns.length c1)).setCell ⟨w.heap.size + 1, 1, none⟩ (.slice b1 F.ds.length e1)) (w.heap.size + 1 + 1) #[.bool false] 4) := ⟨hC2, ho2, hB2, hz2, hF2, hD2⟩
  clear hF1 hC1 hD1 hB1 hO hV hC2 hF2 hD2 hB2 ho2 hz2 ho hb HFR HVF HVC HVD HB0
  go_upto_region 3 with fail
  clear x0 x1 z0 z1
  generalize (w1.setCell ⟨w.heap.size + 1, 0, none⟩ (.slice a1 F.ns.length c1)).setCell ⟨w.heap.size + 1, 1, none⟩ (.slice b1 F.ds.length e1) = W2 at *
  go_wp2_with fail
  refine (HCH.out W2 _ _ HS2.out.1 HS2.out.2.1 HS2.out.2.2.1 HS2.out.2.2.2.1).mono ?_
  rintro e W3 ⟨rfl, hown, hon, hz⟩
  have HX1 := HX.out
  have hC3 := HS2.out.1.only hon (fun h => h.elim (fun h => by omega) (fun h => by have := HX1 _ h; omega))
  have hF3 := HS2.out.2.2.2.2.1.only hon (fun h => h.elim (fun h => by omega) (fun h => by have := HX1 _ h; omega))
  have hD3 := HS2.out.2.2.2.2.2.only hon (fun h => h.elim (fun h => by omega) (fun h => by have := HX1 _ h; omega))
  have hO3 : Only (fun q => w.heap.size ≤ q ∨ X q) w W3 := ((Only.of_below HS2.out.2.2.1).mono fun q _ h => .inl h).trans (hon.mono fun q _ h => h.elim (fun h => .inl (by omega)) .inr)
  have hz3 : w.heap.size + 3 ≤ W3.heap.size := by have h1 := HS2.out.2.2.2.1; have h2 := hon.size; omega
  have t0 := hD3.cell 0
  have s0 := hD3.frozen 0
  simp at t0
  have HD4 : Hid (Var (W3.setCell ⟨w.heap.size + 1 + 1, 0, none⟩ (.bool ok)) (w.heap.size + 1 + 1) #[.bool ok] 4) := by show Var _ _ _ _; have := hD3.set 0 (.bool ok); simpa using this
  have hP4 : Only (fun q => q = w.heap.size + 1 + 1) W3 (W3.setCell ⟨w.heap.size + 1 + 1, 0, none⟩ (.bool ok)) := Only.setCell (S := fun q => q = w.heap.size + 1 + 1) (Only.refl _ _) (p := ⟨w.heap.size + 1 + 1, 0, none⟩) rfl _
  have HC4 : Hid (Var (W3.setCell ⟨w.heap.size + 1 + 1, 0, none⟩ (.bool ok)) (w.heap.size + 1) #[.slice a1 F.ns.length c1, .slice b1 F.ds.length e1] 31) := hC3.only hP4 (by omega)
  have HF4 : Hid (Var (W3.setCell ⟨w.heap.size + 1 + 1, 0, none⟩ (.bool ok)) w.heap.size #[.pointer (some ⟨P0, 0, none⟩)] 60) := hF3.only hP4 (by omega)
  have HO4 : Hid (Only (fun q => w.heap.size ≤ q ∨ X q) w (W3.setCell ⟨w.heap.size + 1 + 1, 0, none⟩ (.bool ok))) := hO3.trans (hP4.mono fun q _ e => by left; omega)
  have HW4 : Hid (ok = true → OwnFs (W3.setCell ⟨w.heap.size + 1 + 1, 0, none⟩ (.bool ok)) (w.heap.size + 3) (W3.setCell ⟨w.heap.size + 1 + 1, 0, none⟩ (.bool ok)).heap.size (.agg #[.slice a1 F.ns.length c1, .slice b1 F.ds.length e1]) F') := fun h => ((hown h).only hP4 (fun k h1 _ e => by omega)).hi hP4.size
  have hz4 := Nat.le_trans hz3 hP4.size
  have HZ4 : Hid (Z (W3.setCell ⟨w.heap.size + 1 + 1, 0, none⟩ (.bool ok))) := HZ.out _ _ (by omega) (hP4.mono fun q _ e => by omega) hz
  clear hz hC3 hF3 hD3 hO3 hz3 hP4 hown hon HS2 HCH HX1 HX
  go_upto_region 4 with fail
  clear t0 s0
  generalize W3.setCell ⟨w.heap.size + 1 + 1, 0, none⟩ (.bool ok) = W4 at *
  have x0 := HC4.out.cell 0
  have x1 := HC4.out.cell 1
  have z0 := HC4.out.frozen 0
  have z1 := HC4.out.frozen 1
  have t0 := HD4.out.cell 0
  have s0 := HD4.out.frozen 0
  simp at x0 x1 t0
  have hv5 := ((HC4.out.set 0 (.slice a1 F.ns.length c1)).set 1 (.slice b1 F.ds.length e1))
  simp at hv5
  have hO5 : Only (fun q => q = w.heap.size + 1) W4 ((W4.setCell ⟨w.heap.size + 1, 0, none⟩ (.slice a1 F.ns.length c1)).setCell ⟨w.heap.size + 1, 1, none⟩ (.slice b1 F.ds.length e1)) := (Only.setCell (S := fun q => q = w.heap.size + 1) (Only.refl _ _) (p := ⟨w.heap.size + 1, 0, none⟩) rfl _).setCell (p := ⟨w.heap.size + 1, 1, none⟩) rfl _
  have hd5 := (HD4.out.only hO5 (by omega)).set 0 (.bool ok)
  simp at hd5
  have hO6 : Only (fun q => q = w.heap.size + 1 + 1) ((W4.setCell ⟨w.heap.size + 1, 0, none⟩ (.slice a1 F.ns.length c1)).setCell ⟨w.heap.size + 1, 1, none⟩ (.slice b1 F.ds.length e1)) (((W4.setCell ⟨w.heap.size + 1, 0, none⟩ (.slice a1 F.ns.length c1)).setCell ⟨w.heap.size + 1, 1, none⟩ (.slice b1 F.ds.length e1)).setCell ⟨w.heap.size + 1 + 1, 0, none⟩ (.bool ok)) := Only.setCell (S := fun q => q = w.heap.size + 1 + 1) (Only.refl _ _) (p := ⟨w.heap.size + 1 + 1, 0, none⟩) rfl _
  have hO7 : Only (fun q => q = w.heap.size + 1 ∨ q = w.heap.size + 1 + 1) W4 (((W4.setCell ⟨w.heap.size + 1, 0, none⟩ (.slice a1 F.ns.length c1)).setCell ⟨w.heap.size + 1, 1, none⟩ (.slice b1 F.ds.length e1)).setCell ⟨w.heap.size + 1 + 1, 0, none⟩ (.bool ok)).drew := ((hO5.mono fun q _ e => .inl e).trans (hO6.mono fun q _ e => .inr e)).trans (Only.of_new ((Below.refl _ _).drew))
  have HC5 : Hid (Var (((W4.setCell ⟨w.heap.size + 1, 0, none⟩ (.slice a1 F.ns.length c1)).setCell ⟨w.heap.size + 1, 1, none⟩ (.slice b1 F.ds.length e1)).setCell ⟨w.heap.size + 1 + 1, 0, none⟩ (.bool ok)).drew (w.heap.size + 1) #[.slice a1 F.ns.length c1, .slice b1 F.ds.length e1] 31) := (hv5.only hO6 (by omega)).new ((Below.refl _ _).drew)
  have HD5 : Hid (Var (((W4.setCell ⟨w.heap.size + 1, 0, none⟩ (.slice a1 F.ns.length c1)).setCell ⟨w.heap.size + 1, 1, none⟩ (.slice b1 F.ds.length e1)).setCell ⟨w.heap.size + 1 + 1, 0, none⟩ (.bool ok)).drew (w.heap.size + 1 + 1) #[.bool ok] 4) := hd5.new ((Below.refl _ _).drew)
  have HF5 : Hid (Var (((W4.setCell ⟨w.heap.size + 1, 0, none⟩ (.slice a1 F.ns.length c1)).setCell ⟨w.heap.size + 1, 1, none⟩ (.slice b1 F.ds.length e1)).setCell ⟨w.heap.size + 1 + 1, 0, none⟩ (.bool ok)).drew w.heap.size #[.pointer (some ⟨P0, 0, none⟩)] 60) := HF4.out.only hO7 (by omega)
  have HO5 : Hid (Only (fun q => w.heap.size ≤ q ∨ X q) w (((W4.setCell ⟨w.heap.size + 1, 0, none⟩ (.slice a1 F.ns.length c1)).setCell ⟨w.heap.size + 1, 1, none⟩ (.slice b1 F.ds.length e1)).setCell ⟨w.heap.size + 1 + 1, 0, none⟩ (.bool ok)).drew) := HO4.out.trans (hO7.mono fun q _ e => by left; omega)
  have HW5 : Hid (ok = true → OwnFs (((W4.setCell ⟨w.heap.size + 1, 0, none⟩ (.slice a1 F.ns.length c1)).setCell ⟨w.heap.size + 1, 1, none⟩ (.slice b1 F.ds.length e1)).setCell ⟨w.heap.size + 1 + 1, 0, none⟩ (.bool ok)).drew (w.heap.size + 3) ((((W4.setCell ⟨w.heap.size + 1, 0, none⟩ (.slice a1 F.ns.length c1)).setCell ⟨w.heap.size + 1, 1, none⟩ (.slice b1 F.ds.length e1)).setCell ⟨w.heap.size + 1 + 1, 0, none⟩ (.bool ok)).drew).heap.size (.agg #[.slice a1 F.ns.length c1, .slice b1 F.ds.length e1]) F') := fun h => ((HW4.out h).only hO7 (fun k h1 _ e => by omega)).hi hO7.size
  have hz5 := Nat.le_trans hz4 hO7.size
  have HZ5 : Hid (Z (((W4.setCell ⟨w.heap.size + 1, 0, none⟩ (.slice a1 F.ns.length c1)).setCell ⟨w.heap.size + 1, 1, none⟩ (.slice b1 F.ds.length e1)).setCell ⟨w.heap.size + 1 + 1, 0, none⟩ (.bool ok)).drew) := HZ.out _ _ (by omega) (hO7.mono fun q _ e => by omega) HZ4.out
  clear hv5 hO5 hd5 hO6 hO7 HC4 HD4 HF4 HO4 HW4 hz4 HZ4
  go_region
  clear x0 x1 z0 z1 t0 s0
  generalize (((W4.setCell ⟨w.heap.size + 1, 0, none⟩ (.slice a1 F.ns.length c1)).setCell ⟨w.heap.size + 1, 1, none⟩ (.slice b1 F.ds.length e1)).setCell ⟨w.heap.size + 1 + 1, 0, none⟩ (.bool ok)).drew = W6 at *
  have x0 := HC5.out.cell 0
  have x1 := HC5.out.cell 1
  have z0 := HC5.out.frozen 0
  have z1 := HC5.out.frozen 1
  have t0 := HD5.out.cell 0
  have y0 := HF5.out.cell 0
  simp at x0 x1 t0 y0
  cases ok with
  | true =>
    clear x0 x1 z0 z1 y0
    go_wp2
    refine leaves_cons (f := 57) (args := #[.pointer (some ⟨w.heap.size + 1 + 1, 0, none⟩), .pointer (some ⟨w.heap.size, 0, none⟩), .pointer (some ⟨w.heap.size + 1, 0, none⟩)]) (by simp) (by simp [go_sem]) ?_
    refine (begDone (w.heap.size + 1 + 1) (.pointer (some ⟨w.heap.size, 0, none⟩)) (.pointer (some ⟨w.heap.size + 1, 0, none⟩)) .returning W6 t0).mono ?_
    rintro e u' w'' ⟨rfl, rfl, hw⟩
    subst w''
    simp [Leaves, settle, go_sem]
    exact ⟨_, res_fs3 rfl _ _ (w.heap.size + 1) (w.heap.size + 1 + 1) #[.slice a1 F.ns.length c1, .slice b1 F.ds.length e1] true rfl rfl HC5.out rfl HD5.out, _, rfl, (HW5.out (by first | trivial | rfl)).base (by omega), HO5.out, HZ5.out⟩
  | false =>
    obtain ⟨f0, f1, f2, f3⟩ := HF.out W6 HO5.out
    clear x0 x1 z0 z1
    go_wp2
    refine leaves_cons (f := 57) (args := #[.pointer (some ⟨w.heap.size + 1 + 1, 0, none⟩), .pointer (some ⟨w.heap.size, 0, none⟩), .pointer (some ⟨w.heap.size + 1, 0, none⟩)]) (by simp) (by simp [go_sem]) ?_
    refine (begUndo (w.heap.size + 1 + 1) w.heap.size (w.heap.size + 1) P0 _ _ aa ab ca cb F .returning W6 t0 y0 HC5.out HSM.out (by have := HO5.out.size; omega) f0 f1 f2 f3).mono ?_
    rintro e u' w'' ⟨rfl, rfl, vn, vd, hvc, hov, hon⟩
    have HD6 : Hid (Var w'' (w.heap.size + 1 + 1) #[.bool false] 4) := HD5.out.only hon (by omega)
    have HV6 : Hid (Var w'' (w.heap.size + 1) #[vn, vd] 31) := hvc
    have HO6 : Hid (OwnFs w'' w.heap.size w''.heap.size (.agg #[vn, vd]) F) := hov.base (by omega)
    have HO7 : Hid (Only (fun q => w.heap.size ≤ q ∨ X q) w w'') := HO5.out.trans (hon.mono fun q _ h => by left; omega)
    have HZ7 : Hid (Z w'') := HZ.out _ _ (by omega) (hon.mono fun q _ h => by omega) HZ5.out
    clear hvc hov hon
    simp [Leaves, settle, go_sem]
    exact ⟨_, res_fs3 rfl _ _ (w.heap.size + 1) (w.heap.size + 1 + 1) #[vn, vd] false rfl rfl HV6.out rfl HD6.out, _, rfl, HO6.out, HO7.out, HZ7.out⟩

set_option maxRecDepth 20000 in
set_option maxHeartbeats 4000000 in
theorem beginDp (P0 ki : Nat) (aa ab : Option Addr) (ca cb : Nat) (F F' : FsD) (ok : Bool) (X : Nat → Prop) (Z : World → Prop) (w : World) (hsm : SmF F) (hP : P0 < w.heap.size) (hX : ∀ q, X q → q < w.heap.size) (hZ : ∀ W W', w.heap.size ≤ W.heap.size → Only (fun q => w.heap.size ≤ q) W W' → Z W → Z W')
    (hF : ∀ W, Only (fun q => w.heap.size ≤ q ∨ X q) w W → W.cell? ⟨P0, 0, none⟩ = some (.slice aa F.ns.length ca) ∧ W.cell? ⟨P0, 1, none⟩ = some (.slice ab F.ds.length cb) ∧ RdNs W aa F.ns ∧ RdS W ab F.ds)
    (hch : ∀ W vn vd, Var W (w.heap.size + 1) #[vn, vd] 31 → OwnFs W (w.heap.size + 3) W.heap.size (.agg #[vn, vd]) F → Below w.heap.size w W → w.heap.size + 3 ≤ W.heap.size →
      Calls Try.prog 48 #[.pointer (some ⟨w.heap.size + 1, 0, none⟩), .pointer (some ⟨ki, 0, none⟩)] W fun e w' => e = .returned (.bool ok) ∧ (ok = true → OwnFs w' (w.heap.size + 3) w'.heap.size (.agg #[vn, vd]) F') ∧ Only (fun q => w.heap.size + 3 ≤ q ∨ X q) W w' ∧ Z w') :
    Calls Try.prog 34 #[.pointer (some ⟨P0, 0, none⟩), .func (.func 48) #[] #[.pointer (some ⟨ki, 0, none⟩)]] w fun e w' => ∃ u, e = .returned (.tuple #[u, .bool ok]) ∧ OwnFs w' w.heap.size w'.heap.size u (if ok = true then F' else F) ∧ Only (fun q => w.heap.size ≤ q ∨ X q) w w' ∧ Z w' := by
  have hmf : ∀ (fn : Fn) (first cap : Array Value) (w : World), (Instr.makeFunc fn first cap).run Try.prog w = .ok (.func fn first cap) w := fun _ _ _ _ => rfl
  have hF0 := hF _ ((Only.of_below (below3 w (.cells #[.pointer (some ⟨P0, 0, none⟩)] 60) (.cells #[.slice none 0 0, .slice none 0 0] 31) (.cells #[.bool false] 4))).mono fun q _ h => .inl h)
  have hz0 : (((w.alloc (.cells #[.pointer (some ⟨P0, 0, none⟩)] 60)).alloc (.cells #[.slice none 0 0, .slice none 0 0] 31)).alloc (.cells #[.bool false] 4)).heap.size = w.heap.size + 3 := by simp
  have hFr := implFresh P0 aa ab ca cb F _ hsm (by rw [hz0]; omega) hF0.1 hF0.2.1 hF0.2.2.1 hF0.2.2.2
  have HB0 : Hid (Below w.heap.size w (((w.alloc (.cells #[.pointer (some ⟨P0, 0, none⟩)] 60)).alloc (.cells #[.slice none 0 0, .slice none 0 0] 31)).alloc (.cells #[.bool false] 4))) := below3 _ _ _ _
  have HVF : Hid (Var (((w.alloc (.cells #[.pointer (some ⟨P0, 0, none⟩)] 60)).alloc (.cells #[.slice none 0 0, .slice none 0 0] 31)).alloc (.cells #[.bool false] 4)) w.heap.size #[.pointer (some ⟨P0, 0, none⟩)] 60) := ((Var.made w _ _).alloc _).alloc _
  have HVC : Hid (Var (((w.alloc (.cells #[.pointer (some ⟨P0, 0, none⟩)] 60)).alloc (.cells #[.slice none 0 0, .slice none 0 0] 31)).alloc (.cells #[.bool false] 4)) (w.heap.size + 1) #[.slice none 0 0, .slice none 0 0] 31) := (Var.made2 w _ _ _).alloc _
  have HVD : Hid (Var (((w.alloc (.cells #[.pointer (some ⟨P0, 0, none⟩)] 60)).alloc (.cells #[.slice none 0 0, .slice none 0 0] 31)).alloc (.cells #[.bool false] 4)) (w.heap.size + 1 + 1) #[.bool false] 4) := Var.made3 w _ _ _ _
  rw [hz0] at hFr
  have HFR : Hid (Calls Try.prog 58 #[.pointer (some ⟨P0, 0, none⟩)] (((w.alloc (.cells #[.pointer (some ⟨P0, 0, none⟩)] 60)).alloc (.cells #[.slice none 0 0, .slice none 0 0] 31)).alloc (.cells #[.bool false] 4)) fun e w' => ∃ u, e = .returned u ∧ OwnFs w' (w.heap.size + 3) w'.heap.size u F ∧ Below (w.heap.size + 3) (((w.alloc (.cells #[.pointer (some ⟨P0, 0, none⟩)] 60)).alloc (.cells #[.slice none 0 0, .slice none 0 0] 31)).alloc (.cells #[.bool false] 4)) w') := hFr
  have HF : Hid (∀ W, Only (fun q => w.heap.size ≤ q ∨ X q) w W → W.cell? ⟨P0, 0, none⟩ = some (.slice aa F.ns.length ca) ∧ W.cell? ⟨P0, 1, none⟩ = some (.slice ab F.ds.length cb) ∧ RdNs W aa F.ns ∧ RdS W ab F.ds) := hF
  have HCH : Hid (∀ W vn vd, Var W (w.heap.size + 1) #[vn, vd] 31 → OwnFs W (w.heap.size + 3) W.heap.size (.agg #[vn, vd]) F → Below w.heap.size w W → w.heap.size + 3 ≤ W.heap.size →
      Calls Try.prog 48 #[.pointer (some ⟨w.heap.size + 1, 0, none⟩), .pointer (some ⟨ki, 0, none⟩)] W fun e w' => e = .returned (.bool ok) ∧ (ok = true → OwnFs w' (w.heap.size + 3) w'.heap.size (.agg #[vn, vd]) F') ∧ Only (fun q => w.heap.size + 3 ≤ q ∨ X q) W w' ∧ Z w') := hch
  have HSM : Hid (SmF F) := hsm
  have HX : Hid (∀ q, X q → q < w.heap.size) := hX
  have HZ : Hid (∀ W W', w.heap.size ≤ W.heap.size → Only (fun q => w.heap.size ≤ q) W W' → Z W → Z W') := hZ
  clear hF0 hFr hF hch hsm hX hZ
  go_enter_defers Try.func34, Try.ntmps34
  go_wp2_with fail
  refine HFR.out.mono ?_
  rintro e w1 ⟨u, rfl, ho, hb⟩
  obtain ⟨a1, c1, b1, e1, rfl⟩ := ho.lay
  have hF1 := HVF.out.below hb (by omega)
  have hC1 := HVC.out.below hb (by omega)
  have hD1 := HVD.out.below hb (by omega)
  have hB1 := HB0.out.trans (hb.mono (by omega))
  have hz1 : w.heap.size + 3 ≤ w1.heap.size := by have := hb.size; omega
  have x0 := hC1.cell 0
  have x1 := hC1.cell 1
  have z0 := hC1.frozen 0
  have z1 := hC1.frozen 1
  simp at x0 x1
  have hO : Only (fun q => q = w.heap.size + 1) w1 ((w1.setCell ⟨w.heap.size + 1, 0, none⟩ (.slice a1 F.ns.length c1)).setCell ⟨w.heap.size + 1, 1, none⟩ (.slice b1 F.ds.length e1)) := (Only.setCell (S := fun q => q = w.heap.size + 1) (Only.refl _ _) (p := ⟨w.heap.size + 1, 0, none⟩) rfl _).setCell (p := ⟨w.heap.size + 1, 1, none⟩) rfl _
  have hV := (hC1.set 0 (.slice a1 F.ns.length c1)).set 1 (.slice b1 F.ds.length e1)
  have hC2 : Var ((w1.setCell ⟨w.heap.size + 1, 0, none⟩ (.slice a1 F.ns.length c1)).setCell ⟨w.heap.size + 1, 1, none⟩ (.slice b1 F.ds.length e1)) (w.heap.size + 1) #[.slice a1 F.ns.length c1, .slice b1 F.ds.length e1] 31 := by simpa using hV
  have hF2 := hF1.only hO (by omega)
  have hD2 := hD1.only hO (by omega)
  have hB2 := hB1.trans (hO.below hB1.size (fun q e => by omega))
  have ho2 := (ho.only hO (fun k h1 _ e => by omega)).hi hO.size
  have hz2 := Nat.le_trans hz1 hO.size
  have HS2 : Hid (Var ((w1.setCell ⟨w.heap.size + 1, 0, none⟩ (.slice a1 F.ns.length c1)).setCell ⟨w.heap.size + 1, 1, none⟩ (.slice b1 F.ds.length e1)) (w.heap.size + 1) #[.slice a1 F.ns.length c1, .slice b1 F.ds.length e1] 31 ∧ OwnFs ((w1.setCell ⟨w.heap.size + 1, 0, none⟩ (.slice a1 F.ns.length c1)).setCell ⟨w.heap.size + 1, 1, none⟩ (.slice b1 F.ds.length e1)) (w.heap.size + 3) ((w1.setCell ⟨w.heap.size + 1, 0, none⟩ (.slice a1 F.ns.length c1)).setCell ⟨w.heap.size + 1, 1, none⟩ (.slice b1 F.ds.length e1)).heap.size (.agg #[.slice a1 F.ns.length c1, .slice b1 F.ds.length e1]) F ∧ Below w.heap.size w ((w1.setCell ⟨w.heap.size + 1, 0, none⟩ (.slice a1 F.ns.length c1)).setCell ⟨w.heap.size + 1, 1, none⟩ (.slice b1 F.ds.length e1)) ∧ w.heap.size + 3 ≤ ((w1.setCell ⟨w.heap.size + 1, 0, none⟩ (.slice a1 F.ns.length c1)).setCell ⟨w.heap.size + 1, 1, none⟩ (.slice b1 F.ds.length e1)).heap.size ∧ Var ((w1.setCell ⟨w.heap.size + 1, 0, none⟩ (.slice a1 F.ns.length c1)).setCell ⟨w.heap.size + 1, 1, none⟩ (.slice b1 F.ds.length e1)) w.heap.size #[.pointer (some ⟨P0, 0, none⟩)] 60 ∧ Var ((w1.setCell ⟨w.heap.size + 1, 0, none⟩ (.slice a1 F.ns.length c1)).setCell ⟨w.heap.size + 1, 1, none⟩ (.slice b1 F.ds.length e1)) (w.heap.size + 1 + 1) #[.bool false] 4) := ⟨hC2, ho2, hB2, hz2, hF2, hD2⟩
  clear hF1 hC1 hD1 hB1 hO hV hC2 hF2 hD2 hB2 ho2 hz2 ho hb HFR HVF HVC HVD HB0
  go_upto_region 3 with fail
  clear x0 x1 z0 z1
  generalize (w1.setCell ⟨w.heap.size + 1, 0, none⟩ (.slice a1 F.ns.length c1)).setCell ⟨w.heap.size + 1, 1, none⟩ (.slice b1 F.ds.length e1) = W2 at *
  go_wp2_with fail
  refine (HCH.out W2 _ _ HS2.out.1 HS2.out.2.1 HS2.out.2.2.1 HS2.out.2.2.2.1).mono ?_
  rintro e W3 ⟨rfl, hown, hon, hz⟩
  have HX1 := HX.out
  have hC3 := HS2.out.1.only hon (fun h => h.elim (fun h => by omega) (fun h => by have := HX1 _ h; omega))
  have hF3 := HS2.out.2.2.2.2.1.only hon (fun h => h.elim (fun h => by omega) (fun h => by have := HX1 _ h; omega))
  have hD3 := HS2.out.2.2.2.2.2.only hon (fun h => h.elim (fun h => by omega) (fun h => by have := HX1 _ h; omega))
  have hO3 : Only (fun q => w.heap.size ≤ q ∨ X q) w W3 := ((Only.of_below HS2.out.2.2.1).mono fun q _ h => .inl h).trans (hon.mono fun q _ h => h.elim (fun h => .inl (by omega)) .inr)
  have hz3 : w.heap.size + 3 ≤ W3.heap.size := by have h1 := HS2.out.2.2.2.1; have h2 := hon.size; omega
  have t0 := hD3.cell 0
  have s0 := hD3.frozen 0
  simp at t0
  have HD4 : Hid (Var (W3.setCell ⟨w.heap.size + 1 + 1, 0, none⟩ (.bool ok)) (w.heap.size + 1 + 1) #[.bool ok] 4) := by show Var _ _ _ _; have := hD3.set 0 (.bool ok); simpa using this
  have hP4 : Only (fun q => q = w.heap.size + 1 + 1) W3 (W3.setCell ⟨w.heap.size + 1 + 1, 0, none⟩ (.bool ok)) := Only.setCell (S := fun q => q = w.heap.size + 1 + 1) (Only.refl _ _) (p := ⟨w.heap.size + 1 + 1, 0, none⟩) rfl _
  have HC4 : Hid (Var (W3.setCell ⟨w.heap.size + 1 + 1, 0, none⟩ (.bool ok)) (w.heap.size + 1) #[.slice a1 F.ns.length c1, .slice b1 F.ds.length e1] 31) := hC3.only hP4 (by omega)
  have HF4 : Hid (Var (W3.setCell ⟨w.heap.size + 1 + 1, 0, none⟩ (.bool ok)) w.heap.size #[.pointer (some ⟨P0, 0, none⟩)] 60) := hF3.only hP4 (by omega)
  have HO4 : Hid (Only (fun q => w.heap.size ≤ q ∨ X q) w (W3.setCell ⟨w.heap.size + 1 + 1, 0, none⟩ (.bool ok))) := hO3.trans (hP4.mono fun q _ e => by left; omega)
  have HW4 : Hid (ok = true → OwnFs (W3.setCell ⟨w.heap.size + 1 + 1, 0, none⟩ (.bool ok)) (w.heap.size + 3) (W3.setCell ⟨w.heap.size + 1 + 1, 0, none⟩ (.bool ok)).heap.size (.agg #[.slice a1 F.ns.length c1, .slice b1 F.ds.length e1]) F') := fun h => ((hown h).only hP4 (fun k h1 _ e => by omega)).hi hP4.size
  have hz4 := Nat.le_trans hz3 hP4.size
  have HZ4 : Hid (Z (W3.setCell ⟨w.heap.size + 1 + 1, 0, none⟩ (.bool ok))) := HZ.out _ _ (by omega) (hP4.mono fun q _ e => by omega) hz
  clear hz hC3 hF3 hD3 hO3 hz3 hP4 hown hon HS2 HCH HX1 HX
  go_upto_region 4 with fail
  clear t0 s0
  generalize W3.setCell ⟨w.heap.size + 1 + 1, 0, none⟩ (.bool ok) = W4 at *
  have x0 := HC4.out.cell 0
  have x1 := HC4.out.cell 1
  have z0 := HC4.out.frozen 0
  have z1 := HC4.out.frozen 1
  have t0 := HD4.out.cell 0
  have s0 := HD4.out.frozen 0
  simp at x0 x1 t0
  have hv5 := ((HC4.out.set 0 (.slice a1 F.ns.length c1)).set 1 (.slice b1 F.ds.length e1))
  simp at hv5
  have hO5 : Only (fun q => q = w.heap.size + 1) W4 ((W4.setCell ⟨w.heap.size + 1, 0, none⟩ (.slice a1 F.ns.length c1)).setCell ⟨w.heap.size + 1, 1, none⟩ (.slice b1 F.ds.length e1)) := (Only.setCell (S := fun q => q = w.heap.size + 1) (Only.refl _ _) (p := ⟨w.heap.size + 1, 0, none⟩) rfl _).setCell (p := ⟨w.heap.size + 1, 1, none⟩) rfl _
  have hd5 := (HD4.out.only hO5 (by omega)).set 0 (.bool ok)
  simp at hd5
  have hO6 : Only (fun q => q = w.heap.size + 1 + 1) ((W4.setCell ⟨w.heap.size + 1, 0, none⟩ (.slice a1 F.ns.length c1)).setCell ⟨w.heap.size + 1, 1, none⟩ (.slice b1 F.ds.length e1)) (((W4.setCell ⟨w.heap.size + 1, 0, none⟩ (.slice a1 F.ns.length c1)).setCell ⟨w.heap.size + 1, 1, none⟩ (.slice b1 F.ds.length e1)).setCell ⟨w.heap.size + 1 + 1, 0, none⟩ (.bool ok)) := Only.setCell (S := fun q => q = w.heap.size + 1 + 1) (Only.refl _ _) (p := ⟨w.heap.size + 1 + 1, 0, none⟩) rfl _
  have hO7 : Only (fun q => q = w.heap.size + 1 ∨ q = w.heap.size + 1 + 1) W4 (((W4.setCell ⟨w.heap.size + 1, 0, none⟩ (.slice a1 F.ns.length c1)).setCell ⟨w.heap.size + 1, 1, none⟩ (.slice b1 F.ds.length e1)).setCell ⟨w.heap.size + 1 + 1, 0, none⟩ (.bool ok)).drew := ((hO5.mono fun q _ e => .inl e).trans (hO6.mono fun q _ e => .inr e)).trans (Only.of_new ((Below.refl _ _).drew))
  have HC5 : Hid (Var (((W4.setCell ⟨w.heap.size + 1, 0, none⟩ (.slice a1 F.ns.length c1)).setCell ⟨w.heap.size + 1, 1, none⟩ (.slice b1 F.ds.length e1)).setCell ⟨w.heap.size + 1 + 1, 0, none⟩ (.bool ok)).drew (w.heap.size + 1) #[.slice a1 F.ns.length c1, .slice b1 F.ds.length e1] 31) := (hv5.only hO6 (by omega)).new ((Below.refl _ _).drew)
  have HD5 : Hid (Var (((W4.setCell ⟨w.heap.size + 1, 0, none⟩ (.slice a1 F.ns.length c1)).setCell ⟨w.heap.size + 1, 1, none⟩ (.slice b1 F.ds.length e1)).setCell ⟨w.heap.size + 1 + 1, 0, none⟩ (.bool ok)).drew (w.heap.size + 1 + 1) #[.bool ok] 4) := hd5.new ((Below.refl _ _).drew)
  have HF5 : Hid (Var (((W4.setCell ⟨w.heap.size + 1, 0, none⟩ (.slice a1 F.ns.length c1)).setCell ⟨w.heap.size + 1, 1, none⟩ (.slice b1 F.ds.length e1)).setCell ⟨w.heap.size + 1 + 1, 0, none⟩ (.bool ok)).drew w.heap.size #[.pointer (some ⟨P0, 0, none⟩)] 60) := HF4.out.only hO7 (by omega)
  have HO5 : Hid (Only (fun q => w.heap.size ≤ q ∨ X q) w (((W4.setCell ⟨w.heap.size + 1, 0, none⟩ (.slice a1 F.ns.length c1)).setCell ⟨w.heap.size + 1, 1, none⟩ (.slice b1 F.ds.length e1)).setCell ⟨w.heap.size + 1 + 1, 0, none⟩ (.bool ok)).drew) := HO4.out.trans (hO7.mono fun q _ e => by left; omega)
  have HW5 : Hid (ok = true → OwnFs (((W4.setCell ⟨w.heap.size + 1, 0, none⟩ (.slice a1 F.ns.length c1)).setCell ⟨w.heap.size + 1, 1, none⟩ (.slice b1 F.ds.length e1)).setCell ⟨w.heap.size + 1 + 1, 0, none⟩ (.bool ok)).drew (w.heap.size + 3) ((((W4.setCell ⟨w.heap.size + 1, 0, none⟩ (.slice a1 F.ns.length c1)).setCell ⟨w.heap.size + 1, 1, none⟩ (.slice b1 F.ds.length e1)).setCell ⟨w.heap.size + 1 + 1, 0, none⟩ (.bool ok)).drew).heap.size (.agg #[.slice a1 F.ns.length c1, .slice b1 F.ds.length e1]) F') := fun h => ((HW4.out h).only hO7 (fun k h1 _ e => by omega)).hi hO7.size
  have hz5 := Nat.le_trans hz4 hO7.size
  have HZ5 : Hid (Z (((W4.setCell ⟨w.heap.size + 1, 0, none⟩ (.slice a1 F.ns.length c1)).setCell ⟨w.heap.size + 1, 1, none⟩ (.slice b1 F.ds.length e1)).setCell ⟨w.heap.size + 1 + 1, 0, none⟩ (.bool ok)).drew) := HZ.out _ _ (by omega) (hO7.mono fun q _ e => by omega) HZ4.out
  clear hv5 hO5 hd5 hO6 hO7 HC4 HD4 HF4 HO4 HW4 hz4 HZ4
  go_region
  clear x0 x1 z0 z1 t0 s0
  generalize (((W4.setCell ⟨w.heap.size + 1, 0, none⟩ (.slice a1 F.ns.length c1)).setCell ⟨w.heap.size + 1, 1, none⟩ (.slice b1 F.ds.length e1)).setCell ⟨w.heap.size + 1 + 1, 0, none⟩ (.bool ok)).drew = W6 at *
  have x0 := HC5.out.cell 0
  have x1 := HC5.out.cell 1
  have z0 := HC5.out.frozen 0
  have z1 := HC5.out.frozen 1
  have t0 := HD5.out.cell 0
  have y0 := HF5.out.cell 0
  simp at x0 x1 t0 y0
  cases ok with
  | true =>
    clear x0 x1 z0 z1 y0
    go_wp2
    refine leaves_cons (f := 57) (args := #[.pointer (some ⟨w.heap.size + 1 + 1, 0, none⟩), .pointer (some ⟨w.heap.size, 0, none⟩), .pointer (some ⟨w.heap.size + 1, 0, none⟩)]) (by simp) (by simp [go_sem]) ?_
    refine (begDone (w.heap.size + 1 + 1) (.pointer (some ⟨w.heap.size, 0, none⟩)) (.pointer (some ⟨w.heap.size + 1, 0, none⟩)) .returning W6 t0).mono ?_
    rintro e u' w'' ⟨rfl, rfl, hw⟩
    subst w''
    simp [Leaves, settle, go_sem]
    exact ⟨_, res_fs3 rfl _ _ (w.heap.size + 1) (w.heap.size + 1 + 1) #[.slice a1 F.ns.length c1, .slice b1 F.ds.length e1] true rfl rfl HC5.out rfl HD5.out, _, rfl, (HW5.out (by first | trivial | rfl)).base (by omega), HO5.out, HZ5.out⟩
  | false =>
    obtain ⟨f0, f1, f2, f3⟩ := HF.out W6 HO5.out
    clear x0 x1 z0 z1
    go_wp2
    refine leaves_cons (f := 57) (args := #[.pointer (some ⟨w.heap.size + 1 + 1, 0, none⟩), .pointer (some ⟨w.heap.size, 0, none⟩), .pointer (some ⟨w.heap.size + 1, 0, none⟩)]) (by simp) (by simp [go_sem]) ?_
    refine (begUndo (w.heap.size + 1 + 1) w.heap.size (w.heap.size + 1) P0 _ _ aa ab ca cb F .returning W6 t0 y0 HC5.out HSM.out (by have := HO5.out.size; omega) f0 f1 f2 f3).mono ?_
    rintro e u' w'' ⟨rfl, rfl, vn, vd, hvc, hov, hon⟩
    have HD6 : Hid (Var w'' (w.heap.size + 1 + 1) #[.bool false] 4) := HD5.out.only hon (by omega)
    have HV6 : Hid (Var w'' (w.heap.size + 1) #[vn, vd] 31) := hvc
    have HO6 : Hid (OwnFs w'' w.heap.size w''.heap.size (.agg #[vn, vd]) F) := hov.base (by omega)
    have HO7 : Hid (Only (fun q => w.heap.size ≤ q ∨ X q) w w'') := HO5.out.trans (hon.mono fun q _ h => by left; omega)
    have HZ7 : Hid (Z w'') := HZ.out _ _ (by omega) (hon.mono fun q _ h => by omega) HZ5.out
    clear hvc hov hon
    simp [Leaves, settle, go_sem]
    exact ⟨_, res_fs3 rfl _ _ (w.heap.size + 1) (w.heap.size + 1 + 1) #[vn, vd] false rfl rfl HV6.out rfl HD6.out, _, rfl, HO6.out, HO7.out, HZ7.out⟩
end Go.Proofs.Ytioecnfgliponaa

/-
  Own text: a node is dropped, and what it holds written, by the program.
-/
namespace Go.Proofs.Ytioecnfgliponaa
open Go.RowKit

theorem prm_keep {w W W' : World} {P0 : Nat} {a b : Option Addr} {na ca nb cb : Nat} {F : FsD} {X : Nat → Prop} (hv : Var W P0 #[.slice a na ca, .slice b nb cb] 31) (r1 : RdNs w a F.ns) (r2 : RdS w b F.ds) (hB : w.heap.size ≤ W.heap.size) (hb : Below w.heap.size w W) (hO : Only (fun q => W.heap.size ≤ q ∨ X q) W W') (hX : ∀ q, X q → w.heap.size ≤ q ∧ q ≠ P0) (hP : P0 < W.heap.size) :
    W'.cell? ⟨P0, 0, none⟩ = some (.slice a na ca) ∧ W'.cell? ⟨P0, 1, none⟩ = some (.slice b nb cb) ∧ RdNs W' a F.ns ∧ RdS W' b F.ds := by
  have hv' : Var W' P0 #[.slice a na ca, .slice b nb cb] 31 := hv.only hO (fun h => h.elim (fun h => by omega) (fun h => (hX _ h).2 rfl))
  have hb' : Below w.heap.size w W' := hb.trans (hO.below hB (fun q h => h.elim (fun h => by omega) (fun h => (hX _ h).1)))
  exact ⟨(hv'.cell 0).trans rfl, (hv'.cell 1).trans rfl, r1.below hb' (Nat.le_refl _), r2.below hb' (Nat.le_refl _)⟩

set_option maxRecDepth 20000 in
set_option maxHeartbeats 2000000 in
theorem implNodeDrop (v : Value) (F : FsD) (i : Int) (w : World) (hsm : SmF F) (hr : RdFs w v F) :
    Calls Try.prog 19 #[v, .int .i64 i] w fun e w' => ∃ u, e = .returned (.tuple #[u, .bool (dpOk F i)]) ∧ OwnFs w' w.heap.size w'.heap.size u (dpD F i) ∧ Below w.heap.size w w' := by
  obtain ⟨a, ca, b, cb, rfl, hq, r1, r2⟩ := hr
  obtain ⟨W0, hW0⟩ : ∃ x, x = ((w.alloc (.cells #[.slice a F.ns.length ca, .slice b F.ds.length cb] 31)).alloc (.cells #[.int .i64 i] 3)).alloc (.cells #[.slice none 0 0, .slice none 0 0] 31) := ⟨_, rfl⟩
  have hz : W0.heap.size = w.heap.size + 3 := by rw [hW0]; simp
  have hb0 : Below w.heap.size w W0 := by rw [hW0]; exact below3 _ _ _ _
  have hv0 : Var W0 w.heap.size #[.slice a F.ns.length ca, .slice b F.ds.length cb] 31 := by rw [hW0]; exact ((Var.made w _ _).alloc _).alloc _
  have hv1 : Var W0 (w.heap.size + 1) #[.int .i64 i] 3 := by rw [hW0]; exact (Var.made2 w _ _ _).alloc _
  have hv2 : Var W0 (w.heap.size + 1 + 1) #[.slice none 0 0, .slice none 0 0] 31 := by rw [hW0]; exact Var.made3 w _ _ _ _
  have hq : dpD F i = (if dpOk F i = true then dpD F i else F) := by
    by_cases h : dpOk F i = true
    · rw [if_pos h]
    · rw [if_neg h]; unfold dpD; rw [if_neg h]
  have HBG := beginDp w.heap.size (w.heap.size + 1) a b ca cb F (dpD F i) (dpOk F i) (fun _ => False) (fun _ => True) W0 hsm (by omega) (fun _ h => h.elim) (fun _ _ _ _ _ => trivial)
    (fun W' hO => prm_keep hv0 r1 r2 (by omega) hb0 hO (fun _ h => h.elim) (by omega))
    (fun W' vn vd hvc ho hb hl => by
      have ci : W'.cell? ⟨w.heap.size + 1, 0, none⟩ = some (.int .i64 i) := ((hv1.new hb).cell 0).trans rfl
      refine (cloDp (W0.heap.size + 3) (W0.heap.size + 1) (w.heap.size + 1) vn vd F i W' hsm hvc ho (by omega) (by omega) hl ci).mono ?_
      rintro e w' ⟨h1, h2, h3⟩
      exact ⟨h1, h2, h3.mono fun q _ e => .inl e, trivial⟩)
  have HB : Hid (Calls Try.prog 34 #[.pointer (some ⟨w.heap.size, 0, none⟩), .func (.func 48) #[] #[.pointer (some ⟨w.heap.size + 1, 0, none⟩)]] W0 fun e w' => ∃ u, e = .returned (.tuple #[u, .bool (dpOk F i)]) ∧ OwnFs w' (w.heap.size + 3) w'.heap.size u (dpD F i) ∧ Below W0.heap.size W0 w') := by
    refine HBG.mono ?_
    rintro e w' ⟨u, h1, h2, h3, _⟩
    rw [← hq, hz] at h2
    exact ⟨u, h1, h2, h3.below (Nat.le_refl _) (fun q h => h.elim id (fun h => h.elim))⟩
  have HV2 : Hid (Var W0 (w.heap.size + 1 + 1) #[.slice none 0 0, .slice none 0 0] 31) := hv2
  have HB0 : Hid (Below w.heap.size w W0) := hb0
  subst hW0
  clear HBG hv0 hv1 hv2 hb0 r1 r2 hsm
  have hmf : ∀ (fn : Fn) (first cap : Array Value) (w : World), (Instr.makeFunc fn first cap).run Try.prog w = .ok (.func fn first cap) w := fun _ _ _ _ => rfl
  generalize dpOk F i = ok at *
  clear hq
  go_enter Try.func19, Try.ntmps19
  go_wp2_with fail
  refine HB.out.mono ?_
  rintro e w1 ⟨u, rfl, ho, hb⟩
  obtain ⟨a1, c1, b1, e1, hu⟩ : ∃ a1 c1 b1 e1, u = .agg #[.slice a1 (dpD F i).ns.length c1, .slice b1 (dpD F i).ds.length e1] := ho.lay
  subst hu
  have hV1 := HV2.out.new hb
  have x0 := hV1.cell 0
  have x1 := hV1.cell 1
  have z0 := hV1.frozen 0
  have z1 := hV1.frozen 1
  simp at x0 x1
  have hv := (hV1.set 0 (.slice a1 (dpD F i).ns.length c1)).set 1 (.slice b1 (dpD F i).ds.length e1)
  have HV9 : Hid (Var ((w1.setCell ⟨w.heap.size + 1 + 1, 0, none⟩ (.slice a1 (dpD F i).ns.length c1)).setCell ⟨w.heap.size + 1 + 1, 1, none⟩ (.slice b1 (dpD F i).ds.length e1)) (w.heap.size + 1 + 1) #[.slice a1 (dpD F i).ns.length c1, .slice b1 (dpD F i).ds.length e1] 31) := by show Var _ _ _ _; simpa using hv
  have hO : Only (fun q => q = w.heap.size + 1 + 1) w1 ((w1.setCell ⟨w.heap.size + 1 + 1, 0, none⟩ (.slice a1 (dpD F i).ns.length c1)).setCell ⟨w.heap.size + 1 + 1, 1, none⟩ (.slice b1 (dpD F i).ds.length e1)) := (Only.setCell (S := fun q => q = w.heap.size + 1 + 1) (Only.refl _ _) (p := ⟨w.heap.size + 1 + 1, 0, none⟩) rfl _).setCell (p := ⟨w.heap.size + 1 + 1, 1, none⟩) rfl _
  have HO9 : Hid (OwnFs ((w1.setCell ⟨w.heap.size + 1 + 1, 0, none⟩ (.slice a1 (dpD F i).ns.length c1)).setCell ⟨w.heap.size + 1 + 1, 1, none⟩ (.slice b1 (dpD F i).ds.length e1)) w.heap.size ((w1.setCell ⟨w.heap.size + 1 + 1, 0, none⟩ (.slice a1 (dpD F i).ns.length c1)).setCell ⟨w.heap.size + 1 + 1, 1, none⟩ (.slice b1 (dpD F i).ds.length e1)).heap.size (.agg #[.slice a1 (dpD F i).ns.length c1, .slice b1 (dpD F i).ds.length e1]) (dpD F i)) := ((ho.only hO (fun k h1 _ e => by omega)).hi hO.size).base (by omega)
  have hbw : Below w.heap.size w w1 := HB0.out.trans (hb.mono (by omega))
  have HB9 : Hid (Below w.heap.size w ((w1.setCell ⟨w.heap.size + 1 + 1, 0, none⟩ (.slice a1 (dpD F i).ns.length c1)).setCell ⟨w.heap.size + 1 + 1, 1, none⟩ (.slice b1 (dpD F i).ds.length e1))) := hbw.trans (hO.below hbw.size (fun q e => by omega))
  clear hV1 hv hO hbw ho hb HB HV2 HB0
  go_wp2
  refine bodyPost_ret (res_fs1 rfl _ _ (w.heap.size + 1 + 1) 31 #[.slice a1 (dpD F i).ns.length c1, .slice b1 (dpD F i).ds.length e1] _ rfl HV9.out Try.underlying31 rfl Try.sizeFs) rfl ?_
  exact ⟨_, rfl, HO9.out, HB9.out⟩
end Go.Proofs.Ytioecnfgliponaa

/-
  Own text: what a node holds is written, by the program.
-/
namespace Go.Proofs.Ytioecnfgliponaa
open Go.RowKit

set_option maxRecDepth 20000 in
set_option maxHeartbeats 2000000 in
theorem implNodeWrite (v : Value) (F : FsD) (i : Int) (d : ByteArray) (w : World) (hsm : SmF F) (hr : RdFs w v F) :
    Calls Try.prog 13 #[v, .int .i64 i, .string d] w fun e w' => ∃ u, e = .returned (.tuple #[u, .bool (wrOk F i d)]) ∧ OwnFs w' w.heap.size w'.heap.size u (wrD F i d) ∧ Below w.heap.size w w' := by
  obtain ⟨a, ca, b, cb, rfl, hq, r1, r2⟩ := hr
  obtain ⟨W0, hW0⟩ : ∃ x, x = (((w.alloc (.cells #[.slice a F.ns.length ca, .slice b F.ds.length cb] 31)).alloc (.cells #[.int .i64 i] 3)).alloc (.cells #[.string d] 9)).alloc (.cells #[.slice none 0 0, .slice none 0 0] 31) := ⟨_, rfl⟩
  have hz : W0.heap.size = w.heap.size + 4 := by rw [hW0]; simp
  have hb0 : Below w.heap.size w W0 := by rw [hW0]; exact (below3 _ _ _ _).trans ((below1 _ _).mono (by simp; omega))
  have hv0 : Var W0 w.heap.size #[.slice a F.ns.length ca, .slice b F.ds.length cb] 31 := by rw [hW0]; exact (((Var.made w _ _).alloc _).alloc _).alloc _
  have hv1 : Var W0 (w.heap.size + 1) #[.int .i64 i] 3 := by rw [hW0]; exact ((Var.made2 w _ _ _).alloc _).alloc _
  have hvd : Var W0 (w.heap.size + 1 + 1) #[.string d] 9 := by rw [hW0]; exact (Var.made3 w _ _ _ _).alloc _
  have hv2 : Var W0 (w.heap.size + 1 + 1 + 1) #[.slice none 0 0, .slice none 0 0] 31 := by
    rw [hW0]
    have := Var.made (((w.alloc (.cells #[.slice a F.ns.length ca, .slice b F.ds.length cb] 31)).alloc (.cells #[.int .i64 i] 3)).alloc (.cells #[.string d] 9)) #[.slice none 0 0, .slice none 0 0] 31
    rw [show (((w.alloc (.cells #[.slice a F.ns.length ca, .slice b F.ds.length cb] 31)).alloc (.cells #[.int .i64 i] 3)).alloc (.cells #[.string d] 9)).heap.size = w.heap.size + 1 + 1 + 1 by simp] at this
    exact this
  have hq : wrD F i d = (if wrOk F i d = true then wrD F i d else F) := by
    by_cases h : wrOk F i d = true
    · rw [if_pos h]
    · rw [if_neg h]; unfold wrD; rw [if_neg h]
  have HBG := beginWr w.heap.size (w.heap.size + 1) (w.heap.size + 1 + 1) a b ca cb F (wrD F i d) (wrOk F i d) (fun _ => False) (fun _ => True) W0 hsm (by omega) (fun _ h => h.elim) (fun _ _ _ _ _ => trivial)
    (fun W' hO => prm_keep hv0 r1 r2 (by omega) hb0 hO (fun _ h => h.elim) (by omega))
    (fun W' vn vd hvc ho hb hl => by
      have ci : W'.cell? ⟨w.heap.size + 1, 0, none⟩ = some (.int .i64 i) := ((hv1.new hb).cell 0).trans rfl
      have cd : W'.cell? ⟨w.heap.size + 1 + 1, 0, none⟩ = some (.string d) := ((hvd.new hb).cell 0).trans rfl
      refine (cloWr (W0.heap.size + 3) (W0.heap.size + 1) (w.heap.size + 1) (w.heap.size + 1 + 1) vn vd F i d W' hsm hvc ho (by omega) (by omega) (by omega) hl ci cd).mono ?_
      rintro e w' ⟨h1, h2, h3⟩
      refine ⟨h1, fun h => ?_, h3.mono fun q _ e => .inl e, trivial⟩
      have := h2 h
      unfold wrD
      rw [if_pos h]
      exact this)
  have HB : Hid (Calls Try.prog 34 #[.pointer (some ⟨w.heap.size, 0, none⟩), .func (.func 35) #[] #[.pointer (some ⟨w.heap.size + 1, 0, none⟩), .pointer (some ⟨w.heap.size + 1 + 1, 0, none⟩)]] W0 fun e w' => ∃ u, e = .returned (.tuple #[u, .bool (wrOk F i d)]) ∧ OwnFs w' (w.heap.size + 4) w'.heap.size u (wrD F i d) ∧ Below W0.heap.size W0 w') := by
    refine HBG.mono ?_
    rintro e w' ⟨u, h1, h2, h3, _⟩
    rw [← hq, hz] at h2
    exact ⟨u, h1, h2, h3.below (Nat.le_refl _) (fun q h => h.elim id (fun h => h.elim))⟩
  have HV2 : Hid (Var W0 (w.heap.size + 1 + 1 + 1) #[.slice none 0 0, .slice none 0 0] 31) := hv2
  have HB0 : Hid (Below w.heap.size w W0) := hb0
  subst hW0
  clear HBG hv0 hv1 hvd hv2 hb0 r1 r2 hsm
  have hmf : ∀ (fn : Fn) (first cap : Array Value) (w : World), (Instr.makeFunc fn first cap).run Try.prog w = .ok (.func fn first cap) w := fun _ _ _ _ => rfl
  generalize wrOk F i d = ok at *
  clear hq
  go_enter Try.func13, Try.ntmps13
  go_wp2_with fail
  refine HB.out.mono ?_
  rintro e w1 ⟨u, rfl, ho, hb⟩
  obtain ⟨a1, c1, b1, e1, hu⟩ : ∃ a1 c1 b1 e1, u = .agg #[.slice a1 (wrD F i d).ns.length c1, .slice b1 (wrD F i d).ds.length e1] := ho.lay
  subst hu
  have hV1 := HV2.out.new hb
  have x0 := hV1.cell 0
  have x1 := hV1.cell 1
  have z0 := hV1.frozen 0
  have z1 := hV1.frozen 1
  simp at x0 x1
  have hv := (hV1.set 0 (.slice a1 (wrD F i d).ns.length c1)).set 1 (.slice b1 (wrD F i d).ds.length e1)
  have HV9 : Hid (Var ((w1.setCell ⟨w.heap.size + 1 + 1 + 1, 0, none⟩ (.slice a1 (wrD F i d).ns.length c1)).setCell ⟨w.heap.size + 1 + 1 + 1, 1, none⟩ (.slice b1 (wrD F i d).ds.length e1)) (w.heap.size + 1 + 1 + 1) #[.slice a1 (wrD F i d).ns.length c1, .slice b1 (wrD F i d).ds.length e1] 31) := by show Var _ _ _ _; simpa using hv
  have hO : Only (fun q => q = w.heap.size + 1 + 1 + 1) w1 ((w1.setCell ⟨w.heap.size + 1 + 1 + 1, 0, none⟩ (.slice a1 (wrD F i d).ns.length c1)).setCell ⟨w.heap.size + 1 + 1 + 1, 1, none⟩ (.slice b1 (wrD F i d).ds.length e1)) := (Only.setCell (S := fun q => q = w.heap.size + 1 + 1 + 1) (Only.refl _ _) (p := ⟨w.heap.size + 1 + 1 + 1, 0, none⟩) rfl _).setCell (p := ⟨w.heap.size + 1 + 1 + 1, 1, none⟩) rfl _
  have HO9 : Hid (OwnFs ((w1.setCell ⟨w.heap.size + 1 + 1 + 1, 0, none⟩ (.slice a1 (wrD F i d).ns.length c1)).setCell ⟨w.heap.size + 1 + 1 + 1, 1, none⟩ (.slice b1 (wrD F i d).ds.length e1)) w.heap.size ((w1.setCell ⟨w.heap.size + 1 + 1 + 1, 0, none⟩ (.slice a1 (wrD F i d).ns.length c1)).setCell ⟨w.heap.size + 1 + 1 + 1, 1, none⟩ (.slice b1 (wrD F i d).ds.length e1)).heap.size (.agg #[.slice a1 (wrD F i d).ns.length c1, .slice b1 (wrD F i d).ds.length e1]) (wrD F i d)) := ((ho.only hO (fun k h1 _ e => by omega)).hi hO.size).base (by omega)
  have hbw : Below w.heap.size w w1 := HB0.out.trans (hb.mono (by omega))
  have HB9 : Hid (Below w.heap.size w ((w1.setCell ⟨w.heap.size + 1 + 1 + 1, 0, none⟩ (.slice a1 (wrD F i d).ns.length c1)).setCell ⟨w.heap.size + 1 + 1 + 1, 1, none⟩ (.slice b1 (wrD F i d).ds.length e1))) := hbw.trans (hO.below hbw.size (fun q e => by omega))
  clear hV1 hv hO hbw ho hb HB HV2 HB0
  go_wp2
  refine bodyPost_ret (res_fs1 rfl _ _ (w.heap.size + 1 + 1 + 1) 31 #[.slice a1 (wrD F i d).ns.length c1, .slice b1 (wrD F i d).ds.length e1] _ rfl HV9.out Try.underlying31 rfl Try.sizeFs) rfl ?_
  exact ⟨_, rfl, HO9.out, HB9.out⟩
end Go.Proofs.Ytioecnfgliponaa

/-
  Own text: a node is made, by the program.
-/
namespace Go.Proofs.Ytioecnfgliponaa
open Go.RowKit

theorem below4 (w : World) (a b c d : Obj) : Below w.heap.size w ((((w.alloc a).alloc b).alloc c).alloc d) := (below3 w a b c).trans ((below1 _ d).mono (by simp; omega))

set_option maxRecDepth 20000 in
set_option maxHeartbeats 2000000 in
theorem implNodeMake (v : Value) (F : FsD) (kind : Int) (w : World) (hsm : SmF F) (hr : RdFs w v F) :
    Calls Try.prog 17 #[v, .int .i64 kind] w fun e w' => ∃ u, e = .returned (.tuple #[u, .int .i64 (mdI F kind), .bool (mdOk F kind)]) ∧ OwnFs w' w.heap.size w'.heap.size u (mdD F kind) ∧ Below w.heap.size w w' := by
  obtain ⟨a, ca, b, cb, rfl, hq, r1, r2⟩ := hr
  obtain ⟨W0, hW0⟩ : ∃ x, x = (((w.alloc (.cells #[.slice a F.ns.length ca, .slice b F.ds.length cb] 31)).alloc (.cells #[.int .i64 kind] 3)).alloc (.cells #[.slice none 0 0, .slice none 0 0] 31)).alloc (.cells #[.int .i64 (-1)] 3) := ⟨_, rfl⟩
  have hz : W0.heap.size = w.heap.size + 4 := by rw [hW0]; simp
  have hb0 : Below w.heap.size w W0 := by rw [hW0]; exact below4 _ _ _ _ _
  have hv0 : Var W0 w.heap.size #[.slice a F.ns.length ca, .slice b F.ds.length cb] 31 := by rw [hW0]; exact (((Var.made w _ _).alloc _).alloc _).alloc _
  have hv1 : Var W0 (w.heap.size + 1) #[.int .i64 kind] 3 := by rw [hW0]; exact ((Var.made2 w _ _ _).alloc _).alloc _
  have hv2 : Var W0 (w.heap.size + 1 + 1) #[.slice none 0 0, .slice none 0 0] 31 := by rw [hW0]; exact (Var.made3 w _ _ _ _).alloc _
  have hv3 : Var W0 (w.heap.size + 1 + 1 + 1) #[.int .i64 (-1)] 3 := by
    rw [hW0]
    have := Var.made (((w.alloc (.cells #[.slice a F.ns.length ca, .slice b F.ds.length cb] 31)).alloc (.cells #[.int .i64 kind] 3)).alloc (.cells #[.slice none 0 0, .slice none 0 0] 31)) #[.int .i64 (-1)] 3
    rw [show (((w.alloc (.cells #[.slice a F.ns.length ca, .slice b F.ds.length cb] 31)).alloc (.cells #[.int .i64 kind] 3)).alloc (.cells #[.slice none 0 0, .slice none 0 0] 31)).heap.size = w.heap.size + 1 + 1 + 1 by simp] at this
    exact this
  have hq : mdD F kind = (if mdOk F kind = true then mdD F kind else F) := by
    by_cases h : mdOk F kind = true
    · rw [if_pos h]
    · rw [if_neg h]; unfold mdD; rw [if_neg h]
  have HBG := beginMk w.heap.size (w.heap.size + 1) (w.heap.size + 1 + 1 + 1) a b ca cb F (mdD F kind) (mdOk F kind) (fun q => q = w.heap.size + 1 + 1 + 1) (fun W => W.cell? ⟨w.heap.size + 1 + 1 + 1, 0, none⟩ = some (.int .i64 (mdI F kind))) W0 hsm (by omega) (fun _ h => by omega)
    (fun W W' hl hO h => (hO.cell (p := ⟨w.heap.size + 1 + 1 + 1, 0, none⟩) (by show w.heap.size + 1 + 1 + 1 < _; omega) (by show ¬ _ ≤ w.heap.size + 1 + 1 + 1; omega)).trans h)
    (fun W' hO => prm_keep hv0 r1 r2 (by omega) hb0 hO (fun _ h => by omega) (by omega))
    (fun W' vn vd hvc ho hb hl => by
      have ck : W'.cell? ⟨w.heap.size + 1, 0, none⟩ = some (.int .i64 kind) := ((hv1.new hb).cell 0).trans rfl
      refine (cloMk (W0.heap.size + 3) (W0.heap.size + 1) (w.heap.size + 1) (w.heap.size + 1 + 1 + 1) vn vd F kind W' hsm hvc ho (by omega) (by omega) (by omega) (by omega) hl ck (hv3.new hb)).mono ?_
      rintro e w' ⟨h1, h2, h3, h4⟩
      exact ⟨h1, h2, h3, h4⟩)
  have HB : Hid (Calls Try.prog 34 #[.pointer (some ⟨w.heap.size, 0, none⟩), .func (.func 43) #[] #[.pointer (some ⟨w.heap.size + 1, 0, none⟩), .pointer (some ⟨w.heap.size + 1 + 1 + 1, 0, none⟩)]] W0 fun e w' => ∃ u, e = .returned (.tuple #[u, .bool (mdOk F kind)]) ∧ OwnFs w' (w.heap.size + 4) w'.heap.size u (mdD F kind) ∧ Only (fun q => W0.heap.size ≤ q ∨ q = w.heap.size + 1 + 1 + 1) W0 w' ∧ w'.cell? ⟨w.heap.size + 1 + 1 + 1, 0, none⟩ = some (.int .i64 (mdI F kind))) := by
    refine HBG.mono ?_
    rintro e w' ⟨u, h1, h2, h3, h4⟩
    rw [← hq, hz] at h2
    exact ⟨u, h1, h2, h3, h4⟩
  have HV2 : Hid (Var W0 (w.heap.size + 1 + 1) #[.slice none 0 0, .slice none 0 0] 31) := hv2
  have HB0 : Hid (Below w.heap.size w W0) := hb0
  have HZ0 : Hid (W0.heap.size = w.heap.size + 4) := hz
  subst hW0
  clear HBG hv0 hv1 hv2 hv3 hb0 r1 r2 hsm hz
  have hmf : ∀ (fn : Fn) (first cap : Array Value) (w : World), (Instr.makeFunc fn first cap).run Try.prog w = .ok (.func fn first cap) w := fun _ _ _ _ => rfl
  obtain ⟨ok, hok⟩ : ∃ x, mdOk F kind = x := ⟨_, rfl⟩
  obtain ⟨mi, hmi⟩ : ∃ x, mdI F kind = x := ⟨_, rfl⟩
  rw [hok, hmi] at HB
  rw [hok, hmi]
  clear hq hok hmi
  go_enter Try.func17, Try.ntmps17
  go_wp2_with fail
  refine HB.out.mono ?_
  rintro e w1 ⟨u, rfl, ho, hon, hmc⟩
  obtain ⟨a1, c1, b1, e1, hu⟩ : ∃ a1 c1 b1 e1, u = .agg #[.slice a1 (mdD F kind).ns.length c1, .slice b1 (mdD F kind).ds.length e1] := ho.lay
  subst hu
  have hz0 := HZ0.out
  have hs1 := hon.size
  have hV1 := HV2.out.only hon (by omega)
  have hbw : Below w.heap.size w w1 := HB0.out.trans (hon.below (by omega) (fun q h => by omega))
  have hV2 := hV1.alloc (.cells #[.slice a1 (mdD F kind).ns.length c1, .slice b1 (mdD F kind).ds.length e1] 31)
  have hV3 : Var (w1.alloc (.cells #[.slice a1 (mdD F kind).ns.length c1, .slice b1 (mdD F kind).ds.length e1] 31)) w1.heap.size #[.slice a1 (mdD F kind).ns.length c1, .slice b1 (mdD F kind).ds.length e1] 31 := Var.made _ _ _
  have hmc2 := ((below1 w1 (.cells #[.slice a1 (mdD F kind).ns.length c1, .slice b1 (mdD F kind).ds.length e1] 31)).cell (p := ⟨w.heap.size + 1 + 1 + 1, 0, none⟩) (by show w.heap.size + 1 + 1 + 1 < _; omega)).trans hmc
  have ho2 := (ho.below (below1 w1 (.cells #[.slice a1 (mdD F kind).ns.length c1, .slice b1 (mdD F kind).ds.length e1] 31))).hi (below1 w1 (.cells #[.slice a1 (mdD F kind).ns.length c1, .slice b1 (mdD F kind).ds.length e1] 31)).size
  have hb2 : Below w.heap.size w (w1.alloc (.cells #[.slice a1 (mdD F kind).ns.length c1, .slice b1 (mdD F kind).ds.length e1] 31)) := hbw.trans ((below1 w1 _).mono hbw.size)
  have HP : Hid (Var (w1.alloc (.cells #[.slice a1 (mdD F kind).ns.length c1, .slice b1 (mdD F kind).ds.length e1] 31)) (w.heap.size + 1 + 1) #[.slice none 0 0, .slice none 0 0] 31 ∧ Var (w1.alloc (.cells #[.slice a1 (mdD F kind).ns.length c1, .slice b1 (mdD F kind).ds.length e1] 31)) w1.heap.size #[.slice a1 (mdD F kind).ns.length c1, .slice b1 (mdD F kind).ds.length e1] 31 ∧ (w1.alloc (.cells #[.slice a1 (mdD F kind).ns.length c1, .slice b1 (mdD F kind).ds.length e1] 31)).cell? ⟨w.heap.size + 1 + 1 + 1, 0, none⟩ = some (.int .i64 mi) ∧ OwnFs (w1.alloc (.cells #[.slice a1 (mdD F kind).ns.length c1, .slice b1 (mdD F kind).ds.length e1] 31)) (w.heap.size + 4) (w1.alloc (.cells #[.slice a1 (mdD F kind).ns.length c1, .slice b1 (mdD F kind).ds.length e1] 31)).heap.size (.agg #[.slice a1 (mdD F kind).ns.length c1, .slice b1 (mdD F kind).ds.length e1]) (mdD F kind) ∧ Below w.heap.size w (w1.alloc (.cells #[.slice a1 (mdD F kind).ns.length c1, .slice b1 (mdD F kind).ds.length e1] 31))) := ⟨hV2, hV3, hmc2, ho2, hb2⟩
  clear hV1 hV2 hV3 hmc hmc2 ho ho2 hb2 hbw hon HB HV2 HB0 HZ0
  have hq1 : w.heap.size + 4 ≤ w1.heap.size := by omega
  go_upto_region 3 with fail
  generalize w1.alloc (.cells #[.slice a1 (mdD F kind).ns.length c1, .slice b1 (mdD F kind).ds.length e1] 31) = W1 at *
  generalize w1.heap.size = Q at *
  obtain ⟨hV2, hV3, hmc, ho, hb⟩ := HP.out
  have x0 := hV2.cell 0
  have x1 := hV2.cell 1
  have z0 := hV2.frozen 0
  have z1 := hV2.frozen 1
  have y0 := hV3.cell 0
  have y1 := hV3.cell 1
  simp at x0 x1 y0 y1
  have hv := (hV2.set 0 (.slice a1 (mdD F kind).ns.length c1)).set 1 (.slice b1 (mdD F kind).ds.length e1)
  simp at hv
  have hO : Only (fun q => q = w.heap.size + 1 + 1) W1 ((W1.setCell ⟨w.heap.size + 1 + 1, 0, none⟩ (.slice a1 (mdD F kind).ns.length c1)).setCell ⟨w.heap.size + 1 + 1, 1, none⟩ (.slice b1 (mdD F kind).ds.length e1)) := (Only.setCell (S := fun q => q = w.heap.size + 1 + 1) (Only.refl _ _) (p := ⟨w.heap.size + 1 + 1, 0, none⟩) rfl _).setCell (p := ⟨w.heap.size + 1 + 1, 1, none⟩) rfl _
  have hD : Below ((W1.setCell ⟨w.heap.size + 1 + 1, 0, none⟩ (.slice a1 (mdD F kind).ns.length c1)).setCell ⟨w.heap.size + 1 + 1, 1, none⟩ (.slice b1 (mdD F kind).ds.length e1)).heap.size ((W1.setCell ⟨w.heap.size + 1 + 1, 0, none⟩ (.slice a1 (mdD F kind).ns.length c1)).setCell ⟨w.heap.size + 1 + 1, 1, none⟩ (.slice b1 (mdD F kind).ds.length e1)) ((W1.setCell ⟨w.heap.size + 1 + 1, 0, none⟩ (.slice a1 (mdD F kind).ns.length c1)).setCell ⟨w.heap.size + 1 + 1, 1, none⟩ (.slice b1 (mdD F kind).ds.length e1)).drew := (Below.refl _ _).drew
  have hbs := hb.trans (hO.below hb.size (fun q e => by omega))
  have HE : Hid (Var ((W1.setCell ⟨w.heap.size + 1 + 1, 0, none⟩ (.slice a1 (mdD F kind).ns.length c1)).setCell ⟨w.heap.size + 1 + 1, 1, none⟩ (.slice b1 (mdD F kind).ds.length e1)).drew (w.heap.size + 1 + 1) #[.slice a1 (mdD F kind).ns.length c1, .slice b1 (mdD F kind).ds.length e1] 31 ∧ OwnFs ((W1.setCell ⟨w.heap.size + 1 + 1, 0, none⟩ (.slice a1 (mdD F kind).ns.length c1)).setCell ⟨w.heap.size + 1 + 1, 1, none⟩ (.slice b1 (mdD F kind).ds.length e1)).drew w.heap.size ((W1.setCell ⟨w.heap.size + 1 + 1, 0, none⟩ (.slice a1 (mdD F kind).ns.length c1)).setCell ⟨w.heap.size + 1 + 1, 1, none⟩ (.slice b1 (mdD F kind).ds.length e1)).drew.heap.size (.agg #[.slice a1 (mdD F kind).ns.length c1, .slice b1 (mdD F kind).ds.length e1]) (mdD F kind) ∧ Below w.heap.size w ((W1.setCell ⟨w.heap.size + 1 + 1, 0, none⟩ (.slice a1 (mdD F kind).ns.length c1)).setCell ⟨w.heap.size + 1 + 1, 1, none⟩ (.slice b1 (mdD F kind).ds.length e1)).drew) := ⟨hv.new hD, ((((ho.only hO (fun k h1 _ e => by omega)).hi hO.size).below hD).base (by omega)), hbs.trans (hD.mono hbs.size)⟩
  clear hV2 hV3 hv hO hD hbs ho hb HP
  go_region
  all_goals
    clear x0 x1 z0 z1 y0 y1 hmc
    generalize ((W1.setCell ⟨w.heap.size + 1 + 1, 0, none⟩ (.slice a1 (mdD F kind).ns.length c1)).setCell ⟨w.heap.size + 1 + 1, 1, none⟩ (.slice b1 (mdD F kind).ds.length e1)).drew = W9 at *
    go_wp2
    refine bodyPost_ret (res_fs2 rfl _ _ (w.heap.size + 1 + 1) 31 #[.slice a1 (mdD F kind).ns.length c1, .slice b1 (mdD F kind).ds.length e1] _ rfl HE.out.1 Try.underlying31 rfl Try.sizeFs) rfl ?_
    exact ⟨_, rfl, HE.out.2.1, HE.out.2.2⟩
end Go.Proofs.Ytioecnfgliponaa
