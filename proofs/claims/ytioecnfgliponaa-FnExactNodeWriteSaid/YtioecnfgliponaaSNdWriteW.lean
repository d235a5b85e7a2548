/-
  Own text: what a node holds is written, by the other program.
-/
import Derived.Test.YtioecnfgliponaaBunH
namespace Go.Proofs.Ytioecnfgliponaa
open Go.RowKit

theorem blks_need {d : ByteArray} (h : d.size ≤ 80) : blksFor (d.size : Nat) = (needN d : Nat) := by
  unfold blksFor needN
  split
  · omega
  · split <;> omega
theorem wr_false {F : FsD} {i : Int} {d : ByteArray} (h : ¬ WrP F i d) : wrOk F i d = false ∧ wrD F i d = F := by
  have := wrOk_no h
  refine ⟨this, ?_⟩
  unfold wrD; rw [this]; rfl
theorem wr_true {F : FsD} {i : Int} {d : ByteArray} (h : WrP F i d) : wrOk F i d = true ∧ wrD F i d = wrF F i d := by
  have := wrOk_yes h
  refine ⟨this, ?_⟩
  unfold wrD; rw [this]; rfl
theorem WrInv.start {w W : World} {a b : Option Addr} {na ca nb cb Q g gd N D ga gb : Nat} {M : List NodeU} {ds : List ByteArray} {uv : Value} {m : Nat} {us : List Int} (h : CpM w W a b na ca nb cb Q g gd N D ga gb M ds) (hu : W.ownsRow (w.heap.size + 2) 3 1 uv m (us.map (Value.int .i64))) (hs : w.heap.size + 2 ≤ W.heap.size) :
    WrInv w (W.alloc (.cells #[] 3)) a b na ca nb cb Q g gd N D ga gb M ds uv m us W.heap.size (.slice (some ⟨W.heap.size, 0, none⟩) 0 0) [] := by
  refine ⟨h.new (below1 _ _), ownsRow_below hu (below1 _ _) (Nat.le_refl _), ?_, fun z hz j hj => h.mu.nod.low z hz j hj, fun j hj => (hu.lt j hj).2, hs, by simp⟩
  exact World.ownsRow_made W #[] 0 (Nat.le_refl _) (Nat.zero_le _) rfl

theorem WrInv.fin {w W : World} {a b : Option Addr} {na ca nb cb Q g gd N D ga gb : Nat} {M : List NodeU} {ds : List ByteArray} {uv : Value} {m : Nat} {us : List Int} {B : Nat} {vb : Value} {bl : List Int} (h : WrInv w W a b na ca nb cb Q g gd N D ga gb M ds uv m us B vb bl) {k : Nat} (hk : k < M.length) (s : Nat) :
    CpM w ((W.setCell ⟨g, k * 5 + 3, none⟩ (.int .i64 (s : Nat))).setCell ⟨g, k * 5 + 4, none⟩ vb) a b na ca nb cb Q g gd N D ga gb (M.set k (⟨M[k].1.k, M[k].1.g, M[k].1.t, (s : Nat), bl⟩, vb)) ds := by
  have h1 := h.cp.num hk 3 (by omega) ⟨M[k].1.k, M[k].1.g, M[k].1.t, (s : Nat), M[k].1.b⟩ (.int .i64 (s : Nat)) rfl rfl
  have hO : Only (fun q => q = g) W (W.setCell ⟨g, k * 5 + 3, none⟩ (.int .i64 (s : Nat))) := Only.setCell (S := fun q => q = g) (Only.refl _ _) (p := ⟨g, k * 5 + 3, none⟩) rfl _
  have hrow := own_only h.row hO (fun q hq e => own_apart h.row h.cp.mu.nod.row (by decide) q hq (by rw [e]; rfl))
  have hl : k < (M.set k ((⟨M[k].1.k, M[k].1.g, M[k].1.t, (s : Nat), M[k].1.b⟩ : NodeD), M[k].2)).length := by simpa using hk
  have h2 := h1.blocks hl bl vb (ownsRow_base hrow h.far) (fun q hq hne j hj hv => by
    have hq' : q < M.length := by simpa using hq
    rw [List.getElem_set_ne (by omega)] at hj
    have e1 := h.low _ (List.getElem_mem hq') j hj
    have e2 := (h.row.lt j hv).1
    omega)
  rw [List.getElem_set_self, List.set_set] at h2
  exact h2

set_option maxRecDepth 20000 in
set_option maxHeartbeats 8000000 in
theorem specNodeWrite (v : Value) (F : FsD) (i : Int) (d : ByteArray) (w : World) (hsm : SmF F) (hr : RdFs w v F) :
    Calls Try.prog 12 #[v, .int .i64 i, .string d] w fun e w' => ∃ u, e = .returned (.tuple #[u, .bool (wrOk F i d)]) ∧ OwnFs w' w.heap.size w'.heap.size u (wrD F i d) ∧ Below w.heap.size w w' := by
  obtain ⟨i3, ii, iz0, iz1, iz2⟩ := info_parts Try.infoIntH
  obtain ⟨a, ca, b, cb, rfl, hq, r1, r2⟩ := hr
  have HRF : Hid (∀ W, Below w.heap.size w W → RdFs W (.agg #[.slice a F.ns.length ca, .slice b F.ds.length cb]) F) := fun W h => RdFs.below ⟨a, ca, b, cb, rfl, hq, r1, r2⟩ h (Nat.le_refl _)
  have HCP : Hid (Calls Try.prog 30 #[.agg #[.slice a F.ns.length ca, .slice b F.ds.length cb]] ((w.alloc (.cells #[.slice a F.ns.length ca, .slice b F.ds.length cb] 31)).alloc (.cells #[.slice none 0 0, .slice none 0 0] 31)) fun e w' => ∃ u, e = .returned u ∧ OwnFs w' (w.heap.size + 2) w'.heap.size u F ∧ Below (w.heap.size + 2) ((w.alloc (.cells #[.slice a F.ns.length ca, .slice b F.ds.length cb] 31)).alloc (.cells #[.slice none 0 0, .slice none 0 0] 31)) w') := by
    have := specCopyF _ F ((w.alloc (.cells #[.slice a F.ns.length ca, .slice b F.ds.length cb] 31)).alloc (.cells #[.slice none 0 0, .slice none 0 0] 31)) hsm (HRF.out _ (below2 _ _ _))
    rw [show ((w.alloc (.cells #[.slice a F.ns.length ca, .slice b F.ds.length cb] 31)).alloc (.cells #[.slice none 0 0, .slice none 0 0] 31)).heap.size = w.heap.size + 2 by simp] at this
    exact this
  have HIS : Hid (∀ W, Below w.heap.size w W → Calls Try.prog 22 #[.agg #[.slice a F.ns.length ca, .slice b F.ds.length cb], .int .i64 i] W fun e w' => e = .returned (.bool (usB F i)) ∧ Below W.heap.size W w') := fun W h => specIs _ F i W hsm (HRF.out W h)
  have HNS : Hid (∀ W, Below w.heap.size w W → RdNs W a F.ns) := fun W h => r1.below h (Nat.le_refl _)
  have HCQ : Hid (∀ W, Below w.heap.size w W → Calls Try.prog 30 #[.agg #[.slice a F.ns.length ca, .slice b F.ds.length cb]] W fun e w' => ∃ u, e = .returned u ∧ OwnFs w' W.heap.size w'.heap.size u F ∧ Below W.heap.size W w') := fun W h => specCopyF _ F W hsm (HRF.out W h)
  clear r1 r2 hq hsm
  by_cases hu : UsP F i
  · by_cases hds : d.size ≤ 80
    · have HUS : Hid (usB F i = true) := usB_yes hu
      rw [HUS.out] at HIS
      have hdI : ¬ (80 : Int) < (d.size : Int) := by omega
      have hn2 : 2 ≤ F.ns.length := hu.1.1.1
      have hn10 : F.ns.length ≤ 10 := hu.1.1.2.1
      have hd1 : 1 ≤ F.ds.length := hu.1.1.2.2.1
      have hd36 : F.ds.length ≤ 36 := hu.1.1.2.2.2
      have hb5 : ∀ n ∈ F.ns, n.b.length ≤ 5 := fun n hn => (hu.1.2.2.1 n hn).len
      obtain ⟨k, rfl⟩ := natOf hu.2.1
      have hk : k < F.ns.length := by simpa using hu.2.2.1
      have HUD : Hid (∀ W, Below w.heap.size w W → Calls Try.prog 31 #[.agg #[.slice a F.ns.length ca, .slice b F.ds.length cb]] W fun e w' => ∃ u, e = .returned u ∧ w'.ownsRow W.heap.size 3 1 u (F.ds.length + 1) ((usedL F.ds.length (allB F.ns)).map (Value.int .i64)) ∧ Below W.heap.size W w') := fun W h => usedW _ F W hn10 hd36 hb5 (HRF.out W h)
      have HBF : Hid (∀ W, Calls Try.prog 32 #[.int .i64 (d.size : Nat)] W fun e w' => e = .returned (.int .i64 (needN d : Nat)) ∧ w' = W) := fun W => by rw [← blks_need hds]; exact specBlocks _ W
      have HBX : Hid (∀ x ∈ F.ns[k].b, 0 ≤ x ∧ x.toNat < F.ds.length) := fun x hx => by
        have := hu.blk x (by rw [ndAt_nat hk]; exact hx)
        exact ⟨this.1, this.2.1⟩
      have hbl : F.ns[k].b.length ≤ 5 := hb5 _ (List.getElem_mem hk)
      obtain ⟨g0, off0, u0, rfl, hblt, ⟨ab, cc, rfl, hc1, hc2, hrb⟩, j0, j1, j2, j3, c4⟩ := (HNS.out w (Below.refl _ _)).at k hk
      clear j0 j1 j2 j3
      have HRB : Hid (∀ W, Below w.heap.size w W → Rd .i64 W ab F.ns[k].b) := fun W h => hrb.below h (Nat.le_refl _)
      have HC4 : Hid (∀ W, Below w.heap.size w W → W.cell? ⟨g0, off0 + k * 5 + 4, none⟩ = some (.slice ab F.ns[k].b.length cc)) := fun W h => (h.cell hblt).trans c4
      have HNA : Hid ((ndAt F (k : Int)).b = F.ns[k].b) := by show _ = _; rw [ndAt_nat hk]
      have HUSD : Hid (∀ q, q < F.ds.length → ((allB F.ns).count (q : Int) = 0 ↔ (dsAt F.ds (q : Int)).size = 0)) := fun q hq => free_used hu.1 hq
      have HMEM : Hid (∀ q, q ≤ F.ds.length → ∀ x ∈ blkN F (k : Int) d q, 0 ≤ x ∧ x.toNat < F.ds.length) := fun q hq x hx => blkN_mem hu hq hx
      have HYE : Hid (needN d ≤ (allW F (k : Int)).length → wrOk F (k : Int) d = true ∧ wrD F (k : Int) d = wrF F (k : Int) d ∧ putN ((allW F (k : Int)).take (needN d)) d (clrN (F.ns[k].b.drop (needN d)) F.ds (F.ns[k].b.drop (needN d)).length) (needN d) = heldDs F (k : Int) d) := fun h => by
        have hp : WrP F (k : Int) d := ⟨hu, hds, h⟩
        refine ⟨(wr_true hp).1, (wr_true hp).2, ?_⟩
        have := held_other hp
        unfold restB at this
        rw [ndAt_nat hk] at this
        exact this
      have HNOO : Hid (¬ needN d ≤ (allW F (k : Int)).length → wrOk F (k : Int) d = false ∧ wrD F (k : Int) d = F) := fun h => wr_false fun hp => h hp.2.2
      have hn5 : needN d ≤ 5 := by unfold needN; omega
      have HNE : Hid (∀ j : Nat, j < needN d → 16 * j < d.size) := fun j h => by unfold needN at h; omega
      have HWF : Hid (wrF F (k : Int) d = ⟨F.ns.set k ⟨F.ns[k].k, F.ns[k].g, F.ns[k].t, (d.size : Nat), (allW F (k : Int)).take (needN d)⟩, heldDs F (k : Int) d⟩) := by show _ = _; unfold wrF wrN; rw [ndAt_nat hk, Int.toNat_natCast]
      have hRl : (F.ns[k].b.drop (needN d)).length = F.ns[k].b.length - needN d := List.length_drop
      clear hu HNS hrb c4 hc1 hc2 HUS hblt hb5 HRF
      go_enter Try.func12, Try.ntmps12
      go_wp2_with fail
      refine HCP.out.mono ?_
      rintro e w1 ⟨u, rfl, ho, hb⟩
      obtain ⟨a1, c1, b1, e1, rfl⟩ := ho.lay
      have hC := CpF.start ho hb
      have HC : Hid (CpF w (w1.alloc (.cells #[.slice a1 F.ns.length c1, .slice b1 F.ds.length e1] 31)) (some ⟨g0, off0, none⟩) b F.ns.length ca F.ds.length cb w1.heap.size (.slice a1 F.ns.length c1) (.slice b1 F.ds.length e1) F) := hC
      obtain ⟨p0, p1, j0, j1, j2, j3, j4, j5⟩ := hC.cells
      clear j0 j1 j2 j3 j4 j5
      clear ho hb hC HCP
      go_wp2_with fail
      refine (HIS.out _ HC.out.bel).mono ?_
      rintro e w2 ⟨rfl, hb2⟩
      have hC2 := HC.out.new hb2
      obtain ⟨g, gd, ga, gb, M, he1, he2, hM, hCM⟩ := hC2.open (by omega) (by omega)
      simp at he1 he2
      obtain ⟨rfl, rfl⟩ := he1
      obtain ⟨rfl, rfl⟩ := he2
      have HM : Hid (M.map (·.1) = F.ns) := hM
      have hMl : M.length = F.ns.length := by rw [← hM]; simp
      have HCM : Hid (CpM w w2 (some ⟨g0, off0, none⟩) b F.ns.length ca F.ds.length cb w1.heap.size g gd F.ns.length F.ds.length c1 e1 M F.ds) := hCM
      clear p0 p1 hC2 hb2 HC hM hCM HIS
      generalize w1.heap.size = Q at *
      obtain ⟨p0, p1, q0, q1⟩ := HCM.out.cells
      go_wp2_with fail
      refine (HUD.out w2 HCM.out.bel).mono ?_
      rintro e w3 ⟨uv, rfl, huo, hb3⟩
      have hC3 := HCM.out.new hb3
      have hw2s : w.heap.size + 2 ≤ w2.heap.size := by have h1 := HCM.out.mu.in_g; omega
      have huo2 := ownsRow_base huo hw2s
      obtain ⟨gu, cu, hgu⟩ : ∃ gu cu, uv = .slice (some ⟨gu, 0, none⟩) (F.ds.length + 1) cu := by
        rcases huo.2 with ⟨rfl, h0⟩ | ⟨gu, cu, cur, rfl, _⟩
        · omega
        · exact ⟨gu, cu, rfl⟩
      subst hgu
      have hw3s : w.heap.size + 2 ≤ w3.heap.size := Nat.le_trans hw2s hb3.size
      have HST : Hid (WrInv w (w3.alloc (.cells #[] 3)) (some ⟨g0, off0, none⟩) b F.ns.length ca F.ds.length cb Q g gd F.ns.length F.ds.length c1 e1 M F.ds (.slice (some ⟨gu, 0, none⟩) (F.ds.length + 1) cu) (F.ds.length + 1) (usedL F.ds.length (allB F.ns)) w3.heap.size (.slice (some ⟨w3.heap.size, 0, none⟩) 0 0) []) := WrInv.start hC3 huo2 hw3s
      clear p0 p1 q0 q1 HUD huo huo2 hb3 hC3 HCM hw2s hw3s
      go_wp2_with fail
      refine (HBF.out w3).mono ?_
      rintro e w4 ⟨rfl, hw4⟩
      subst w4
      clear HBF
      go_upto_region 7 with fail
      generalize w3.alloc (.cells #[] 3) = W0 at *
      generalize w3.heap.size = B at *
      go_wp2
      go_loopw [11, 12] (fun vb j wr => ∃ (m : Nat) (vb' : Value), vb' = vb ∧ m ≤ F.ns[k].b.length ∧ j = .int .i64 m ∧ Hid (WrInv w wr (some ⟨g0, off0, none⟩) b F.ns.length ca F.ds.length cb Q g gd F.ns.length F.ds.length c1 e1 M (clrN (F.ns[k].b.drop (needN d)) F.ds (m - needN d)) (.slice (some ⟨gu, 0, none⟩) (F.ds.length + 1) cu) (F.ds.length + 1) (usedL F.ds.length (allB F.ns)) B vb' ((F.ns[k].b.take (needN d)).take m))) (fun _ j _ => F.ns[k].b.length - (intOf j).toNat)
      case atStart => exact ⟨0, _, rfl, by omega, rfl, by show WrInv _ _ _ _ _ _ _ _ _ _ _ _ _ _ _ _ _ _ _ _ _ _ _; rw [Nat.zero_sub, List.take_zero]; exact HST.out⟩
      case round =>
        clear HST
        obtain ⟨m, vb', rfl, hm, rfl, HX⟩ := hrel
        have hB := HX.out.cp.bel
        obtain ⟨p0, p1, q0, q1⟩ := HX.out.cp.cells
        have c4 := HC4.out wr hB
        by_cases hlt : m < F.ns[k].b.length
        · obtain ⟨gx, ox, rfl, hgx, hcx⟩ := (HRB.out wr hB).cellI m hlt
          have hx := HBX.out _ (List.getElem_mem hlt)
          obtain ⟨x, hxx⟩ := natOf hx.1
          rw [hxx] at hcx hx
          have hxl : x < F.ds.length := by simpa using hx.2
          obtain ⟨T, hT⟩ : ∃ T, (F.ns[k].b.take (needN d)).take m = T := ⟨_, rfl⟩
          rw [hT] at HX
          by_cases hmn : m < needN d
          · have HTK : Hid ((F.ns[k].b.take (needN d)).take (m + 1) = T ++ [(x : Int)]) := by
              show _ = _
              rw [← hT, List.take_succ_eq_append_getElem (by rw [List.length_take]; omega), List.getElem_take, hxx]
            have HTL : Hid (T.length ≤ needN d) := by show _ ≤ _; rw [← hT]; simp; omega
            have HCL : Hid (clrN (F.ns[k].b.drop (needN d)) F.ds (m + 1 - needN d) = clrN (F.ns[k].b.drop (needN d)) F.ds (m - needN d)) := by show _ = _; rw [show m + 1 - needN d = m - needN d by omega]
            clear hT hx hxx HRB HC4 HBX
            have hTl : T.length ≤ 5 := by have := HTL.out; omega
            obtain ⟨av, cv, rfl⟩ := ownSliceD HX.out.row
            have HX5 : Hid (WrInv w (wr.alloc (.cells #[.int .i64 (x : Nat)] 3)) (some ⟨g0, off0, none⟩) b F.ns.length ca F.ds.length cb Q g gd F.ns.length F.ds.length c1 e1 M (clrN (F.ns[k].b.drop (needN d)) F.ds (m - needN d)) (.slice (some ⟨gu, 0, none⟩) (F.ds.length + 1) cu) (F.ds.length + 1) (usedL F.ds.length (allB F.ns)) B (.slice av T.length cv) T) := HX.out.new (below1 _ _)
            have HO5 : Hid ((wr.alloc (.cells #[.int .i64 (x : Nat)] 3)).ownsRow B 3 1 (.slice av T.length cv) T.length (T.map (Value.int .i64))) := HX5.out.row
            have HS5 : Hid (Src Try.prog 1 53 (.slice (some ⟨wr.heap.size, 0, none⟩) 1 1) 1 [.int .i64 (x : Nat)] (wr.alloc (.cells #[.int .i64 (x : Nat)] 3))) := srcOneD Try.underlying53 wr (.int .i64 (x : Nat)) rfl
            have hsz5 : B ≤ (wr.alloc (.cells #[.int .i64 (x : Nat)] 3)).heap.size := HX5.out.siz
            clear HX
            go_wp2_with (at_builtin; refine wpList_append_own_src _ rfl (.tmp 48) (.tmp 58) 53 53 rfl B 3 i3 (.int .i64 0) 1 8 Try.underlying53 ii iz0 iz1 iz2 rfl _ _ _ rfl HO5.out _ 1 [.int .i64 (x : Nat)] rfl HS5.out (by unfold maxLen; omega) (by omega) hsz5 ?_)
            intro v8 w8 ho8 hg8
            obtain ⟨a8, c8, rfl⟩ := ownSliceD ho8
            have hX9 := HX5.out.app ho8 hg8
            rw [← HTK.out] at hX9
            rw [← HCL.out] at hX9
            have HX9 : Hid (WrInv w w8 (some ⟨g0, off0, none⟩) b F.ns.length ca F.ds.length cb Q g gd F.ns.length F.ds.length c1 e1 M (clrN (F.ns[k].b.drop (needN d)) F.ds (m + 1 - needN d)) (.slice (some ⟨gu, 0, none⟩) (F.ds.length + 1) cu) (F.ds.length + 1) (usedL F.ds.length (allB F.ns)) B (.slice a8 (T.length + 1) c8) ((F.ns[k].b.take (needN d)).take (m + 1))) := hX9
            clear hX9 HX5 HO5 HS5 ho8 hg8 hsz5 p0 p1 q0 q1 c4 hcx HTK HCL HTL
            go_wp2
            go_roundw
            case rel => exact ⟨m + 1, _, rfl, by omega, by go_num, HX9⟩
            case measure => simp [intOf]; omega
          · have hcl : (clrN (F.ns[k].b.drop (needN d)) F.ds (m - needN d)).length = F.ds.length := clrN_len _ _ _
            have hcd := HX.out.cp.mu.celld (k := x) (by omega)
            have hfd := HX.out.cp.mu.fzd x
            have hX2 := (HX.out.text x ⟨#[]⟩).drew
            have eT1 : (F.ns[k].b.take (needN d)).take (m + 1) = F.ns[k].b.take (needN d) := List.take_of_length_le (by rw [List.length_take]; omega)
            have eT2 : (F.ns[k].b.take (needN d)).take m = F.ns[k].b.take (needN d) := List.take_of_length_le (by rw [List.length_take]; omega)
            have hT1 : (F.ns[k].b.take (needN d)).take (m + 1) = T := by rw [← hT, eT1, eT2]
            have hD1 : clrN (F.ns[k].b.drop (needN d)) F.ds (m + 1 - needN d) = (clrN (F.ns[k].b.drop (needN d)) F.ds (m - needN d)).set x ⟨#[]⟩ := by
              rw [show m + 1 - needN d = (m - needN d) + 1 by omega, clrN, List.getElem?_drop, show needN d + (m - needN d) = m by omega, List.getElem?_eq_getElem hlt, Option.getD_some, hxx, Int.toNat_natCast]
            rw [← hT1, ← hD1] at hX2
            have HX2 : Hid (WrInv w (wr.setCell ⟨gd, x, none⟩ (.string ⟨#[]⟩)).drew (some ⟨g0, off0, none⟩) b F.ns.length ca F.ds.length cb Q g gd F.ns.length F.ds.length c1 e1 M (clrN (F.ns[k].b.drop (needN d)) F.ds (m + 1 - needN d)) (.slice (some ⟨gu, 0, none⟩) (F.ds.length + 1) cu) (F.ds.length + 1) (usedL F.ds.length (allB F.ns)) B vb' ((F.ns[k].b.take (needN d)).take (m + 1))) := hX2
            obtain ⟨av, cv, rfl⟩ := ownSliceD HX.out.row
            clear hX2 hT1 hD1 hT eT1 eT2 HX hx HRB HC4 HBX
            generalize (clrN (F.ns[k].b.drop (needN d)) F.ds (m - needN d))[x] = dd at *
            clear hcl hxx
            go_upto_region 12 with fail
            go_region
            all_goals
              go_wp2
              go_roundw
              case rel => exact ⟨m + 1, _, rfl, by omega, by go_num, HX2⟩
              case measure => simp [intOf]; omega
        · obtain rfl : m = F.ns[k].b.length := by omega
          have h0 : (F.ns[k].b.take (needN d)).take F.ns[k].b.length = blkN F (k : Int) d 0 := by rw [blkN_zero, HNA.out, List.take_of_length_le (by rw [List.length_take]; omega)]
          have hX0 := HX.out
          rw [h0, ← hRl] at hX0
          have HX0 : Hid (WrInv w wr (some ⟨g0, off0, none⟩) b F.ns.length ca F.ds.length cb Q g gd F.ns.length F.ds.length c1 e1 M (clrN (F.ns[k].b.drop (needN d)) F.ds (F.ns[k].b.drop (needN d)).length) (.slice (some ⟨gu, 0, none⟩) (F.ds.length + 1) cu) (F.ds.length + 1) (usedL F.ds.length (allB F.ns)) B vb' (blkN F (k : Int) d 0)) := hX0
          obtain ⟨av0, cv0, rfl⟩ := ownSliceD hX0.row
          clear h0 hX0 HX HRB HC4 HBX HNA
          generalize hDS : (clrN (F.ns[k].b.drop (needN d)) F.ds (F.ns[k].b.drop (needN d)).length) = DS at *
          have hDSl : DS.length = F.ds.length := by rw [← hDS, clrN_len]
          clear hDS
          go_wp2
          go_loopw [11, 13] (fun vb j wr => ∃ (q : Nat) (vb' : Value), vb' = vb ∧ q ≤ F.ds.length ∧ j = .int .i64 q ∧ Hid (WrInv w wr (some ⟨g0, off0, none⟩) b F.ns.length ca F.ds.length cb Q g gd F.ns.length F.ds.length c1 e1 M DS (.slice (some ⟨gu, 0, none⟩) (F.ds.length + 1) cu) (F.ds.length + 1) (usedL F.ds.length (allB F.ns)) B vb' (blkN F (k : Int) d q))) (fun _ j _ => F.ds.length - (intOf j).toNat)
          case atStart => exact ⟨0, _, rfl, by omega, rfl, HX0⟩
          case round =>
            clear HX0 p0 p1 q0 q1 c4
            obtain ⟨q, vb', rfl, hq, rfl, HX⟩ := hrel
            obtain ⟨p0, p1, q0, q1⟩ := HX.out.cp.cells
            by_cases hqD : q < F.ds.length
            · by_cases hqn : (blkN F (k : Int) d q).length < needN d
              · have huse := (HX.out.use.cellAt q (by omega))
                rw [List.getElem?_map, usedL_at _ hqD] at huse
                have huse2 : wr.cell? ⟨gu, q, none⟩ = some (.int .i64 ((allB F.ns).count (q : Int) : Nat)) := huse
                by_cases hz : (allB F.ns).count (q : Int) = 0
                · have hstep := blkN_put hqn ((HUSD.out q hqD).1 hz)
                  obtain ⟨T, hT⟩ : ∃ T, blkN F (k : Int) d q = T := ⟨_, rfl⟩
                  rw [hT] at HX hqn hstep
                  have HTK : Hid (blkN F (k : Int) d (q + 1) = T ++ [(q : Int)]) := hstep
                  have HTL : Hid (T.length ≤ needN d) := by show _ ≤ _; omega
                  rw [hz] at huse2
                  clear hT hstep huse hz
                  have hTl : T.length ≤ 5 := by have := HTL.out; omega
                  obtain ⟨av, cv, rfl⟩ := ownSliceD HX.out.row
                  have HX5 : Hid (WrInv w (wr.alloc (.cells #[.int .i64 (q : Nat)] 3)) (some ⟨g0, off0, none⟩) b F.ns.length ca F.ds.length cb Q g gd F.ns.length F.ds.length c1 e1 M DS (.slice (some ⟨gu, 0, none⟩) (F.ds.length + 1) cu) (F.ds.length + 1) (usedL F.ds.length (allB F.ns)) B (.slice av T.length cv) T) := HX.out.new (below1 _ _)
                  have HO5 : Hid ((wr.alloc (.cells #[.int .i64 (q : Nat)] 3)).ownsRow B 3 1 (.slice av T.length cv) T.length (T.map (Value.int .i64))) := HX5.out.row
                  have HS5 : Hid (Src Try.prog 1 53 (.slice (some ⟨wr.heap.size, 0, none⟩) 1 1) 1 [.int .i64 (q : Nat)] (wr.alloc (.cells #[.int .i64 (q : Nat)] 3))) := srcOneD Try.underlying53 wr (.int .i64 (q : Nat)) rfl
                  have hsz5 : B ≤ (wr.alloc (.cells #[.int .i64 (q : Nat)] 3)).heap.size := HX5.out.siz
                  clear HX
                  go_wp2_with (at_builtin; refine wpList_append_own_src _ rfl (.tmp 90) (.tmp 92) 53 53 rfl B 3 i3 (.int .i64 0) 1 8 Try.underlying53 ii iz0 iz1 iz2 rfl _ _ _ rfl HO5.out _ 1 [.int .i64 (q : Nat)] rfl HS5.out (by unfold maxLen; omega) (by omega) hsz5 ?_)
                  intro v8 w8 ho8 hg8
                  obtain ⟨a8, c8, rfl⟩ := ownSliceD ho8
                  have hX9 := HX5.out.app ho8 hg8
                  rw [← HTK.out] at hX9
                  have HX9 : Hid (WrInv w w8 (some ⟨g0, off0, none⟩) b F.ns.length ca F.ds.length cb Q g gd F.ns.length F.ds.length c1 e1 M DS (.slice (some ⟨gu, 0, none⟩) (F.ds.length + 1) cu) (F.ds.length + 1) (usedL F.ds.length (allB F.ns)) B (.slice a8 (T.length + 1) c8) (blkN F (k : Int) d (q + 1))) := hX9
                  clear hX9 HX5 HO5 HS5 ho8 hg8 hsz5 p0 p1 q0 q1 huse2 HTK HTL
                  go_wp2
                  go_roundw
                  case rel => exact ⟨q + 1, _, rfl, by omega, by go_num, HX9⟩
                  case measure => simp [intOf]; omega
                · have hstep : blkN F (k : Int) d (q + 1) = blkN F (k : Int) d q := blkN_not fun h => hz ((HUSD.out q hqD).2 h)
                  have HX9 : Hid (WrInv w wr (some ⟨g0, off0, none⟩) b F.ns.length ca F.ds.length cb Q g gd F.ns.length F.ds.length c1 e1 M DS (.slice (some ⟨gu, 0, none⟩) (F.ds.length + 1) cu) (F.ds.length + 1) (usedL F.ds.length (allB F.ns)) B vb' (blkN F (k : Int) d (q + 1))) := by show WrInv _ _ _ _ _ _ _ _ _ _ _ _ _ _ _ _ _ _ _ _ _ _ _; rw [hstep]; exact HX.out
                  obtain ⟨av, cv, rfl⟩ := ownSliceD HX.out.row
                  generalize (allB F.ns).count (q : Int) = cq at *
                  generalize (blkN F (k : Int) d q).length = lq at *
                  clear hstep huse HX
                  go_wp2
                  go_roundw
                  case rel => exact ⟨q + 1, _, rfl, by omega, by go_num, HX9⟩
                  case measure => simp [intOf]; omega
              · have hfull := blkN_full hq hqn
                have hle : needN d ≤ (allW F (k : Int)).length := by rw [hfull, List.length_take] at hqn; omega
                have hX0 := HX.out
                rw [hfull] at hX0
                obtain ⟨hk1, hk2, hk3⟩ := HYE.out hle
                obtain ⟨BK, hBK⟩ : ∃ x, (allW F (k : Int)).take (needN d) = x := ⟨_, rfl⟩
                have hBl : BK.length = needN d := by rw [← hBK, List.length_take]; omega
                have HMB : Hid (∀ x ∈ BK, 0 ≤ x ∧ x.toNat < F.ds.length) := fun x hx => by rw [← hBK, ← blkN_all] at hx; exact HMEM.out _ (Nat.le_refl _) x hx
                have HOK : Hid (wrOk F (k : Int) d = true) := hk1
                have HDD : Hid (wrD F (k : Int) d = ⟨F.ns.set k ⟨F.ns[k].k, F.ns[k].g, F.ns[k].t, (d.size : Nat), BK⟩, putN BK d DS (needN d)⟩) := by show _ = _; rw [hk2, HWF.out, ← hk3, hBK]
                rw [hBK] at hX0
                obtain ⟨av, cv, rfl⟩ := ownSliceD hX0.row
                have hrow := hX0.row
                rw [hBl] at hrow
                have HX0 : Hid (WrInv w wr (some ⟨g0, off0, none⟩) b F.ns.length ca F.ds.length cb Q g gd F.ns.length F.ds.length c1 e1 M DS (.slice (some ⟨gu, 0, none⟩) (F.ds.length + 1) cu) (F.ds.length + 1) (usedL F.ds.length (allB F.ns)) B (.slice av BK.length cv) BK) := hX0
                have HBL : Hid (BK.length = needN d) := hBl
                have hBl1 : BK.length ≤ needN d := by omega
                have hBl2 : needN d ≤ BK.length := by omega
                have hdec : decide (BK.length < needN d) = false := decide_eq_false (by omega)
                clear hBl
                clear hX0 HX hk1 hk2 hk3 hfull hBK HYE HNOO HWF hrow HMEM HUSD HCQ
                go_wp2
                clear p0 p1 q0 q1
                go_loopw [14] (fun j wr => ∃ m : Nat, m ≤ needN d ∧ j = .int .i64 m ∧ Hid (WrInv w wr (some ⟨g0, off0, none⟩) b F.ns.length ca F.ds.length cb Q g gd F.ns.length F.ds.length c1 e1 M (putN BK d DS m) (.slice (some ⟨gu, 0, none⟩) (F.ds.length + 1) cu) (F.ds.length + 1) (usedL F.ds.length (allB F.ns)) B (.slice av BK.length cv) BK)) (fun j _ => needN d - (intOf j).toNat)
                case atStart => exact ⟨0, by omega, rfl, HX0⟩
                case round =>
                  clear HX0
                  obtain ⟨m, hm, rfl, HX⟩ := hrel
                  by_cases hlt : m < needN d
                  · have hmB : m < BK.length := by omega
                    have hx := HMB.out _ (List.getElem_mem hmB)
                    obtain ⟨x, hxx⟩ := natOf hx.1
                    have hxl : x < F.ds.length := by have := hx.2; rw [hxx] at this; simpa using this
                    have hrow := HX.out.row
                    obtain ⟨gb, hgb⟩ : ∃ gb, av = some ⟨gb, 0, none⟩ := by
                      rcases hrow.2 with ⟨he, h0⟩ | ⟨gb, cu', cur, he, _⟩
                      · omega
                      · injection he with he _ _; exact ⟨gb, he⟩
                    subst hgb
                    have hcx : wr.cell? ⟨gb, m, none⟩ = some (.int .i64 (x : Nat)) := by
                      have := hrow.cellAt m (by omega)
                      rw [List.getElem?_map, List.getElem?_eq_getElem hmB, hxx] at this
                      exact this
                    have h16 := HNE.out m hlt
                    have HPN : Hid (putN BK d DS (m + 1) = (putN BK d DS m).set x (piece d m)) := by show _ = _; rw [putN, List.getElem?_eq_getElem hmB, Option.getD_some, hxx, Int.toNat_natCast]
                    obtain ⟨pc, hpc⟩ : ∃ x, piece d m = x := ⟨_, rfl⟩
                    rw [hpc] at HPN
                    obtain ⟨p0, p1, q0, q1⟩ := HX.out.cp.cells
                    clear hx hrow
                    have HSS : Hid (wr.cell? ⟨Q, 1, none⟩ = some (.slice (some ⟨gd, 0, none⟩) F.ds.length e1) ∧ wr.cell? ⟨gb, m, none⟩ = some (.int .i64 (x : Nat))) := ⟨q1, hcx⟩
                    have HLO : Hid (∀ W, Calls Try.prog 33 #[.int .i64 (d.size : Nat), .int .i64 (m : Nat)] W fun e w' => e = .returned (.int .i64 (longB (d.size : Nat) m)) ∧ w' = W) := fun W => longW (d.size : Nat) m W (by omega) (by omega) (by omega)
                    obtain ⟨lb, hlb⟩ : ∃ z, longB (d.size : Nat) m = z := ⟨_, rfl⟩
                    have hlb2 : (m : Int) * 16 + lb = min ((m : Int) * 16 + 16) (d.size : Int) := by rw [← hlb]; unfold longB; split <;> omega
                    rw [hlb] at HLO
                    clear hlb
                    have hwr : IntKind.i64.wrap ((m : Int) * 16 + lb) = (m : Int) * 16 + lb := by rw [IntKind.wrap_i64]; omega
                    have hsl : ∀ W, (Instr.slice 9 (.string d) (some (.int .i64 ((m : Int) * 16))) (some (.int .i64 ((m : Int) * 16 + lb))) none).run Try.prog W = .ok (.string pc) W := fun W => by
                      have := run_slice_string (P := Try.prog) W 9 d .i64 .i64 ((m : Int) * 16) ((m : Int) * 16 + lb) Try.underlying9 (by omega) (by omega) (by omega)
                      rw [this, ← hpc]
                      unfold piece
                      rw [show ((m : Int) * 16).toNat = 16 * m by omega, show ((m : Int) * 16 + lb).toNat = min (16 * m + 16) d.size by omega]
                    have hcl : (putN BK d DS m).length = F.ds.length := by rw [putN_len]; exact hDSl
                    have hcd : wr.drew.cell? ⟨gd, x, none⟩ = some (.string ((putN BK d DS m)[x]'(by omega))) := HX.out.drew.cp.mu.celld (k := x) (by omega)
                    have hfd : wr.drew.frozen? ⟨gd, x, none⟩ = false := HX.out.drew.cp.mu.fzd x
                    have hX9 := (HX.out.text x pc).drew
                    rw [← HPN.out] at hX9
                    have HX9 : Hid (WrInv w (wr.setCell ⟨gd, x, none⟩ (.string pc)).drew (some ⟨g0, off0, none⟩) b F.ns.length ca F.ds.length cb Q g gd F.ns.length F.ds.length c1 e1 M (putN BK d DS (m + 1)) (.slice (some ⟨gu, 0, none⟩) (F.ds.length + 1) cu) (F.ds.length + 1) (usedL F.ds.length (allB F.ns)) B (.slice (some ⟨gb, 0, none⟩) BK.length cv) BK) := hX9
                    have hXd := HX.out.drew.text x pc
                    have hss : (wr.drew.setCell ⟨gd, x, none⟩ (.string pc)).cell? ⟨Q, 1, none⟩ = some (.slice (some ⟨gd, 0, none⟩) F.ds.length e1) ∧ (wr.drew.setCell ⟨gd, x, none⟩ (.string pc)).cell? ⟨gb, m, none⟩ = some (.int .i64 (x : Nat)) := by
                      refine ⟨hXd.cp.cells.2.2.2, ?_⟩
                      have hro := hXd.row
                      have := hro.cellAt m (by omega)
                      rw [List.getElem?_map, List.getElem?_eq_getElem hmB, hxx] at this
                      exact this
                    have HS9 : Hid ((wr.drew.setCell ⟨gd, x, none⟩ (.string pc)).cell? ⟨Q, 1, none⟩ = some (.slice (some ⟨gd, 0, none⟩) F.ds.length e1) ∧ (wr.drew.setCell ⟨gd, x, none⟩ (.string pc)).cell? ⟨gb, m, none⟩ = some (.int .i64 (x : Nat))) := hss
                    clear hss hX9 hXd hxx HBL HPN hpc HX p0 p1 q0 q1 hcx
                    generalize (putN BK d DS m)[x] = dd at *
                    clear hcl hlb2
                    go_upto_region 24 with fail
                    refine wp_region_noPanic ?_
                    refine wp_region_held_drew (S := (fun W => W.cell? ⟨Q, 1, none⟩ = some (.slice (some ⟨gd, 0, none⟩) F.ds.length e1) ∧ W.cell? ⟨gb, m, none⟩ = some (.int .i64 (x : Nat)))) (by kernel_rfl) HSS.out (fun hT => ?_)
                    clear hT
                    refine held_take (i := 0) (v := .pointer (some ⟨Q, 1, none⟩)) rfl rfl (by kernel_rfl) (by kernel_rfl) (by kernel_rfl) (by kernel_rfl) (fun W hS => by go_simp) HSS.out ?_
                    simp only [Act.put, List.setIfInBounds_toArray, List.set_cons_zero, List.set_cons_succ]
                    refine held_take (i := 1) (v := .slice (some ⟨gd, 0, none⟩) F.ds.length e1) rfl rfl (by kernel_rfl) (by kernel_rfl) (by kernel_rfl) (by kernel_rfl) (fun W hS => by obtain ⟨hs0, hs1⟩ := hS; go_simp) HSS.out ?_
                    simp only [Act.put, List.setIfInBounds_toArray, List.set_cons_zero, List.set_cons_succ]
                    refine held_take (i := 2) (v := .slice (some ⟨gb, 0, none⟩) BK.length cv) rfl rfl (by kernel_rfl) (by kernel_rfl) (by kernel_rfl) (by kernel_rfl) (fun W hS => by go_simp) HSS.out ?_
                    simp only [Act.put, List.setIfInBounds_toArray, List.set_cons_zero, List.set_cons_succ]
                    refine held_take (i := 3) (v := .int .i64 (m : Nat)) rfl rfl (by kernel_rfl) (by kernel_rfl) (by kernel_rfl) (by kernel_rfl) (fun W hS => by go_simp) HSS.out ?_
                    simp only [Act.put, List.setIfInBounds_toArray, List.set_cons_zero, List.set_cons_succ]
                    refine held_take (i := 4) (v := .pointer (some ⟨gb, m, none⟩)) rfl rfl (by kernel_rfl) (by kernel_rfl) (by kernel_rfl) (by kernel_rfl) (fun W hS => by go_simp) HSS.out ?_
                    simp only [Act.put, List.setIfInBounds_toArray, List.set_cons_zero, List.set_cons_succ]
                    refine held_take (i := 5) (v := .int .i64 (x : Nat)) rfl rfl (by kernel_rfl) (by kernel_rfl) (by kernel_rfl) (by kernel_rfl) (fun W hS => by obtain ⟨hs0, hs1⟩ := hS; go_simp) HSS.out ?_
                    simp only [Act.put, List.setIfInBounds_toArray, List.set_cons_zero, List.set_cons_succ]
                    refine held_take (i := 6) (v := .string d) rfl rfl (by kernel_rfl) (by kernel_rfl) (by kernel_rfl) (by kernel_rfl) (fun W hS => by go_simp) HSS.out ?_
                    simp only [Act.put, List.setIfInBounds_toArray, List.set_cons_zero, List.set_cons_succ]
                    refine held_take (i := 7) (v := .int .i64 ((m : Int) * 16)) rfl rfl (by kernel_rfl) (by kernel_rfl) (by kernel_rfl) (by kernel_rfl) (fun W hS => by go_simp) HSS.out ?_
                    simp only [Act.put, List.setIfInBounds_toArray, List.set_cons_zero, List.set_cons_succ]
                    refine held_take (i := 8) (v := .int .i64 ((m : Int) * 16)) rfl rfl (by kernel_rfl) (by kernel_rfl) (by kernel_rfl) (by kernel_rfl) (fun W hS => by go_simp) HSS.out ?_
                    simp only [Act.put, List.setIfInBounds_toArray, List.set_cons_zero, List.set_cons_succ]
                    refine held_take (i := 9) (v := .string d) rfl rfl (by kernel_rfl) (by kernel_rfl) (by kernel_rfl) (by kernel_rfl) (fun W hS => by go_simp) HSS.out ?_
                    simp only [Act.put, List.setIfInBounds_toArray, List.set_cons_zero, List.set_cons_succ]
                    refine held_take (i := 10) (v := .int .i64 (d.size : Nat)) rfl rfl (by kernel_rfl) (by kernel_rfl) (by kernel_rfl) (by kernel_rfl) (fun W hS => by go_simp) HSS.out ?_
                    simp only [Act.put, List.setIfInBounds_toArray, List.set_cons_zero, List.set_cons_succ]
                    refine held_take (i := 11) (v := .int .i64 (m : Nat)) rfl rfl (by kernel_rfl) (by kernel_rfl) (by kernel_rfl) (by kernel_rfl) (fun W hS => by go_simp) HSS.out ?_
                    simp only [Act.put, List.setIfInBounds_toArray, List.set_cons_zero, List.set_cons_succ]
                    refine wpAnyH_ready (rs := [12]) (by kernel_rfl) (by simp) (AllReadyH.cons rfl (fun K hK => ?_) AllReadyH.nil)
                    go_simp
                    refine (HLO.out _).mono ?_
                    rintro e w9 ⟨rfl, hw9⟩
                    subst w9
                    refine hK.out _ _ HSS.out (fun hT => ?_)
                    clear hK K hT
                    try simp only [Act.put, List.setIfInBounds_toArray, List.set_cons_zero, List.set_cons_succ]
                    refine held_take (i := 13) (v := .int .i64 ((m : Int) * 16 + lb)) rfl rfl (by kernel_rfl) (by kernel_rfl) (by kernel_rfl) (by kernel_rfl) (fun W hS => by go_simp) HSS.out ?_
                    simp only [Act.put, List.setIfInBounds_toArray, List.set_cons_zero, List.set_cons_succ]
                    refine held_take (i := 14) (v := .string pc) rfl rfl (by kernel_rfl) (by kernel_rfl) (by kernel_rfl) (by kernel_rfl) (fun W hS => by go_simp) HSS.out ?_
                    simp only [Act.put, List.setIfInBounds_toArray, List.set_cons_zero, List.set_cons_succ]
                    refine held_take (i := 15) (v := .pointer (some ⟨gd, x, none⟩)) rfl rfl (by kernel_rfl) (by kernel_rfl) (by kernel_rfl) (by kernel_rfl) (fun W hS => by go_simp) HSS.out ?_
                    simp only [Act.put, List.setIfInBounds_toArray, List.set_cons_zero, List.set_cons_succ]
                    refine wpAnyH_ready (rs := [16]) (by kernel_rfl) (by simp) (AllReadyH.cons rfl (fun K hK => ?_) AllReadyH.nil)
                    go_simp
                    refine hK.out _ _ HS9.out (fun hT => ?_)
                    clear hK K hT
                    try simp only [Act.put, List.setIfInBounds_toArray, List.set_cons_zero, List.set_cons_succ]
                    refine wpAnyH_done (by kernel_rfl) ?_ _
                    simp only [NoPanic]
                    clear HSS HS9 hcd hfd hsl hwr HLO
                    go_wp2
                    go_roundw
                    case rel => exact ⟨m + 1, by omega, by go_num, HX9⟩
                    case measure => simp [intOf]; omega
                  · obtain rfl : m = needN d := by omega
                    have hkM : k < M.length := by omega
                    have hMk : M[k].1 = F.ns[k] := by simp only [← HM.out, List.getElem_map]
                    obtain ⟨p0, p1, q0, q1⟩ := HX.out.cp.cells
                    have d3 := (HX.out.cp.mu.celln hkM).2.2.2.1
                    have d4 := (HX.out.cp.mu.celln hkM).2.2.2.2
                    have f3 := HX.out.cp.mu.fz (k * 5 + 3)
                    have f4 := HX.out.cp.mu.fz (k * 5 + 4)
                    have hfin := HX.out.fin hkM d.size
                    rw [hMk] at hfin d3
                    have HFI : Hid (CpM w ((wr.setCell ⟨g, k * 5 + 3, none⟩ (.int .i64 (d.size : Nat))).setCell ⟨g, k * 5 + 4, none⟩ (.slice av BK.length cv)) (some ⟨g0, off0, none⟩) b F.ns.length ca F.ds.length cb Q g gd F.ns.length F.ds.length c1 e1 (M.set k (⟨F.ns[k].k, F.ns[k].g, F.ns[k].t, (d.size : Nat), BK⟩, .slice av BK.length cv)) (putN BK d DS (needN d))) := hfin
                    have HMM : Hid ((M.set k ((⟨F.ns[k].k, F.ns[k].g, F.ns[k].t, (d.size : Nat), BK⟩ : NodeD), .slice av BK.length cv)).map (·.1) = F.ns.set k ⟨F.ns[k].k, F.ns[k].g, F.ns[k].t, (d.size : Nat), BK⟩) := by show _ = _; rw [List.map_set, HM.out]
                    clear hfin HX hMk
                    generalize M[k].2 = uk at *
                    go_upto_region 27 with fail
                    clear p0 p1 q0 q1 d3 d4 f3 f4
                    generalize (wr.setCell ⟨g, k * 5 + 3, none⟩ (.int .i64 (d.size : Nat))).setCell ⟨g, k * 5 + 4, none⟩ (.slice av BK.length cv) = W9 at *
                    have HF : Hid (CpF w W9 (some ⟨g0, off0, none⟩) b F.ns.length ca F.ds.length cb Q (.slice (some ⟨g, 0, none⟩) F.ns.length c1) (.slice (some ⟨gd, 0, none⟩) F.ds.length e1) ⟨F.ns.set k ⟨F.ns[k].k, F.ns[k].g, F.ns[k].t, (d.size : Nat), BK⟩, putN BK d DS (needN d)⟩) := HFI.out.toF HMM.out rfl
                    clear HFI HMM
                    obtain ⟨_, _, r0, r1, q0, q1, z0, z1⟩ := HF.out.cells
                    have hfar := HF.out.far
                    have HDN : Hid _ := HF.out.done
                    go_wp2
                    refine bodyPost_ret (res_fs1 rfl _ _ (w.heap.size + 1) 31 #[.slice (some ⟨g, 0, none⟩) F.ns.length c1, .slice (some ⟨gd, 0, none⟩) F.ds.length e1] _ rfl HDN.out.1 Try.underlying31 rfl Try.sizeFs) rfl ?_
                    exact ⟨_, by rw [HOK.out]; rfl, by rw [HDD.out]; exact HDN.out.2.1, HDN.out.2.2⟩
            · obtain rfl : q = F.ds.length := by omega
              have hfull := blkN_all F (k : Int) d
              by_cases hle : needN d ≤ (allW F (k : Int)).length
              · skip
                have hX0 := HX.out
                rw [hfull] at hX0
                obtain ⟨hk1, hk2, hk3⟩ := HYE.out hle
                obtain ⟨BK, hBK⟩ : ∃ x, (allW F (k : Int)).take (needN d) = x := ⟨_, rfl⟩
                have hBl : BK.length = needN d := by rw [← hBK, List.length_take]; omega
                have HMB : Hid (∀ x ∈ BK, 0 ≤ x ∧ x.toNat < F.ds.length) := fun x hx => by rw [← hBK, ← blkN_all] at hx; exact HMEM.out _ (Nat.le_refl _) x hx
                have HOK : Hid (wrOk F (k : Int) d = true) := hk1
                have HDD : Hid (wrD F (k : Int) d = ⟨F.ns.set k ⟨F.ns[k].k, F.ns[k].g, F.ns[k].t, (d.size : Nat), BK⟩, putN BK d DS (needN d)⟩) := by show _ = _; rw [hk2, HWF.out, ← hk3, hBK]
                rw [hBK] at hX0
                obtain ⟨av, cv, rfl⟩ := ownSliceD hX0.row
                have hrow := hX0.row
                rw [hBl] at hrow
                have HX0 : Hid (WrInv w wr (some ⟨g0, off0, none⟩) b F.ns.length ca F.ds.length cb Q g gd F.ns.length F.ds.length c1 e1 M DS (.slice (some ⟨gu, 0, none⟩) (F.ds.length + 1) cu) (F.ds.length + 1) (usedL F.ds.length (allB F.ns)) B (.slice av BK.length cv) BK) := hX0
                have HBL : Hid (BK.length = needN d) := hBl
                have hBl1 : BK.length ≤ needN d := by omega
                have hBl2 : needN d ≤ BK.length := by omega
                have hdec : decide (BK.length < needN d) = false := decide_eq_false (by omega)
                clear hBl
                clear hX0 HX hk1 hk2 hk3 hfull hBK HYE HNOO HWF hrow HMEM HUSD HCQ
                go_wp2
                clear p0 p1 q0 q1
                go_loopw [14] (fun j wr => ∃ m : Nat, m ≤ needN d ∧ j = .int .i64 m ∧ Hid (WrInv w wr (some ⟨g0, off0, none⟩) b F.ns.length ca F.ds.length cb Q g gd F.ns.length F.ds.length c1 e1 M (putN BK d DS m) (.slice (some ⟨gu, 0, none⟩) (F.ds.length + 1) cu) (F.ds.length + 1) (usedL F.ds.length (allB F.ns)) B (.slice av BK.length cv) BK)) (fun j _ => needN d - (intOf j).toNat)
                case atStart => exact ⟨0, by omega, rfl, HX0⟩
                case round =>
                  clear HX0
                  obtain ⟨m, hm, rfl, HX⟩ := hrel
                  by_cases hlt : m < needN d
                  · have hmB : m < BK.length := by omega
                    have hx := HMB.out _ (List.getElem_mem hmB)
                    obtain ⟨x, hxx⟩ := natOf hx.1
                    have hxl : x < F.ds.length := by have := hx.2; rw [hxx] at this; simpa using this
                    have hrow := HX.out.row
                    obtain ⟨gb, hgb⟩ : ∃ gb, av = some ⟨gb, 0, none⟩ := by
                      rcases hrow.2 with ⟨he, h0⟩ | ⟨gb, cu', cur, he, _⟩
                      · omega
                      · injection he with he _ _; exact ⟨gb, he⟩
                    subst hgb
                    have hcx : wr.cell? ⟨gb, m, none⟩ = some (.int .i64 (x : Nat)) := by
                      have := hrow.cellAt m (by omega)
                      rw [List.getElem?_map, List.getElem?_eq_getElem hmB, hxx] at this
                      exact this
                    have h16 := HNE.out m hlt
                    have HPN : Hid (putN BK d DS (m + 1) = (putN BK d DS m).set x (piece d m)) := by show _ = _; rw [putN, List.getElem?_eq_getElem hmB, Option.getD_some, hxx, Int.toNat_natCast]
                    obtain ⟨pc, hpc⟩ : ∃ x, piece d m = x := ⟨_, rfl⟩
                    rw [hpc] at HPN
                    obtain ⟨p0, p1, q0, q1⟩ := HX.out.cp.cells
                    clear hx hrow
                    have HSS : Hid (wr.cell? ⟨Q, 1, none⟩ = some (.slice (some ⟨gd, 0, none⟩) F.ds.length e1) ∧ wr.cell? ⟨gb, m, none⟩ = some (.int .i64 (x : Nat))) := ⟨q1, hcx⟩
                    have HLO : Hid (∀ W, Calls Try.prog 33 #[.int .i64 (d.size : Nat), .int .i64 (m : Nat)] W fun e w' => e = .returned (.int .i64 (longB (d.size : Nat) m)) ∧ w' = W) := fun W => longW (d.size : Nat) m W (by omega) (by omega) (by omega)
                    obtain ⟨lb, hlb⟩ : ∃ z, longB (d.size : Nat) m = z := ⟨_, rfl⟩
                    have hlb2 : (m : Int) * 16 + lb = min ((m : Int) * 16 + 16) (d.size : Int) := by rw [← hlb]; unfold longB; split <;> omega
                    rw [hlb] at HLO
                    clear hlb
                    have hwr : IntKind.i64.wrap ((m : Int) * 16 + lb) = (m : Int) * 16 + lb := by rw [IntKind.wrap_i64]; omega
                    have hsl : ∀ W, (Instr.slice 9 (.string d) (some (.int .i64 ((m : Int) * 16))) (some (.int .i64 ((m : Int) * 16 + lb))) none).run Try.prog W = .ok (.string pc) W := fun W => by
                      have := run_slice_string (P := Try.prog) W 9 d .i64 .i64 ((m : Int) * 16) ((m : Int) * 16 + lb) Try.underlying9 (by omega) (by omega) (by omega)
                      rw [this, ← hpc]
                      unfold piece
                      rw [show ((m : Int) * 16).toNat = 16 * m by omega, show ((m : Int) * 16 + lb).toNat = min (16 * m + 16) d.size by omega]
                    have hcl : (putN BK d DS m).length = F.ds.length := by rw [putN_len]; exact hDSl
                    have hcd : wr.drew.cell? ⟨gd, x, none⟩ = some (.string ((putN BK d DS m)[x]'(by omega))) := HX.out.drew.cp.mu.celld (k := x) (by omega)
                    have hfd : wr.drew.frozen? ⟨gd, x, none⟩ = false := HX.out.drew.cp.mu.fzd x
                    have hX9 := (HX.out.text x pc).drew
                    rw [← HPN.out] at hX9
                    have HX9 : Hid (WrInv w (wr.setCell ⟨gd, x, none⟩ (.string pc)).drew (some ⟨g0, off0, none⟩) b F.ns.length ca F.ds.length cb Q g gd F.ns.length F.ds.length c1 e1 M (putN BK d DS (m + 1)) (.slice (some ⟨gu, 0, none⟩) (F.ds.length + 1) cu) (F.ds.length + 1) (usedL F.ds.length (allB F.ns)) B (.slice (some ⟨gb, 0, none⟩) BK.length cv) BK) := hX9
                    have hXd := HX.out.drew.text x pc
                    have hss : (wr.drew.setCell ⟨gd, x, none⟩ (.string pc)).cell? ⟨Q, 1, none⟩ = some (.slice (some ⟨gd, 0, none⟩) F.ds.length e1) ∧ (wr.drew.setCell ⟨gd, x, none⟩ (.string pc)).cell? ⟨gb, m, none⟩ = some (.int .i64 (x : Nat)) := by
                      refine ⟨hXd.cp.cells.2.2.2, ?_⟩
                      have hro := hXd.row
                      have := hro.cellAt m (by omega)
                      rw [List.getElem?_map, List.getElem?_eq_getElem hmB, hxx] at this
                      exact this
                    have HS9 : Hid ((wr.drew.setCell ⟨gd, x, none⟩ (.string pc)).cell? ⟨Q, 1, none⟩ = some (.slice (some ⟨gd, 0, none⟩) F.ds.length e1) ∧ (wr.drew.setCell ⟨gd, x, none⟩ (.string pc)).cell? ⟨gb, m, none⟩ = some (.int .i64 (x : Nat))) := hss
                    clear hss hX9 hXd hxx HBL HPN hpc HX p0 p1 q0 q1 hcx
                    generalize (putN BK d DS m)[x] = dd at *
                    clear hcl hlb2
                    go_upto_region 24 with fail
                    refine wp_region_noPanic ?_
                    refine wp_region_held_drew (S := (fun W => W.cell? ⟨Q, 1, none⟩ = some (.slice (some ⟨gd, 0, none⟩) F.ds.length e1) ∧ W.cell? ⟨gb, m, none⟩ = some (.int .i64 (x : Nat)))) (by kernel_rfl) HSS.out (fun hT => ?_)
                    clear hT
                    refine held_take (i := 0) (v := .pointer (some ⟨Q, 1, none⟩)) rfl rfl (by kernel_rfl) (by kernel_rfl) (by kernel_rfl) (by kernel_rfl) (fun W hS => by go_simp) HSS.out ?_
                    simp only [Act.put, List.setIfInBounds_toArray, List.set_cons_zero, List.set_cons_succ]
                    refine held_take (i := 1) (v := .slice (some ⟨gd, 0, none⟩) F.ds.length e1) rfl rfl (by kernel_rfl) (by kernel_rfl) (by kernel_rfl) (by kernel_rfl) (fun W hS => by obtain ⟨hs0, hs1⟩ := hS; go_simp) HSS.out ?_
                    simp only [Act.put, List.setIfInBounds_toArray, List.set_cons_zero, List.set_cons_succ]
                    refine held_take (i := 2) (v := .slice (some ⟨gb, 0, none⟩) BK.length cv) rfl rfl (by kernel_rfl) (by kernel_rfl) (by kernel_rfl) (by kernel_rfl) (fun W hS => by go_simp) HSS.out ?_
                    simp only [Act.put, List.setIfInBounds_toArray, List.set_cons_zero, List.set_cons_succ]
                    refine held_take (i := 3) (v := .int .i64 (m : Nat)) rfl rfl (by kernel_rfl) (by kernel_rfl) (by kernel_rfl) (by kernel_rfl) (fun W hS => by go_simp) HSS.out ?_
                    simp only [Act.put, List.setIfInBounds_toArray, List.set_cons_zero, List.set_cons_succ]
                    refine held_take (i := 4) (v := .pointer (some ⟨gb, m, none⟩)) rfl rfl (by kernel_rfl) (by kernel_rfl) (by kernel_rfl) (by kernel_rfl) (fun W hS => by go_simp) HSS.out ?_
                    simp only [Act.put, List.setIfInBounds_toArray, List.set_cons_zero, List.set_cons_succ]
                    refine held_take (i := 5) (v := .int .i64 (x : Nat)) rfl rfl (by kernel_rfl) (by kernel_rfl) (by kernel_rfl) (by kernel_rfl) (fun W hS => by obtain ⟨hs0, hs1⟩ := hS; go_simp) HSS.out ?_
                    simp only [Act.put, List.setIfInBounds_toArray, List.set_cons_zero, List.set_cons_succ]
                    refine held_take (i := 6) (v := .string d) rfl rfl (by kernel_rfl) (by kernel_rfl) (by kernel_rfl) (by kernel_rfl) (fun W hS => by go_simp) HSS.out ?_
                    simp only [Act.put, List.setIfInBounds_toArray, List.set_cons_zero, List.set_cons_succ]
                    refine held_take (i := 7) (v := .int .i64 ((m : Int) * 16)) rfl rfl (by kernel_rfl) (by kernel_rfl) (by kernel_rfl) (by kernel_rfl) (fun W hS => by go_simp) HSS.out ?_
                    simp only [Act.put, List.setIfInBounds_toArray, List.set_cons_zero, List.set_cons_succ]
                    refine held_take (i := 8) (v := .int .i64 ((m : Int) * 16)) rfl rfl (by kernel_rfl) (by kernel_rfl) (by kernel_rfl) (by kernel_rfl) (fun W hS => by go_simp) HSS.out ?_
                    simp only [Act.put, List.setIfInBounds_toArray, List.set_cons_zero, List.set_cons_succ]
                    refine held_take (i := 9) (v := .string d) rfl rfl (by kernel_rfl) (by kernel_rfl) (by kernel_rfl) (by kernel_rfl) (fun W hS => by go_simp) HSS.out ?_
                    simp only [Act.put, List.setIfInBounds_toArray, List.set_cons_zero, List.set_cons_succ]
                    refine held_take (i := 10) (v := .int .i64 (d.size : Nat)) rfl rfl (by kernel_rfl) (by kernel_rfl) (by kernel_rfl) (by kernel_rfl) (fun W hS => by go_simp) HSS.out ?_
                    simp only [Act.put, List.setIfInBounds_toArray, List.set_cons_zero, List.set_cons_succ]
                    refine held_take (i := 11) (v := .int .i64 (m : Nat)) rfl rfl (by kernel_rfl) (by kernel_rfl) (by kernel_rfl) (by kernel_rfl) (fun W hS => by go_simp) HSS.out ?_
                    simp only [Act.put, List.setIfInBounds_toArray, List.set_cons_zero, List.set_cons_succ]
                    refine wpAnyH_ready (rs := [12]) (by kernel_rfl) (by simp) (AllReadyH.cons rfl (fun K hK => ?_) AllReadyH.nil)
                    go_simp
                    refine (HLO.out _).mono ?_
                    rintro e w9 ⟨rfl, hw9⟩
                    subst w9
                    refine hK.out _ _ HSS.out (fun hT => ?_)
                    clear hK K hT
                    try simp only [Act.put, List.setIfInBounds_toArray, List.set_cons_zero, List.set_cons_succ]
                    refine held_take (i := 13) (v := .int .i64 ((m : Int) * 16 + lb)) rfl rfl (by kernel_rfl) (by kernel_rfl) (by kernel_rfl) (by kernel_rfl) (fun W hS => by go_simp) HSS.out ?_
                    simp only [Act.put, List.setIfInBounds_toArray, List.set_cons_zero, List.set_cons_succ]
                    refine held_take (i := 14) (v := .string pc) rfl rfl (by kernel_rfl) (by kernel_rfl) (by kernel_rfl) (by kernel_rfl) (fun W hS => by go_simp) HSS.out ?_
                    simp only [Act.put, List.setIfInBounds_toArray, List.set_cons_zero, List.set_cons_succ]
                    refine held_take (i := 15) (v := .pointer (some ⟨gd, x, none⟩)) rfl rfl (by kernel_rfl) (by kernel_rfl) (by kernel_rfl) (by kernel_rfl) (fun W hS => by go_simp) HSS.out ?_
                    simp only [Act.put, List.setIfInBounds_toArray, List.set_cons_zero, List.set_cons_succ]
                    refine wpAnyH_ready (rs := [16]) (by kernel_rfl) (by simp) (AllReadyH.cons rfl (fun K hK => ?_) AllReadyH.nil)
                    go_simp
                    refine hK.out _ _ HS9.out (fun hT => ?_)
                    clear hK K hT
                    try simp only [Act.put, List.setIfInBounds_toArray, List.set_cons_zero, List.set_cons_succ]
                    refine wpAnyH_done (by kernel_rfl) ?_ _
                    simp only [NoPanic]
                    clear HSS HS9 hcd hfd hsl hwr HLO
                    go_wp2
                    go_roundw
                    case rel => exact ⟨m + 1, by omega, by go_num, HX9⟩
                    case measure => simp [intOf]; omega
                  · obtain rfl : m = needN d := by omega
                    have hkM : k < M.length := by omega
                    have hMk : M[k].1 = F.ns[k] := by simp only [← HM.out, List.getElem_map]
                    obtain ⟨p0, p1, q0, q1⟩ := HX.out.cp.cells
                    have d3 := (HX.out.cp.mu.celln hkM).2.2.2.1
                    have d4 := (HX.out.cp.mu.celln hkM).2.2.2.2
                    have f3 := HX.out.cp.mu.fz (k * 5 + 3)
                    have f4 := HX.out.cp.mu.fz (k * 5 + 4)
                    have hfin := HX.out.fin hkM d.size
                    rw [hMk] at hfin d3
                    have HFI : Hid (CpM w ((wr.setCell ⟨g, k * 5 + 3, none⟩ (.int .i64 (d.size : Nat))).setCell ⟨g, k * 5 + 4, none⟩ (.slice av BK.length cv)) (some ⟨g0, off0, none⟩) b F.ns.length ca F.ds.length cb Q g gd F.ns.length F.ds.length c1 e1 (M.set k (⟨F.ns[k].k, F.ns[k].g, F.ns[k].t, (d.size : Nat), BK⟩, .slice av BK.length cv)) (putN BK d DS (needN d))) := hfin
                    have HMM : Hid ((M.set k ((⟨F.ns[k].k, F.ns[k].g, F.ns[k].t, (d.size : Nat), BK⟩ : NodeD), .slice av BK.length cv)).map (·.1) = F.ns.set k ⟨F.ns[k].k, F.ns[k].g, F.ns[k].t, (d.size : Nat), BK⟩) := by show _ = _; rw [List.map_set, HM.out]
                    clear hfin HX hMk
                    generalize M[k].2 = uk at *
                    go_upto_region 27 with fail
                    clear p0 p1 q0 q1 d3 d4 f3 f4
                    generalize (wr.setCell ⟨g, k * 5 + 3, none⟩ (.int .i64 (d.size : Nat))).setCell ⟨g, k * 5 + 4, none⟩ (.slice av BK.length cv) = W9 at *
                    have HF : Hid (CpF w W9 (some ⟨g0, off0, none⟩) b F.ns.length ca F.ds.length cb Q (.slice (some ⟨g, 0, none⟩) F.ns.length c1) (.slice (some ⟨gd, 0, none⟩) F.ds.length e1) ⟨F.ns.set k ⟨F.ns[k].k, F.ns[k].g, F.ns[k].t, (d.size : Nat), BK⟩, putN BK d DS (needN d)⟩) := HFI.out.toF HMM.out rfl
                    clear HFI HMM
                    obtain ⟨_, _, r0, r1, q0, q1, z0, z1⟩ := HF.out.cells
                    have hfar := HF.out.far
                    have HDN : Hid _ := HF.out.done
                    go_wp2
                    refine bodyPost_ret (res_fs1 rfl _ _ (w.heap.size + 1) 31 #[.slice (some ⟨g, 0, none⟩) F.ns.length c1, .slice (some ⟨gd, 0, none⟩) F.ds.length e1] _ rfl HDN.out.1 Try.underlying31 rfl Try.sizeFs) rfl ?_
                    exact ⟨_, by rw [HOK.out]; rfl, by rw [HDD.out]; exact HDN.out.2.1, HDN.out.2.2⟩
              · skip
                have hX0 := HX.out
                rw [hfull, List.take_of_length_le (by omega)] at hX0
                obtain ⟨hk1, hk2⟩ := HNOO.out hle
                have HOK : Hid (wrOk F (k : Int) d = false) := hk1
                have HDD : Hid (wrD F (k : Int) d = F) := hk2
                obtain ⟨av, cv, rfl⟩ := ownSliceD hX0.row
                have hlen : (allW F (k : Int)).length < needN d := by omega
                have HX0 : Hid (WrInv w wr (some ⟨g0, off0, none⟩) b F.ns.length ca F.ds.length cb Q g gd F.ns.length F.ds.length c1 e1 M DS (.slice (some ⟨gu, 0, none⟩) (F.ds.length + 1) cu) (F.ds.length + 1) (usedL F.ds.length (allB F.ns)) B (.slice av (allW F (k : Int)).length cv) (allW F (k : Int))) := hX0
                clear hX0 HX hk1 hk2 hfull HYE HNOO HWF HMEM HUSD hle
                generalize (allW F (k : Int)) = AL at *
                go_wp2_with fail
                refine (HCQ.out _ HX0.out.cp.bel).mono ?_
                rintro e w5 ⟨u, rfl, ho, hb⟩
                obtain ⟨a5, c5, b5, e5, rfl⟩ := ho.lay
                have hr := HX0.out.cp.res.new hb
                have r0 := hr.cell 0
                have r1 := hr.cell 1
                have z0 := hr.frozen 0
                have z1 := hr.frozen 1
                simp at r0 r1
                have hbw := HX0.out.cp.bel.trans (hb.mono HX0.out.cp.bel.size)
                have hO : Only (fun q => q = w.heap.size + 1) w5 ((w5.setCell ⟨w.heap.size + 1, 0, none⟩ (.slice a5 F.ns.length c5)).setCell ⟨w.heap.size + 1, 1, none⟩ (.slice b5 F.ds.length e5)) := (Only.setCell (S := fun q => q = w.heap.size + 1) (Only.refl _ _) (p := ⟨w.heap.size + 1, 0, none⟩) rfl _).setCell (p := ⟨w.heap.size + 1, 1, none⟩) rfl _
                have hv := (hr.set 0 (.slice a5 F.ns.length c5)).set 1 (.slice b5 F.ds.length e5)
                simp at hv
                have hsz := HX0.out.siz
                have hfr := HX0.out.far
                have HDN : Hid (Var ((w5.setCell ⟨w.heap.size + 1, 0, none⟩ (.slice a5 F.ns.length c5)).setCell ⟨w.heap.size + 1, 1, none⟩ (.slice b5 F.ds.length e5)) (w.heap.size + 1) #[.slice a5 F.ns.length c5, .slice b5 F.ds.length e5] 31 ∧ OwnFs ((w5.setCell ⟨w.heap.size + 1, 0, none⟩ (.slice a5 F.ns.length c5)).setCell ⟨w.heap.size + 1, 1, none⟩ (.slice b5 F.ds.length e5)) w.heap.size ((w5.setCell ⟨w.heap.size + 1, 0, none⟩ (.slice a5 F.ns.length c5)).setCell ⟨w.heap.size + 1, 1, none⟩ (.slice b5 F.ds.length e5)).heap.size (.agg #[.slice a5 F.ns.length c5, .slice b5 F.ds.length e5]) F ∧ Below w.heap.size w ((w5.setCell ⟨w.heap.size + 1, 0, none⟩ (.slice a5 F.ns.length c5)).setCell ⟨w.heap.size + 1, 1, none⟩ (.slice b5 F.ds.length e5))) := ⟨hv, ((ho.only hO (fun k h1 _ e => by omega)).hi hO.size).base (by omega), hbw.trans (hO.below hbw.size (fun q e => by omega))⟩
                clear hr hO hv hbw ho hb HX0 HCQ p0 p1 q0 q1
                go_wp2
                refine bodyPost_ret (res_fs1 rfl _ _ (w.heap.size + 1) 31 #[.slice a5 F.ns.length c5, .slice b5 F.ds.length e5] _ rfl HDN.out.1 Try.underlying31 rfl Try.sizeFs) rfl ?_
                exact ⟨_, by rw [HOK.out]; rfl, by rw [HDD.out]; exact HDN.out.2.1, HDN.out.2.2⟩
    · obtain ⟨hk1, hk2⟩ := wr_false (F := F) (i := i) (d := d) fun h => hds h.2.1
      have HOK : Hid (wrOk F i d = false) := hk1
      have HDD : Hid (wrD F i d = F) := hk2
      have HUS : Hid (usB F i = true) := usB_yes hu
      rw [HUS.out] at HIS
      have hdI : (80 : Int) < (d.size : Int) := by omega
      have HA := HIS
      clear hu hds hk1 hk2 HUS HNS HIS HRF HCQ
      go_enter Try.func12, Try.ntmps12
      go_wp2_with fail
      refine HCP.out.mono ?_
      rintro e w1 ⟨u, rfl, ho, hb⟩
      obtain ⟨a1, c1, b1, e1, rfl⟩ := ho.lay
      have hC := CpF.start ho hb
      have HC : Hid (CpF w (w1.alloc (.cells #[.slice a1 F.ns.length c1, .slice b1 F.ds.length e1] 31)) a b F.ns.length ca F.ds.length cb w1.heap.size (.slice a1 F.ns.length c1) (.slice b1 F.ds.length e1) F) := hC
      obtain ⟨p0, p1, _, _, _, _, _, _⟩ := hC.cells
      clear ho hb hC HCP
      go_wp2_with fail
      refine (HA.out _ HC.out.bel).mono ?_
      rintro e w2 ⟨rfl, hb2⟩
      have HF : Hid (CpF w w2 a b F.ns.length ca F.ds.length cb w1.heap.size (.slice a1 F.ns.length c1) (.slice b1 F.ds.length e1) F) := HC.out.new hb2
      clear p0 p1 hb2 HC HA
      generalize w1.heap.size = Q at *
      obtain ⟨_, _, r0, r1, q0, q1, z0, z1⟩ := HF.out.cells
      have hfar := HF.out.far
      have HDN : Hid _ := HF.out.done
      go_wp2
      refine bodyPost_ret (res_fs1 rfl _ _ (w.heap.size + 1) 31 #[.slice a1 F.ns.length c1, .slice b1 F.ds.length e1] _ rfl HDN.out.1 Try.underlying31 rfl Try.sizeFs) rfl ?_
      exact ⟨_, by rw [HOK.out]; rfl, by rw [HDD.out]; exact HDN.out.2.1, HDN.out.2.2⟩
  · obtain ⟨hk1, hk2⟩ := wr_false (F := F) (i := i) (d := d) fun h => hu h.1
    have HOK : Hid (wrOk F i d = false) := hk1
    have HDD : Hid (wrD F i d = F) := hk2
    have HUS : Hid (usB F i = false) := usB_no hu
    rw [HUS.out] at HIS
    have HA := HIS
    clear hu hk1 hk2 HUS HNS HIS HRF HCQ
    go_enter Try.func12, Try.ntmps12
    go_wp2_with fail
    refine HCP.out.mono ?_
    rintro e w1 ⟨u, rfl, ho, hb⟩
    obtain ⟨a1, c1, b1, e1, rfl⟩ := ho.lay
    have hC := CpF.start ho hb
    have HC : Hid (CpF w (w1.alloc (.cells #[.slice a1 F.ns.length c1, .slice b1 F.ds.length e1] 31)) a b F.ns.length ca F.ds.length cb w1.heap.size (.slice a1 F.ns.length c1) (.slice b1 F.ds.length e1) F) := hC
    obtain ⟨p0, p1, _, _, _, _, _, _⟩ := hC.cells
    clear ho hb hC HCP
    go_wp2_with fail
    refine (HA.out _ HC.out.bel).mono ?_
    rintro e w2 ⟨rfl, hb2⟩
    have HF : Hid (CpF w w2 a b F.ns.length ca F.ds.length cb w1.heap.size (.slice a1 F.ns.length c1) (.slice b1 F.ds.length e1) F) := HC.out.new hb2
    clear p0 p1 hb2 HC HA
    generalize w1.heap.size = Q at *
    obtain ⟨_, _, r0, r1, q0, q1, z0, z1⟩ := HF.out.cells
    have hfar := HF.out.far
    have HDN : Hid _ := HF.out.done
    go_wp2
    refine bodyPost_ret (res_fs1 rfl _ _ (w.heap.size + 1) 31 #[.slice a1 F.ns.length c1, .slice b1 F.ds.length e1] _ rfl HDN.out.1 Try.underlying31 rfl Try.sizeFs) rfl ?_
    exact ⟨_, by rw [HOK.out]; rfl, by rw [HDD.out]; exact HDN.out.2.1, HDN.out.2.2⟩
end Go.Proofs.Ytioecnfgliponaa
