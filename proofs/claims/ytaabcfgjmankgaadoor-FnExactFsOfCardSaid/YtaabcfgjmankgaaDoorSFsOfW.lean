/-
  Own text: a contract of the other program's FsOf.
-/
import Derived.Test.YtaabcfgjmankgaaDoorBunW
import Derived.Test.YtaabcfgjmankgaaDoorGrowFs
import Derived.Test.YtaabcfgjmankgaaDoorSOfB
import Derived.Test.YtaabcfgjmankgaaDoorSNodeOfW
import Derived.Test.YtaabcfgjmankgaaDoorSShapeW
import Derived.Test.YtaabcfgjmankgaaDoorSBlkW
import Derived.Test.YtaabcfgjmankgaaDoorTextsW
import Derived.Test.YtaabcfgjmankgaaDoorNodeB
namespace Go.Proofs.YtaabcfgjmankgaaDoor
open Go.RowKit

theorem own_sliceS {w : World} {base : Nat} {e : TypeId} {size : Nat} {v : Value} {n : Nat} {xs : List Value} (h : w.ownsRow base e size v n xs) : ∃ a c, v = .slice a n c := by
  rcases h.2 with ⟨rfl, h0⟩ | ⟨g, cap, cur, rfl, _⟩
  · exact ⟨none, 0, by rw [h0]⟩
  · exact ⟨_, _, rfl⟩
theorem zeroOwnS (W : World) (lo hi : Nat) : OwnFs W lo hi (.agg #[.slice none 0 0, .slice none 0 0]) zeroF :=
  ⟨_, _, rfl, ⟨[], rfl, ⟨World.ownsRow_nil _ _ _ _, by simp, by simp, (fun j hj => by cases hj), by simp⟩⟩, World.ownsRow_nil _ _ _ _, (fun j hj => by cases hj)⟩

set_option maxRecDepth 20000 in
set_option maxHeartbeats 8000000 in
theorem specFsOf (a : Option Addr) (cap : Nat) (l : List ByteArray) (w : World) (hl : l.length ≤ 1048576) (hc : l.length ≤ cap) (hs : ∀ s ∈ l, s.size ≤ 1048576) (hr : RdS w a l) :
    Calls Tryd.prog 5 #[.slice a l.length cap] w fun e w' => ∃ v, e = .returned (.tuple #[v, .bool (ofFsOk l)]) ∧ OwnFs w' w.heap.size w'.heap.size v (ofFs l) ∧ Below w.heap.size w w' := by
  obtain ⟨i2, ni, nz0, nz1, nz2⟩ := info_parts Tryd.infoNode
  have HR : Hid (∀ W, Below w.heap.size w W → RdS W a l) := fun W h => hr.below h (Nat.le_refl _)
  have HR0 : Hid (Var (w.alloc (.cells #[.slice none 0 0, .slice none 0 0] 26)) w.heap.size #[.slice none 0 0, .slice none 0 0] 26) := Var.made w _ _
  have HB0 : Hid (Below w.heap.size w (w.alloc (.cells #[.slice none 0 0, .slice none 0 0] 26))) := below1 _ _
  have HSZ : Hid (∀ s ∈ l, s.size ≤ 1048576) := hs
  clear hr hs
  by_cases h2 : l.length < 2
  · have HE : Hid (ofFs l = zeroF ∧ ofFsOk l = false) := ofFs_no fun F hF => by have := hF.len; omega
    have h2i : (l.length : Int) < 2 := by omega
    clear HR HSZ
    go_enter Tryd.func5, Tryd.ntmps5
    go_wp2
    refine bodyPost_ret (res_row1 rfl _ _ w.heap.size 26 #[.slice none 0 0, .slice none 0 0] _ rfl HR0.out Tryd.underlying26 rfl Tryd.sizeFs) rfl ?_
    exact ⟨_, by rw [HE.out.2]; rfl, by rw [HE.out.1]; exact zeroOwnS _ _ _, HB0.out⟩
  have h2i : ¬ (l.length : Int) < 2 := by omega
  obtain ⟨g, off, rfl, hg', hcd⟩ := (HR.out _ (Below.refl _ _)).cellT 0 (by omega)
  have d0 := (HB0.out.cell (p := ⟨g, off + 0, none⟩) hg').trans hcd
  have HL0 : Hid (l[0]? = some l[0]) := List.getElem?_eq_getElem (by omega)
  simp only [Nat.add_zero] at d0
  clear hcd
  generalize l[0] = s at *
  have hbl := bytesOf_len s
  by_cases h6 : s.size = 6
  · have h6i : (s.size : Int) = 6 := by omega
    obtain ⟨n, hn⟩ : ∃ n, (s[4]'(by omega)).toNat = n := ⟨_, rfl⟩
    obtain ⟨d, hd⟩ : ∃ d, (s[5]'(by omega)).toNat = d := ⟨_, rfl⟩
    have hn8 : n < 256 := by rw [← hn]; exact UInt8.toNat_lt _
    have hd8 : d < 256 := by rw [← hd]; exact UInt8.toNat_lt _
    have HK : Hid (∀ F, FsIs l F → F.ns.length = n ∧ F.ds.length = d) := by
      intro F hF
      obtain ⟨s', hs', e⟩ := hF.head
      rw [HL0.out] at hs'
      injection hs' with hs'
      rw [← hs'] at e
      have e4 := congrArg (fun x => x.getD 4 0) e
      have e5 := congrArg (fun x => x.getD 5 0) e
      have g4 : (bytesOf s).getD 4 0 = ((s[4]'(by omega)).toNat : Int) := by have hq : 4 < s.data.size := (by have : s.data.size = s.size := rfl; omega); simp [bytesOf, List.getD, Array.getElem?_eq_getElem hq]; rfl
      have g5 : (bytesOf s).getD 5 0 = ((s[5]'(by omega)).toNat : Int) := by have hq : 5 < s.data.size := (by have : s.data.size = s.size := rfl; omega); simp [bytesOf, List.getD, Array.getElem?_eq_getElem hq]; rfl
      rw [g4, hn] at e4
      rw [g5, hd] at e5
      simp at e4 e5
      omega
    have w1' : IntKind.i64.wrap (n : Int) = n := by rw [IntKind.wrap_i64]; omega
    have w2' : IntKind.i64.wrap (d : Int) = d := by rw [IntKind.wrap_i64]; omega
    have w3' : IntKind.i64.wrap (2 + (n : Int)) = 2 + n := by rw [IntKind.wrap_i64]; omega
    have w4' : IntKind.i64.wrap (2 + (n : Int) + (d : Int)) = 2 + n + d := by rw [IntKind.wrap_i64]; omega
    by_cases h7 : l.length = 2 + n + d
    rotate_left
    · have HE : Hid (ofFs l = zeroF ∧ ofFsOk l = false) := ofFs_no fun F hF => by
        have h := HK.out F hF
        have := hF.len
        omega
      have h7i : ¬ (l.length : Int) = 2 + n + d := by omega
      have h7b : ((l.length : Int) == 2 + n + d) = false := by simpa using h7i
      clear HR HSZ HL0 hbl HK h7
      go_enter Tryd.func5, Tryd.ntmps5
      go_wp2
      refine bodyPost_ret (res_row1 rfl _ _ w.heap.size 26 #[.slice none 0 0, .slice none 0 0] _ rfl HR0.out Tryd.underlying26 rfl Tryd.sizeFs) rfl ?_
      exact ⟨_, by rw [HE.out.2]; rfl, by rw [HE.out.1]; exact zeroOwnS _ _ _, HB0.out⟩
    have h7i : (l.length : Int) = 2 + n + d := by omega
    have h7b : ((l.length : Int) == 2 + n + d) = true := by simpa using h7i
    clear h7i
    obtain ⟨o, c', hcut, ho⟩ := cutT g off cap l.length (2 + n) (by omega) hc
    have hDl : (l.drop (2 + n)).length = l.length - (2 + n) := List.length_drop
    rw [show ((2 + n : Nat) : Int) = 2 + (n : Int) by omega] at hcut
    obtain ⟨DL, hDL⟩ : ∃ DL, l.length - (2 + n) = DL := ⟨_, rfl⟩
    have hcp := copyT (some ⟨g, o, none⟩) c' (l.drop (2 + n)) (w.alloc (.cells #[.slice none 0 0, .slice none 0 0] 26)) (by simp; omega) (rdS_cut (HR.out _ HB0.out) (2 + n) ho)
    rw [hDl, hDL] at hcp
    rw [hDL] at hcut hDl
    have HCP : Hid (Calls Tryd.prog 13 #[.slice (some ⟨g, o, none⟩) DL c'] (w.alloc (.cells #[.slice none 0 0, .slice none 0 0] 26)) fun e w' => ∃ v, e = .returned v ∧ w'.ownsRow (w.alloc (.cells #[.slice none 0 0, .slice none 0 0] 26)).heap.size 9 1 v DL ((l.drop (2 + n)).map Value.string) ∧ Below (w.alloc (.cells #[.slice none 0 0, .slice none 0 0] 26)).heap.size (w.alloc (.cells #[.slice none 0 0, .slice none 0 0] 26)) w') := hcp
    have HDL : Hid (DL ≤ 1048576) := by show _ ≤ _; omega
    have HDE : Hid ((readF l n).ds.length = DL) := hDl
    have HT : Hid ((ofFsOk l = (shOk (readF l n) && decide (fsBl (readF l n) = l))) ∧ (ofFsOk l = true → ofFs l = readF l n) ∧ (ofFsOk l = false → ofFs l = zeroF)) := told fun F hF => (HK.out F hF).1
    have HSMF : Hid (SmF (readF l n)) := smF_read n hl HSZ.out
    have HFD : Hid ((readF l n).ds = l.drop (2 + n)) := rfl
    have HFL : Hid ((readF l n).ns.length = n) := by
      show ((((l.drop 2).take n).map ofN).length = n)
      simp
      omega
    have hle : 2 + n ≤ l.length := by omega
    have HND : Hid (∀ i (hi : i < n), (readF l n).ns.take (i + 1) = (readF l n).ns.take i ++ [ofN (l[2 + i]'(Nat.lt_of_lt_of_le (Nat.add_lt_add_left hi 2) hle))] ∧ (ofOk (l[2 + i]'(Nat.lt_of_lt_of_le (Nat.add_lt_add_left hi 2) hle)) = false → ofFs l = zeroF ∧ ofFsOk l = false)) := by
      intro i hi
      have hlt : i < (readF l n).ns.length := by rw [HFL.out]; exact hi
      refine ⟨?_, fun hno => ofFs_no fun F hF => ?_⟩
      · have e : (readF l n).ns[i]? = some (ofN (l[2 + i]'(Nat.lt_of_lt_of_le (Nat.add_lt_add_left hi 2) hle))) := by
          show (((l.drop 2).take n).map ofN)[i]? = _
          rw [List.getElem?_map, List.getElem?_take_of_lt hi, List.getElem?_drop, List.getElem?_eq_getElem (by omega)]
          rfl
        rw [List.getElem?_eq_getElem hlt] at e
        injection e with e
        rw [List.take_succ_eq_append_getElem hlt, e]
      · obtain ⟨s', h1, h2⟩ := hF.node (i := i) (by rw [(HK.out F hF).1]; exact hi)
        rw [List.getElem?_eq_getElem (by omega)] at h1
        injection h1 with h1
        rw [h1] at hno
        rw [hno] at h2
        cases h2
    clear hDl hDL hcp ho hbl HL0 HK h7
    go_enter Tryd.func5, Tryd.ntmps5
    go_wp2_with fail
    refine HCP.out.mono ?_
    rintro e w1 ⟨vd, rfl, hod, hb1⟩
    have hz1 : w.heap.size + 1 ≤ w1.heap.size := by have := hb1.size; simpa using this
    obtain ⟨ad, cd, rfl⟩ := own_sliceS hod
    have HG0 : Hid (GrInv w (w1.alloc (.cells #[.slice none 0 0, .slice ad DL cd] 26)) w1.heap.size (.slice none 0 0) (.slice ad DL cd) [] (readF l n).ds) := by
      refine ⟨(HR0.out.new hb1).alloc _, Var.made w1 _ _, ⟨World.ownsRow_nil _ _ _ _, by simp, by simp, (fun j hj => by cases hj), by simp⟩, ?_, (HB0.out.trans (hb1.mono HB0.out.size)).alloc (by omega) _, by omega⟩
      rw [HDE.out, HFD.out]
      have h9 := ownsRow_below hod (below1 w1 (.cells #[.slice none 0 0, .slice ad DL cd] 26)) (Nat.le_refl _)
      rw [show (w.alloc (.cells #[.slice none 0 0, .slice none 0 0] 26)).heap.size = w.heap.size + 1 by simp] at h9
      exact h9
    generalize hQQ : w1.heap.size = Q at *
    clear HCP hod hb1 hcut HR0 HB0 d0
    go_wp2
    go_loopw [7] (fun j wr => ∃ (k : Nat) (vn : Value) (M : List NodeU), j = .int .i64 k ∧ k ≤ n ∧ Hid (M.map (·.1) = (readF l n).ns.take k) ∧ Hid (GrInv w wr Q vn (.slice ad DL cd) M (readF l n).ds)) (fun j _ => n - (intOf j).toNat)
    case atStart => exact ⟨0, .slice none 0 0, [], rfl, by omega, by rfl, HG0⟩
    case round =>
      clear HG0
      obtain ⟨k, vn, M, rfl, hk, HM, HG⟩ := hrel
      by_cases hlt : k < n
      · obtain ⟨g', off', he, hg2, hcell⟩ := (HR.out _ HG.out.bel).cellT (2 + k) (by omega)
        injection he with he
        injection he with e1 e2 _
        subst e1 e2
        have hk2 : 2 + k < l.length := by omega
        have hsz := HSZ.out _ (List.getElem_mem hk2)
        obtain ⟨hT1, hT2⟩ := HND.out k hlt
        have d0 := hcell
        have a0 : IntKind.i64.wrap (2 + (k : Int)) = 2 + (k : Int) := by rw [IntKind.wrap_i64]; omega
        have a1 : (2 + (k : Int)).toNat = 2 + k := by omega
        have a2 : (0 : Int) ≤ 2 + (k : Int) := by omega
        have a3 : 2 + (k : Int) < (l.length : Int) := by omega
        have HT1 : Hid ((readF l n).ns.take (k + 1) = (readF l n).ns.take k ++ [ofN (l[2 + k]'hk2)]) := hT1
        clear hT1 hcell
        generalize l[2 + k]'hk2 = s at *
        have HNO : Hid (Calls Tryd.prog 14 #[.string s] wr fun e w' => ∃ v, e = .returned (.tuple #[v, .bool (ofOk s)]) ∧ OwnN w' wr.heap.size v (ofN s) ∧ Below wr.heap.size wr w') := specNodeOf s wr hsz
        have HZ : Hid (ofOk s = false → ofFs l = zeroF ∧ ofFsOk l = false) := hT2
        clear hT2
        go_wp2_with fail
        refine HNO.out.mono ?_
        clear HNO d0 a0 a1 a2 a3
        rintro e w2 ⟨v, rfl, ho, hb2⟩
        generalize ofOk s = q at *
        generalize ofN s = N at *
        obtain ⟨av, cv, rfl⟩ := ho.lay
        have hrow : w2.ownsRow wr.heap.size 3 1 (.slice av N.b.length cv) N.b.length (N.b.map (Value.int .i64)) := by
          obtain ⟨u, hu, h⟩ := ho
          unfold aggN at hu
          simp at hu
          rw [hu]
          exact h
        have hG2 := (HG.out.new hb2).new (below1 w2 (.cells #[.int .i64 N.k, .int .i64 N.g, .int .i64 N.t, .int .i64 N.s, .slice av N.b.length cv] 36))
        cases q with
        | false =>
          have HE : Hid (ofFs l = zeroF ∧ ofFsOk l = false) := HZ.out rfl
          have HG2 : Hid (GrInv w (w2.alloc (.cells #[.int .i64 N.k, .int .i64 N.g, .int .i64 N.t, .int .i64 N.s, .slice av N.b.length cv] 36)) Q vn (.slice ad DL cd) M (readF l n).ds) := hG2
          have r0 := HG2.out.res.cell 0
          have r1 := HG2.out.res.cell 1
          have q0 := HG2.out.res.frozen 0
          have q1 := HG2.out.res.frozen 1
          simp at r0 r1
          have HR9 : Hid (Var (((w2.alloc (.cells #[.int .i64 N.k, .int .i64 N.g, .int .i64 N.t, .int .i64 N.s, .slice av N.b.length cv] 36)).setCell ⟨w.heap.size, 0, none⟩ (.slice none 0 0)).setCell ⟨w.heap.size, 1, none⟩ (.slice none 0 0)) w.heap.size #[.slice none 0 0, .slice none 0 0] 26) := (HG2.out.res.set 0 (.slice none 0 0)).set 1 (.slice none 0 0)
          have HB9 : Hid (Below w.heap.size w (((w2.alloc (.cells #[.int .i64 N.k, .int .i64 N.g, .int .i64 N.t, .int .i64 N.s, .slice av N.b.length cv] 36)).setCell ⟨w.heap.size, 0, none⟩ (.slice none 0 0)).setCell ⟨w.heap.size, 1, none⟩ (.slice none 0 0))) := (HG2.out.bel.setCell (p := ⟨w.heap.size, 0, none⟩) (Nat.le_refl _) (.slice none 0 0)).setCell (p := ⟨w.heap.size, 1, none⟩) (Nat.le_refl _) (.slice none 0 0)
          clear HG2 hG2 HG HM hrow ho hb2 HZ HT1 HT HND HFD HFL HSMF HSZ HR
          go_wp2
          refine bodyPost_ret (res_row1 rfl _ _ w.heap.size 26 #[.slice none 0 0, .slice none 0 0] _ rfl HR9.out Tryd.underlying26 rfl Tryd.sizeFs) rfl ?_
          exact ⟨_, by rw [HE.out.2]; rfl, by rw [HE.out.1]; exact zeroOwnS _ _ _, HB9.out⟩
        | true =>
          have hV2 := Var.made w2 #[.int .i64 N.k, .int .i64 N.g, .int .i64 N.t, .int .i64 N.s, .slice av N.b.length cv] 36
          have hr2 := ownsRow_below hrow (below1 w2 (.cells #[.int .i64 N.k, .int .i64 N.g, .int .i64 N.t, .int .i64 N.s, .slice av N.b.length cv] 36)) (Nat.le_refl _)
          have hlow : ∀ y ∈ M, ∀ j, blk y.2 j → ¬ blk (.slice av N.b.length cv) j := fun y hy j h1 h2 => by
            have e1 := HG.out.nod.low y hy j h1
            have e2 := (hrow.lt j h2).1
            omega
          have hlo : w.heap.size + 1 ≤ wr.heap.size := HG.out.size
          have hMl : M.length ≤ 1048576 := by
            have := congrArg List.length HM.out
            simp at this
            omega
          have m0 := hV2.cell 0
          have m1 := hV2.cell 1
          have m2 := hV2.cell 2
          have m3 := hV2.cell 3
          have m4 := hV2.cell 4
          have x0 := hG2.var.cell 0
          simp at m0 m1 m2 m3 m4 x0
          have HLOW : Hid (∀ y ∈ M, ∀ j, blk y.2 j → ¬ blk (.slice av N.b.length cv) j) := hlow
          have hG3 := hG2.new (below1 _ (.cells #[.int .i64 N.k, .int .i64 N.g, .int .i64 N.t, .int .i64 N.s, .slice av N.b.length cv] 36))
          have hr3 := ownsRow_base (ownsRow_below hr2 (below1 _ (.cells #[.int .i64 N.k, .int .i64 N.g, .int .i64 N.t, .int .i64 N.s, .slice av N.b.length cv] 36)) (Nat.le_refl _)) hlo
          have hS3 := srcNode (w2.alloc (.cells #[.int .i64 N.k, .int .i64 N.g, .int .i64 N.t, .int .i64 N.s, .slice av N.b.length cv] 36)) N av N.b.length cv
          rw [show (w2.alloc (.cells #[.int .i64 N.k, .int .i64 N.g, .int .i64 N.t, .int .i64 N.s, .slice av N.b.length cv] 36)).heap.size = w2.heap.size + 1 by simp] at hS3
          have HS3 : Hid (Src Tryd.prog 5 24 (.slice (some ⟨w2.heap.size + 1, 0, none⟩) 1 1) 1 (encU (N, .slice av N.b.length cv)) ((w2.alloc (.cells #[.int .i64 N.k, .int .i64 N.g, .int .i64 N.t, .int .i64 N.s, .slice av N.b.length cv] 36)).alloc (.cells #[.int .i64 N.k, .int .i64 N.g, .int .i64 N.t, .int .i64 N.s, .slice av N.b.length cv] 36))) := hS3
          have HG3 : Hid (GrInv w ((w2.alloc (.cells #[.int .i64 N.k, .int .i64 N.g, .int .i64 N.t, .int .i64 N.s, .slice av N.b.length cv] 36)).alloc (.cells #[.int .i64 N.k, .int .i64 N.g, .int .i64 N.t, .int .i64 N.s, .slice av N.b.length cv] 36)) Q vn (.slice ad DL cd) M (readF l n).ds) := hG3
          have HR3 : Hid (((w2.alloc (.cells #[.int .i64 N.k, .int .i64 N.g, .int .i64 N.t, .int .i64 N.s, .slice av N.b.length cv] 36)).alloc (.cells #[.int .i64 N.k, .int .i64 N.g, .int .i64 N.t, .int .i64 N.s, .slice av N.b.length cv] 36)).ownsRow (w.heap.size + 1) 3 1 (.slice av N.b.length cv) N.b.length (N.b.map (Value.int .i64))) := hr3
          have HM2 : Hid ((M ++ [(N, (Value.slice av N.b.length cv))]).map (·.1) = (readF l n).ns.take (k + 1)) := by show _ = _; rw [HT1.out, List.map_append, HM.out]; rfl
          obtain ⟨avn, cvn, rfl⟩ := own_sliceS HG.out.nod.row
          clear hlow hS3 hG3 hr3 hr2 hV2 hG2 hrow ho HG HM hb2 HT1 HZ
          go_wp2_with (at_builtin; refine wpList_append_own_src _ rfl (.tmp 63) (.tmp 65) 24 24 rfl (w.heap.size + 1) 36 i2 _ 5 56 Tryd.underlying24 ni nz0 nz1 nz2 rfl _ _ _ rfl HG3.out.nod.row _ 1 (encU (N, .slice av N.b.length cv)) rfl HS3.out (by unfold maxLen; omega) (by omega) HG3.out.size ?_)
          intro v5 w5 ho5 hg5
          obtain ⟨a5, c5, rfl⟩ := own_sliceS ho5
          have HN5 : Hid (GrInv w (w5.setCell ⟨Q, 0, none⟩ (.slice a5 (M.length + 1) c5)) Q (.slice a5 (M.length + 1) c5) (.slice ad DL cd) (M ++ [(N, .slice av N.b.length cv)]) (readF l n).ds) := HG3.out.node HR3.out HLOW.out ho5 hg5
          have y2 := (HG3.out.varNode hg5).cell 0
          simp at y2
          have z2 := (HG3.out.varNode hg5).frozen 0
          clear HG3 HS3 HR3 HLOW ho5 hg5 m0 m1 m2 m3 m4 x0
          go_wp2
          go_roundw
          case rel => exact ⟨k + 1, _, M ++ [(N, .slice av N.b.length cv)], by go_num, by omega, HM2, HN5⟩
          case measure => simp [intOf]; omega
      obtain rfl : k = n := by omega
      have hM2 : M.map (·.1) = (readF l k).ns := by
        have := HM.out
        rw [List.take_of_length_le (by rw [HFL.out]; exact Nat.le_refl _)] at this
        exact this
      have HM2 : Hid (M.map (·.1) = (readF l k).ns) := hM2
      clear hM2 HM HND HFD HFL HSZ
      generalize readF l k = F at *
      obtain ⟨avn, cvn, rfl⟩ := own_sliceS HG.out.nod.row
      have x0 := HG.out.var.cell 0
      have x1 := HG.out.var.cell 1
      simp at x0 x1
      go_wp2_with fail
      refine (specShapeOk _ F _ HSMF.out (HG.out.own HM2.out).rd).mono ?_
      clear x0 x1
      rintro e w3 ⟨rfl, hb3⟩
      have HG3 : Hid (GrInv w w3 Q (.slice avn M.length cvn) (.slice ad DL cd) M F.ds) := HG.out.new hb3
      clear HG hb3
      obtain ⟨q, hq⟩ : ∃ q, shOk F = q := ⟨_, rfl⟩
      rw [hq]
      cases q with
      | false =>
        have HE : Hid (ofFs l = zeroF ∧ ofFsOk l = false) := by
          show _ ∧ _
          have h1 := HT.out.1
          rw [hq, Bool.false_and] at h1
          exact ⟨HT.out.2.2 h1, h1⟩
        have r0 := HG3.out.res.cell 0
        have r1 := HG3.out.res.cell 1
        have q0 := HG3.out.res.frozen 0
        have q1 := HG3.out.res.frozen 1
        simp at r0 r1
        have HR9 : Hid (Var ((w3.setCell ⟨w.heap.size, 0, none⟩ (.slice none 0 0)).setCell ⟨w.heap.size, 1, none⟩ (.slice none 0 0)) w.heap.size #[.slice none 0 0, .slice none 0 0] 26) := (HG3.out.res.set 0 (.slice none 0 0)).set 1 (.slice none 0 0)
        have HB9 : Hid (Below w.heap.size w ((w3.setCell ⟨w.heap.size, 0, none⟩ (.slice none 0 0)).setCell ⟨w.heap.size, 1, none⟩ (.slice none 0 0))) := (HG3.out.bel.setCell (p := ⟨w.heap.size, 0, none⟩) (Nat.le_refl _) (.slice none 0 0)).setCell (p := ⟨w.heap.size, 1, none⟩) (Nat.le_refl _) (.slice none 0 0)
        clear HG3 HT HSMF HR HM2
        go_wp2
        refine bodyPost_ret (res_row1 rfl _ _ w.heap.size 26 #[.slice none 0 0, .slice none 0 0] _ rfl HR9.out Tryd.underlying26 rfl Tryd.sizeFs) rfl ?_
        exact ⟨_, by rw [HE.out.2]; rfl, by rw [HE.out.1]; exact zeroOwnS _ _ _, HB9.out⟩
      | true =>
        have HLN : Hid ((fsBl F).length ≤ 4194304) := by
          have h1 := fsBl_len (shOk_iff.1 hq)
          have h2 := HSMF.out.1
          have h3 := HSMF.out.2.2.1
          show _ ≤ _
          omega
        have x0 := HG3.out.var.cell 0
        have x1 := HG3.out.var.cell 1
        simp at x0 x1
        go_wp2_with fail
        refine (specFsBlocks _ F _ HSMF.out (HG3.out.own HM2.out).rd).mono ?_
        clear x0 x1
        rintro e w4 ⟨u, rfl, hou, hb4⟩
        have HG4 : Hid (GrInv w w4 Q (.slice avn M.length cvn) (.slice ad DL cd) M F.ds) := HG3.out.new hb4
        clear HG3 hb4
        obtain ⟨a5, c5, rfl, hl5, hr5⟩ := own_rdS hou
        clear hl5 hou
        go_wp2_with fail
        refine (textsT a5 _ c5 cap (fsBl F) l w4 HLN.out hr5 (HR.out w4 HG4.out.bel)).mono ?_
        rintro e w5 ⟨rfl, hb5⟩
        have HG5 : Hid (GrInv w w5 Q (.slice avn M.length cvn) (.slice ad DL cd) M F.ds) := HG4.out.new hb5
        clear HG4 hb5 hr5 HLN
        by_cases hfl : fsBl F = l
        · have HE : Hid (ofFsOk l = true ∧ ofFs l = F) := by
            show _ ∧ _
            have h1 := HT.out.1
            rw [hq, decide_eq_true hfl] at h1
            exact ⟨h1, HT.out.2.1 h1⟩
          rw [decide_eq_true hfl]
          clear hfl
          have x0 := HG5.out.var.cell 0
          have x1 := HG5.out.var.cell 1
          have r0 := HG5.out.res.cell 0
          have q0 := HG5.out.res.frozen 0
          have r1 := (HG5.out.res.set 0 (.slice avn M.length cvn)).cell 1
          have q1 := (HG5.out.res.set 0 (.slice avn M.length cvn)).frozen 1
          simp at x0 x1 r0 r1
          obtain ⟨hD1, hD2, hD3⟩ := HG5.out.done HM2.out
          have HD1 : Hid _ := hD1
          have HD2 : Hid _ := hD2
          have HD3 : Hid _ := hD3
          have hne : ¬ w.heap.size = Q := by have := HG5.out.far; omega
          clear HG5 HT HSMF HR HM2 hD1 hD2 hD3
          go_wp2
          refine bodyPost_ret (res_row1 rfl _ _ w.heap.size 26 #[.slice avn M.length cvn, .slice ad DL cd] _ rfl HD1.out Tryd.underlying26 rfl Tryd.sizeFs) rfl ?_
          exact ⟨_, by rw [HE.out.1]; rfl, by rw [HE.out.2]; exact HD2.out, HD3.out⟩
        · rw [decide_eq_false hfl]
          have HE : Hid (ofFs l = zeroF ∧ ofFsOk l = false) := by
            show _ ∧ _
            have h1 := HT.out.1
            rw [hq, decide_eq_false hfl, Bool.true_and] at h1
            exact ⟨HT.out.2.2 h1, h1⟩
          have r0 := HG5.out.res.cell 0
          have r1 := HG5.out.res.cell 1
          have q0 := HG5.out.res.frozen 0
          have q1 := HG5.out.res.frozen 1
          simp at r0 r1
          have HR9 : Hid (Var ((w5.setCell ⟨w.heap.size, 0, none⟩ (.slice none 0 0)).setCell ⟨w.heap.size, 1, none⟩ (.slice none 0 0)) w.heap.size #[.slice none 0 0, .slice none 0 0] 26) := (HG5.out.res.set 0 (.slice none 0 0)).set 1 (.slice none 0 0)
          have HB9 : Hid (Below w.heap.size w ((w5.setCell ⟨w.heap.size, 0, none⟩ (.slice none 0 0)).setCell ⟨w.heap.size, 1, none⟩ (.slice none 0 0))) := (HG5.out.bel.setCell (p := ⟨w.heap.size, 0, none⟩) (Nat.le_refl _) (.slice none 0 0)).setCell (p := ⟨w.heap.size, 1, none⟩) (Nat.le_refl _) (.slice none 0 0)
          clear HG5 HT HSMF HR HM2
          go_wp2
          refine bodyPost_ret (res_row1 rfl _ _ w.heap.size 26 #[.slice none 0 0, .slice none 0 0] _ rfl HR9.out Tryd.underlying26 rfl Tryd.sizeFs) rfl ?_
          exact ⟨_, by rw [HE.out.2]; rfl, by rw [HE.out.1]; exact zeroOwnS _ _ _, HB9.out⟩
  · have HE : Hid (ofFs l = zeroF ∧ ofFsOk l = false) := ofFs_no fun F hF => by
      obtain ⟨s', hs', e⟩ := hF.head
      rw [HL0.out] at hs'
      injection hs' with hs'
      rw [← hs'] at e
      have := congrArg List.length e
      simp at this
      omega
    have h6i : ¬ (s.size : Int) = 6 := by omega
    have h6b : ((s.size : Int) == 6) = false := by simpa using h6i
    clear HR HSZ HL0 hbl
    go_enter Tryd.func5, Tryd.ntmps5
    go_wp2
    refine bodyPost_ret (res_row1 rfl _ _ w.heap.size 26 #[.slice none 0 0, .slice none 0 0] _ rfl HR0.out Tryd.underlying26 rfl Tryd.sizeFs) rfl ?_
    exact ⟨_, by rw [HE.out.2]; rfl, by rw [HE.out.1]; exact zeroOwnS _ _ _, HB0.out⟩
end Go.Proofs.YtaabcfgjmankgaaDoor
