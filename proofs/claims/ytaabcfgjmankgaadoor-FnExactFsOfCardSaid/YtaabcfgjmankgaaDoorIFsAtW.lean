/-
  Own text: a contract of the program's fsAt: the branch that some blocks tell, by the number that the first of them tells.
-/
import Derived.Test.YtaabcfgjmankgaaDoorBunW
import Derived.Test.YtaabcfgjmankgaaDoorGrowFs
import Derived.Test.YtaabcfgjmankgaaDoorBlkB
import Derived.Test.YtaabcfgjmankgaaDoorCloneW
import Derived.Test.YtaabcfgjmankgaaDoorINodeOfW
import Derived.Test.YtaabcfgjmankgaaDoorHeldT
import Derived.Deep.DeepCutAuto
namespace Go.Proofs.YtaabcfgjmankgaaDoor
open Go.RowKit

theorem own_slice {w : World} {base : Nat} {e : TypeId} {size : Nat} {v : Value} {n : Nat} {xs : List Value} (h : w.ownsRow base e size v n xs) : ∃ a c, v = .slice a n c := by
  rcases h.2 with ⟨rfl, h0⟩ | ⟨g, cap, cur, rfl, _⟩
  · exact ⟨none, 0, by rw [h0]⟩
  · exact ⟨_, _, rfl⟩
theorem Good.small {b : List Int} {p : Int} {n x : Nat} (h : Good b p n x) : n ≤ 2147483647 := by
  obtain ⟨_, _, _, _, _, _, h, _⟩ := h
  exact h

set_option maxRecDepth 20000 in
set_option maxHeartbeats 8000000 in
theorem implFsAt (a : Option Addr) (cap : Nat) (l : List ByteArray) (er : Addr) (w : World) (hl : l.length ≤ 1048576) (hs : ∀ s ∈ l, s.size ≤ 1048576) (hr : RdS w a l) (he : ErrAt er w) :
    Calls Tryd.prog 18 #[.slice a l.length cap] w fun e w' => ∃ v k, e = .returned v ∧ HeadN l k ∧ OwnFs w' w.heap.size w'.heap.size v (readF l k) ∧ Below w.heap.size w w' := by
  obtain ⟨i1, gi, gz0, gz1, gz2⟩ := info_parts Tryd.infoTxt
  obtain ⟨i2, ni, nz0, nz1, nz2⟩ := info_parts Tryd.infoNode
  have HR : Hid (∀ W, Below w.heap.size w W → RdS W a l) := fun W h => hr.below h (Nat.le_refl _)
  have HE : Hid (∀ W, Below w.heap.size w W → ErrAt er W) := fun W h => he.below h
  have HSZ : Hid (∀ s ∈ l, s.size ≤ 1048576) := hs
  have HG0 : Hid (GrInv w ((w.alloc (.cells #[.slice none 0 0, .slice none 0 0] 26)).alloc (.cells #[.slice none 0 0, .slice none 0 0] 26)) (w.heap.size + 1) (.slice none 0 0) (.slice none 0 0) [] []) := by
    refine ⟨(Var.made w _ _).alloc _, ?_, ?_, World.ownsRow_nil _ _ _ _, below2 _ _ _, by omega⟩
    · have := Var.made (w.alloc (.cells #[.slice none 0 0, .slice none 0 0] 26)) #[.slice none 0 0, .slice none 0 0] 26
      simpa using this
    · exact ⟨World.ownsRow_nil _ _ _ _, by simp, by simp, (fun j hj => by cases hj), by simp⟩
  clear hr he hs
  go_enter Tryd.func18, Tryd.ntmps18
  go_wp2
  go_loopw [4, 14] (fun d j wr => ∃ (i k : Nat) (vn vd : Value) (M : List NodeU), j = .int .i64 i ∧ d = .int .i64 ((2 + k : Nat) : Int) ∧ i ≤ l.length ∧ k ≤ 2147483647 ∧ (i = 0 → k = 0) ∧ Hid (0 < i → HeadN l k) ∧ Hid (M.map (·.1) = (readF (l.take i) k).ns) ∧ Hid (GrInv w wr (w.heap.size + 1) vn vd M (readF (l.take i) k).ds)) (fun _ j _ => l.length - (intOf j).toNat)
  case atStart =>
    refine ⟨0, 0, .slice none 0 0, .slice none 0 0, [], rfl, rfl, by omega, by omega, (fun _ => rfl), (fun h => by omega), ?_, ?_⟩
    · rw [readF_nil 0 (by simp)]; rfl
    · rw [readF_nil 0 (by simp)]; exact HG0
  case round =>
    obtain ⟨i, k, vn, vd, M, rfl, rfl, hi, hk, hik, HH, HM, HG⟩ := hrel
    clear HG0
    by_cases hlt : i < l.length
    rotate_left
    · obtain rfl : i = l.length := by omega
      have hq : HeadN l k := by
        intro s hs
        rcases Nat.eq_zero_or_pos l.length with h0 | h0
        · rw [List.eq_nil_of_length_eq_zero h0] at hs; cases hs
        · exact HH.out h0 s hs
      have hM := HM.out
      have hG := HG.out
      rw [readF_all] at hM hG
      obtain ⟨an, cn, rfl⟩ := own_slice hG.nod.row
      obtain ⟨ad, cd, rfl⟩ := own_slice hG.txt
      have hm0 := hG.var.cell 0
      have hm1 := hG.var.cell 1
      have r0 := hG.res.cell 0
      have f0 := hG.res.frozen 0
      have r1 := (hG.res.set 0 (.slice an M.length cn)).cell 1
      have f1 := (hG.res.set 0 (.slice an M.length cn)).frozen 1
      simp at hm0 hm1 r0 r1
      have HD := hG.done hM
      obtain ⟨HD1, HD2, HD3⟩ := HD
      have HE1 : Hid (Var ((wr.setCell ⟨w.heap.size, 0, none⟩ (.slice an M.length cn)).setCell ⟨w.heap.size, 1, none⟩ (.slice ad (readF l k).ds.length cd)) w.heap.size #[.slice an M.length cn, (.slice ad (readF l k).ds.length cd)] 26) := HD1
      have HE2 : Hid (OwnFs ((wr.setCell ⟨w.heap.size, 0, none⟩ (.slice an M.length cn)).setCell ⟨w.heap.size, 1, none⟩ (.slice ad (readF l k).ds.length cd)) w.heap.size ((wr.setCell ⟨w.heap.size, 0, none⟩ (.slice an M.length cn)).setCell ⟨w.heap.size, 1, none⟩ (.slice ad (readF l k).ds.length cd)).heap.size (.agg #[.slice an M.length cn, (.slice ad (readF l k).ds.length cd)]) (readF l k)) := HD2
      have HE3 : Hid (Below w.heap.size w ((wr.setCell ⟨w.heap.size, 0, none⟩ (.slice an M.length cn)).setCell ⟨w.heap.size, 1, none⟩ (.slice ad (readF l k).ds.length cd))) := HD3
      clear HD1 HD2 HD3
      have HQ : Hid (HeadN l k) := hq
      clear HM HG hM hG hq HH HE HSZ HR
      go_wp2
      refine bodyPost_ret (results_cell_row rfl _ _ w.heap.size 26 #[.slice an M.length cn, (.slice ad (readF l k).ds.length cd)] (0, 0) _ rfl HE1.out Tryd.underlying26 rfl Tryd.sizeFs) rfl ?_
      exact ⟨_, k, rfl, HQ.out, HE2.out, HE3.out⟩
    obtain ⟨g, off, rfl, hg', hcd⟩ := (HR.out _ (Below.refl _ _)).cellT i hlt
    have d0 := (HG.out.bel.cell (p := ⟨g, off + i, none⟩) hg').trans hcd
    have hsz := HSZ.out _ (List.getElem_mem hlt)
    have hltI : (i : Int) < (l.length : Int) := by omega
    clear hcd
    by_cases h0 : i = 0
    · subst h0
      obtain rfl : k = 0 := hik rfl
      simp only [Nat.add_zero] at d0
      have HL0 : Hid (l[0]? = some l[0]) := List.getElem?_eq_getElem hlt
      have HR0 : Hid (∀ k, readF (l.take 0) 0 = readF (l.take (0 + 1)) k) := fun k => by rw [readF_nil 0 (by simp), readF_nil k (by simp; omega)]
      generalize l[0] = s at *
      obtain ⟨c8, W, hcv, hrd, hbW, hlW, hc1, hc2⟩ := bytes_rowN s wr hsz
      have hbl := bytesOf_len s
      have hBW : Below w.heap.size w W := HG.out.bel.trans (hbW.mono HG.out.bel.size)
      have hE := HE.out W hBW
      have HGN : Hid (Calls Tryd.prog 35 #[.slice (some ⟨wr.heap.size, 0, none⟩) (bytesOf s).length c8, .int .i64 4] W fun e w' => ((∃ n next, Good (bytesOf s) 4 n next ∧ e = .returned (.tuple #[.int .i64 (n : Nat), .int .i64 (next : Nat), .bool true])) ∨ ((∀ n next, ¬ Good (bytesOf s) 4 n next) ∧ e = .returned (.tuple #[.int .i64 0, .int .i64 0, .bool false]))) ∧ Below W.heap.size W w') := implGetNum _ c8 (bytesOf s) 4 er W ⟨by omega, bytesOf_u8 s, hc1, hc2, hrd⟩ hE.lt hE.cell
      have HGW : Hid (GrInv w W (w.heap.size + 1) vn vd M (readF (l.take 0) 0).ds) := HG.out.new hbW
      clear HG HH hrd hbW hlW hc1 hc2 hbl hBW hE
      go_wp2_with fail
      refine HGN.out.mono ?_
      clear HGN hcv
      rintro e w1 ⟨⟨n, nx, hgd, rfl⟩ | ⟨hno, rfl⟩, hb1⟩
      · have hn := hgd.small
        have HH1 : Hid (0 < 0 + 1 → HeadN l n) := fun _ s' hs' => by rw [HL0.out] at hs'; injection hs' with hs'; subst hs'; exact .inl ⟨nx, hgd⟩
        have HG1 : Hid (GrInv w w1 (w.heap.size + 1) vn vd M (readF (l.take (0 + 1)) n).ds) := by rw [← HR0.out n]; exact HGW.out.new hb1
        have HM1 : Hid (M.map (·.1) = (readF (l.take (0 + 1)) n).ns) := by rw [← HR0.out n]; exact HM.out
        clear hgd HGW HM HR0 HL0 hb1 d0
        go_wp2
        go_roundw
        case rel => exact ⟨1, n, vn, vd, M, by go_num, by go_num, by omega, by omega, by omega, HH1, HM1, HG1⟩
        case measure => simp [intOf]; omega
      · have HH1 : Hid (0 < 0 + 1 → HeadN l 0) := fun _ s' hs' => by rw [HL0.out] at hs'; injection hs' with hs'; subst hs'; exact .inr ⟨hno, rfl⟩
        have HG1 : Hid (GrInv w w1 (w.heap.size + 1) vn vd M (readF (l.take (0 + 1)) 0).ds) := by rw [← HR0.out 0]; exact HGW.out.new hb1
        have HM1 : Hid (M.map (·.1) = (readF (l.take (0 + 1)) 0).ns) := by rw [← HR0.out 0]; exact HM.out
        clear hno HGW HM HR0 HL0 hb1 d0
        go_wp2
        go_roundw
        case rel => exact ⟨1, 0, vn, vd, M, by go_num, by go_num, by omega, by omega, by omega, HH1, HM1, HG1⟩
        case measure => simp [intOf]; omega
    have b0 : ((i : Int) == 0) = false := by rw [beq_eq_false_iff_ne]; omega
    have HH1 : Hid (0 < i + 1 → HeadN l k) := fun _ => HH.out (by omega)
    clear HH hik
    by_cases h2 : 2 + k ≤ i
    · have b1 : ((2 + k : Nat) : Int) ≤ (i : Int) := by omega
      have HRT : Hid (readF (l.take (i + 1)) k = ⟨(readF (l.take i) k).ns, (readF (l.take i) k).ds ++ [l[i]]⟩) := readF_text hlt h2
      have hDl : (readF (l.take i) k).ds.length ≤ 1048576 := by show ((l.take i).drop (2 + k)).length ≤ _; simp; omega
      generalize l[i] = s at *
      have HREL : Hid (∀ v5 W5, Hid (GrInv w W5 (w.heap.size + 1) vn v5 M ((readF (l.take i) k).ds ++ [s])) → ∃ (i' k' : Nat) (vn' vd' : Value) (M' : List NodeU), Value.int .i64 ((i : Int) + 1) = .int .i64 i' ∧ Value.int .i64 ((2 + k : Nat) : Int) = .int .i64 ((2 + k' : Nat) : Int) ∧ i' ≤ l.length ∧ k' ≤ 2147483647 ∧ (i' = 0 → k' = 0) ∧ Hid (0 < i' → HeadN l k') ∧ Hid (M'.map (·.1) = (readF (l.take i') k').ns) ∧ Hid (GrInv w W5 (w.heap.size + 1) vn' vd' M' (readF (l.take i') k').ds)) := by
        intro v5 W5 h
        refine ⟨i + 1, k, vn, v5, M, by go_num, rfl, by omega, hk, by omega, HH1, ?_, ?_⟩
        · rw [HRT.out]; exact HM.out
        · rw [HRT.out]; exact h
      clear HM HRT HH1 HE HSZ HR
      generalize (readF (l.take i) k).ds = D at *
      go_upto_region 10 with fail
      clear d0
      refine wp_region_noPanic ?_
      refine wp_region_held_drew (S := fun _ => True) (by kernel_rfl) trivial (fun hT => ?_)
      clear hT
      have HGd : Hid (GrInv w wr.drew (w.heap.size + 1) vn vd M D) := HG.out.new ((Below.refl _ _).drew)
      clear HG
      have HG := HGd
      clear HGd
      generalize wr.drew = WD at *
--GEN
      refine held_take (i := 0) (v := .pointer (some ⟨w.heap.size + 1, 1, none⟩)) rfl rfl (by kernel_rfl) (by kernel_rfl) (by kernel_rfl) (by kernel_rfl) (fun W _ => by go_simp) trivial ?_
      simp only [Act.put, List.setIfInBounds_toArray, List.set_cons_zero, List.set_cons_succ]
      refine held_take (i := 2) (v := .string s) rfl rfl (by kernel_rfl) (by kernel_rfl) (by kernel_rfl) (by kernel_rfl) (fun W _ => by go_simp) trivial ?_
      simp only [Act.put, List.setIfInBounds_toArray, List.set_cons_zero, List.set_cons_succ]
      refine wpAnyH_ready (rs := [1, 3]) (by kernel_rfl) (by simp) (AllReadyH.cons rfl (fun K hK => ?_) (AllReadyH.cons rfl (fun K hK => ?_) AllReadyH.nil))
      · skip
        have y1 := HG.out.var.cell 1
        simp at y1
        go_simp
        refine hK.out _ _ trivial (fun hT => ?_)
        clear hK K hT
        try simp only [Act.put, List.setIfInBounds_toArray, List.set_cons_zero, List.set_cons_succ]
        clear y1
        refine wpAnyH_ready (rs := [3]) (by kernel_rfl) (by simp) (AllReadyH.cons rfl (fun K hK => ?_) AllReadyH.nil)
        go_simp
        refine (cloneT s _ (by omega)).mono ?_
        rintro e w2 ⟨rfl, hbc⟩
        have HGn : Hid (GrInv w w2 (w.heap.size + 1) vn vd M D) := HG.out.new hbc
        refine hK.out _ _ trivial (fun hT => ?_)
        clear hK K hT
        try simp only [Act.put, List.setIfInBounds_toArray, List.set_cons_zero, List.set_cons_succ]
        clear HG hbc
        have HG := HGn
        clear HGn
        refine wpAnyH_ready (rs := [4]) (by kernel_rfl) (by simp) (AllReadyH.cons rfl (fun K hK => ?_) AllReadyH.nil)
        go_simp
        have HGn : Hid (GrInv w (w2.alloc (.cells #[.string s] 9)) (w.heap.size + 1) vn vd M D) := HG.out.new (below1 _ _)
        have HS : Hid (Src Tryd.prog 1 22 (.slice (some ⟨w2.heap.size, 0, none⟩) 1 1) 1 ([s].map Value.string) (w2.alloc (.cells #[.string s] 9))) := srcOne Tryd.underlying22 w2 (.string s) rfl
        refine hK.out _ _ trivial (fun hT => ?_)
        clear hK K hT
        try simp only [Act.put, List.setIfInBounds_toArray, List.set_cons_zero, List.set_cons_succ]
        clear HG
        have HG := HGn
        clear HGn
        generalize w2.alloc (.cells #[.string s] 9) = W3 at *
        refine wpAnyH_ready (rs := [5]) (by kernel_rfl) (by simp) (AllReadyH.cons rfl (fun K hK => ?_) AllReadyH.nil)
        refine step_own_srcN W3 rfl (.tmp 37) (.tmp 40) 22 22 rfl (w.heap.size + 1) 9 i1 (.string ⟨#[]⟩) 1 16 Tryd.underlying22 gi gz0 gz1 gz2 rfl vd D.length (D.map Value.string) (.slice (some ⟨w2.heap.size, 0, none⟩) 1 1) 1 ([s].map Value.string) (by unfold maxLen; omega) (by omega) (by simp [Act.eval]) (by simp [Act.eval]) HG.out.txt HS.out HG.out.size ?_
        intro v5 w5 ho5 hg5
        obtain ⟨a5, c5, rfl⟩ := own_slice ho5
        have HN5 : Hid (GrInv w (w5.setCell ⟨w.heap.size + 1, 1, none⟩ (.slice a5 (D.length + 1) c5)) (w.heap.size + 1) vn (.slice a5 (D.length + 1) c5) M (D ++ [s])) := HG.out.text ho5 hg5
        have y2 := (HG.out.varText hg5).cell 1
        simp at y2
        have z2 := (HG.out.varText hg5).frozen 1
        refine hK.out _ _ trivial (fun hT => ?_)
        clear hK K hT
        simp only [Act.put, List.setIfInBounds_toArray]
        clear HG HS ho5 hg5
        refine held_take (i := 6) (v := .pointer (some ⟨w.heap.size + 1, 1, none⟩)) rfl rfl (by kernel_rfl) (by kernel_rfl) (by kernel_rfl) (by kernel_rfl) (fun W _ => by go_simp) trivial ?_
        simp only [Act.put]
        refine wpAnyH_ready (rs := [7]) (by kernel_rfl) (by simp) (AllReadyH.cons rfl (fun K hK => ?_) AllReadyH.nil)
        go_simp
        refine hK.out _ _ trivial (fun hT => ?_)
        clear hK K hT
        try simp only [Act.put, List.setIfInBounds_toArray, List.set_cons_zero, List.set_cons_succ]
        clear y2 z2
        refine wpAnyH_done (by kernel_rfl) ?_ _
        simp only [NoPanic]
        go_wp2
        go_roundw
        case rel => exact HREL.out _ _ HN5
        case measure => simp [intOf]; omega
      · skip
        go_simp
        refine (cloneT s _ (by omega)).mono ?_
        rintro e w2 ⟨rfl, hbc⟩
        have HGn : Hid (GrInv w w2 (w.heap.size + 1) vn vd M D) := HG.out.new hbc
        refine hK.out _ _ trivial (fun hT => ?_)
        clear hK K hT
        try simp only [Act.put, List.setIfInBounds_toArray, List.set_cons_zero, List.set_cons_succ]
        clear HG hbc
        have HG := HGn
        clear HGn
        refine wpAnyH_ready (rs := [1, 4]) (by kernel_rfl) (by simp) (AllReadyH.cons rfl (fun K hK => ?_) (AllReadyH.cons rfl (fun K hK => ?_) AllReadyH.nil))
        · skip
          have y1 := HG.out.var.cell 1
          simp at y1
          go_simp
          refine hK.out _ _ trivial (fun hT => ?_)
          clear hK K hT
          try simp only [Act.put, List.setIfInBounds_toArray, List.set_cons_zero, List.set_cons_succ]
          clear y1
          refine wpAnyH_ready (rs := [4]) (by kernel_rfl) (by simp) (AllReadyH.cons rfl (fun K hK => ?_) AllReadyH.nil)
          go_simp
          have HGn : Hid (GrInv w (w2.alloc (.cells #[.string s] 9)) (w.heap.size + 1) vn vd M D) := HG.out.new (below1 _ _)
          have HS : Hid (Src Tryd.prog 1 22 (.slice (some ⟨w2.heap.size, 0, none⟩) 1 1) 1 ([s].map Value.string) (w2.alloc (.cells #[.string s] 9))) := srcOne Tryd.underlying22 w2 (.string s) rfl
          refine hK.out _ _ trivial (fun hT => ?_)
          clear hK K hT
          try simp only [Act.put, List.setIfInBounds_toArray, List.set_cons_zero, List.set_cons_succ]
          clear HG
          have HG := HGn
          clear HGn
          generalize w2.alloc (.cells #[.string s] 9) = W3 at *
          refine wpAnyH_ready (rs := [5]) (by kernel_rfl) (by simp) (AllReadyH.cons rfl (fun K hK => ?_) AllReadyH.nil)
          refine step_own_srcN W3 rfl (.tmp 37) (.tmp 40) 22 22 rfl (w.heap.size + 1) 9 i1 (.string ⟨#[]⟩) 1 16 Tryd.underlying22 gi gz0 gz1 gz2 rfl vd D.length (D.map Value.string) (.slice (some ⟨w2.heap.size, 0, none⟩) 1 1) 1 ([s].map Value.string) (by unfold maxLen; omega) (by omega) (by simp [Act.eval]) (by simp [Act.eval]) HG.out.txt HS.out HG.out.size ?_
          intro v5 w5 ho5 hg5
          obtain ⟨a5, c5, rfl⟩ := own_slice ho5
          have HN5 : Hid (GrInv w (w5.setCell ⟨w.heap.size + 1, 1, none⟩ (.slice a5 (D.length + 1) c5)) (w.heap.size + 1) vn (.slice a5 (D.length + 1) c5) M (D ++ [s])) := HG.out.text ho5 hg5
          have y2 := (HG.out.varText hg5).cell 1
          simp at y2
          have z2 := (HG.out.varText hg5).frozen 1
          refine hK.out _ _ trivial (fun hT => ?_)
          clear hK K hT
          simp only [Act.put, List.setIfInBounds_toArray]
          clear HG HS ho5 hg5
          refine held_take (i := 6) (v := .pointer (some ⟨w.heap.size + 1, 1, none⟩)) rfl rfl (by kernel_rfl) (by kernel_rfl) (by kernel_rfl) (by kernel_rfl) (fun W _ => by go_simp) trivial ?_
          simp only [Act.put]
          refine wpAnyH_ready (rs := [7]) (by kernel_rfl) (by simp) (AllReadyH.cons rfl (fun K hK => ?_) AllReadyH.nil)
          go_simp
          refine hK.out _ _ trivial (fun hT => ?_)
          clear hK K hT
          try simp only [Act.put, List.setIfInBounds_toArray, List.set_cons_zero, List.set_cons_succ]
          clear y2 z2
          refine wpAnyH_done (by kernel_rfl) ?_ _
          simp only [NoPanic]
          go_wp2
          go_roundw
          case rel => exact HREL.out _ _ HN5
          case measure => simp [intOf]; omega
        · skip
          go_simp
          have HGn : Hid (GrInv w (w2.alloc (.cells #[.string s] 9)) (w.heap.size + 1) vn vd M D) := HG.out.new (below1 _ _)
          have HS : Hid (Src Tryd.prog 1 22 (.slice (some ⟨w2.heap.size, 0, none⟩) 1 1) 1 ([s].map Value.string) (w2.alloc (.cells #[.string s] 9))) := srcOne Tryd.underlying22 w2 (.string s) rfl
          refine hK.out _ _ trivial (fun hT => ?_)
          clear hK K hT
          try simp only [Act.put, List.setIfInBounds_toArray, List.set_cons_zero, List.set_cons_succ]
          clear HG
          have HG := HGn
          clear HGn
          generalize w2.alloc (.cells #[.string s] 9) = W3 at *
          refine wpAnyH_ready (rs := [1]) (by kernel_rfl) (by simp) (AllReadyH.cons rfl (fun K hK => ?_) AllReadyH.nil)
          have y1 := HG.out.var.cell 1
          simp at y1
          go_simp
          refine hK.out _ _ trivial (fun hT => ?_)
          clear hK K hT
          try simp only [Act.put, List.setIfInBounds_toArray, List.set_cons_zero, List.set_cons_succ]
          clear y1
          refine wpAnyH_ready (rs := [5]) (by kernel_rfl) (by simp) (AllReadyH.cons rfl (fun K hK => ?_) AllReadyH.nil)
          refine step_own_srcN W3 rfl (.tmp 37) (.tmp 40) 22 22 rfl (w.heap.size + 1) 9 i1 (.string ⟨#[]⟩) 1 16 Tryd.underlying22 gi gz0 gz1 gz2 rfl vd D.length (D.map Value.string) (.slice (some ⟨w2.heap.size, 0, none⟩) 1 1) 1 ([s].map Value.string) (by unfold maxLen; omega) (by omega) (by simp [Act.eval]) (by simp [Act.eval]) HG.out.txt HS.out HG.out.size ?_
          intro v5 w5 ho5 hg5
          obtain ⟨a5, c5, rfl⟩ := own_slice ho5
          have HN5 : Hid (GrInv w (w5.setCell ⟨w.heap.size + 1, 1, none⟩ (.slice a5 (D.length + 1) c5)) (w.heap.size + 1) vn (.slice a5 (D.length + 1) c5) M (D ++ [s])) := HG.out.text ho5 hg5
          have y2 := (HG.out.varText hg5).cell 1
          simp at y2
          have z2 := (HG.out.varText hg5).frozen 1
          refine hK.out _ _ trivial (fun hT => ?_)
          clear hK K hT
          simp only [Act.put, List.setIfInBounds_toArray]
          clear HG HS ho5 hg5
          refine held_take (i := 6) (v := .pointer (some ⟨w.heap.size + 1, 1, none⟩)) rfl rfl (by kernel_rfl) (by kernel_rfl) (by kernel_rfl) (by kernel_rfl) (fun W _ => by go_simp) trivial ?_
          simp only [Act.put]
          refine wpAnyH_ready (rs := [7]) (by kernel_rfl) (by simp) (AllReadyH.cons rfl (fun K hK => ?_) AllReadyH.nil)
          go_simp
          refine hK.out _ _ trivial (fun hT => ?_)
          clear hK K hT
          try simp only [Act.put, List.setIfInBounds_toArray, List.set_cons_zero, List.set_cons_succ]
          clear y2 z2
          refine wpAnyH_done (by kernel_rfl) ?_ _
          simp only [NoPanic]
          go_wp2
          go_roundw
          case rel => exact HREL.out _ _ HN5
          case measure => simp [intOf]; omega
--GENEND
    have b1 : ¬ ((2 + k : Nat) : Int) ≤ (i : Int) := by omega
    have b2 : (i : Int) < ((2 + k : Nat) : Int) := by omega
    by_cases h3 : 2 ≤ i
    · have b3 : (2 : Int) ≤ (i : Int) := by omega
      have HRT : Hid (readF (l.take (i + 1)) k = ⟨(readF (l.take i) k).ns ++ [ofN l[i]], (readF (l.take i) k).ds⟩) := readF_node hlt h3 (by omega)
      have hMl : M.length ≤ 1048576 := by
        have h := congrArg List.length HM.out
        have h' : (readF (l.take i) k).ns.length ≤ l.length := by show ((((l.take i).drop 2).take k).map ofN).length ≤ _; simp; omega
        rw [List.length_map] at h
        omega
      generalize l[i] = s at *
      have HNO : Hid (Calls Tryd.prog 37 #[.string s] wr fun e w' => ∃ v, e = .returned (.tuple #[v, .bool (ofOk s)]) ∧ OwnN w' wr.heap.size v (ofN s) ∧ Below wr.heap.size wr w') := implNodeOf s er wr hsz (HE.out wr HG.out.bel)
      go_wp2_with fail
      refine HNO.out.mono ?_
      clear HNO d0 b0 b1 b2 b3
      rintro e w1 ⟨v, rfl, ho, hb1⟩
      generalize ofOk s = q at *
      generalize ofN s = n at *
      obtain ⟨av, cv, rfl⟩ := ho.lay
      have hrow : w1.ownsRow wr.heap.size 3 1 (.slice av n.b.length cv) n.b.length (n.b.map (Value.int .i64)) := by
        obtain ⟨u, hu, h⟩ := ho
        unfold aggN at hu
        simp at hu
        rw [hu]
        exact h
      have hG2 := (HG.out.new hb1).new (below1 w1 (.cells #[.int .i64 n.k, .int .i64 n.g, .int .i64 n.t, .int .i64 n.s, .slice av n.b.length cv] 36))
      have hV2 := Var.made w1 #[.int .i64 n.k, .int .i64 n.g, .int .i64 n.t, .int .i64 n.s, .slice av n.b.length cv] 36
      have hr2 := ownsRow_below hrow (below1 w1 (.cells #[.int .i64 n.k, .int .i64 n.g, .int .i64 n.t, .int .i64 n.s, .slice av n.b.length cv] 36)) (Nat.le_refl _)
      have hlow : ∀ y ∈ M, ∀ j, blk y.2 j → ¬ blk (.slice av n.b.length cv) j := fun y hy j h1 h2 => by
        have e1 := HG.out.nod.low y hy j h1
        have e2 := (hrow.lt j h2).1
        omega
      have hlo : w.heap.size + 1 ≤ wr.heap.size := HG.out.size
      have m0 := hV2.cell 0
      have m1 := hV2.cell 1
      have m2 := hV2.cell 2
      have m3 := hV2.cell 3
      have m4 := hV2.cell 4
      have x0 := hG2.var.cell 0
      simp at m0 m1 m2 m3 m4 x0
      have HLOW : Hid (∀ y ∈ M, ∀ j, blk y.2 j → ¬ blk (.slice av n.b.length cv) j) := hlow
      have hG3 := hG2.new (below1 _ (.cells #[.int .i64 n.k, .int .i64 n.g, .int .i64 n.t, .int .i64 n.s, .slice av n.b.length cv] 36))
      have hr3 := ownsRow_base (ownsRow_below hr2 (below1 _ (.cells #[.int .i64 n.k, .int .i64 n.g, .int .i64 n.t, .int .i64 n.s, .slice av n.b.length cv] 36)) (Nat.le_refl _)) hlo
      have hS3 := srcNode (w1.alloc (.cells #[.int .i64 n.k, .int .i64 n.g, .int .i64 n.t, .int .i64 n.s, .slice av n.b.length cv] 36)) n av n.b.length cv
      rw [show (w1.alloc (.cells #[.int .i64 n.k, .int .i64 n.g, .int .i64 n.t, .int .i64 n.s, .slice av n.b.length cv] 36)).heap.size = w1.heap.size + 1 by simp] at hS3
      have HS3 : Hid (Src Tryd.prog 5 24 (.slice (some ⟨w1.heap.size + 1, 0, none⟩) 1 1) 1 (encU (n, .slice av n.b.length cv)) ((w1.alloc (.cells #[.int .i64 n.k, .int .i64 n.g, .int .i64 n.t, .int .i64 n.s, .slice av n.b.length cv] 36)).alloc (.cells #[.int .i64 n.k, .int .i64 n.g, .int .i64 n.t, .int .i64 n.s, .slice av n.b.length cv] 36))) := hS3
      have HG3 : Hid (GrInv w ((w1.alloc (.cells #[.int .i64 n.k, .int .i64 n.g, .int .i64 n.t, .int .i64 n.s, .slice av n.b.length cv] 36)).alloc (.cells #[.int .i64 n.k, .int .i64 n.g, .int .i64 n.t, .int .i64 n.s, .slice av n.b.length cv] 36)) (w.heap.size + 1) vn vd M (readF (l.take i) k).ds) := hG3
      have HR3 : Hid (((w1.alloc (.cells #[.int .i64 n.k, .int .i64 n.g, .int .i64 n.t, .int .i64 n.s, .slice av n.b.length cv] 36)).alloc (.cells #[.int .i64 n.k, .int .i64 n.g, .int .i64 n.t, .int .i64 n.s, .slice av n.b.length cv] 36)).ownsRow (w.heap.size + 1) 3 1 (.slice av n.b.length cv) n.b.length (n.b.map (Value.int .i64))) := hr3
      clear hlow hS3 hG3 hr3 hr2 hV2 hG2 hrow ho HG hb1 HE HSZ HR
      go_wp2_with (at_builtin; refine wpList_append_own_src _ rfl (.tmp 52) (.tmp 54) 24 24 rfl (w.heap.size + 1) 36 i2 _ 5 56 Tryd.underlying24 ni nz0 nz1 nz2 rfl _ _ _ rfl HG3.out.nod.row _ 1 (encU (n, .slice av n.b.length cv)) rfl HS3.out (by unfold maxLen; omega) (by omega) HG3.out.size ?_)
      intro v5 w5 ho5 hg5
      obtain ⟨a5, c5, rfl⟩ := own_slice ho5
      have HN5 : Hid (GrInv w (w5.setCell ⟨w.heap.size + 1, 0, none⟩ (.slice a5 (M.length + 1) c5)) (w.heap.size + 1) (.slice a5 (M.length + 1) c5) vd (M ++ [(n, .slice av n.b.length cv)]) (readF (l.take i) k).ds) := HG3.out.node HR3.out HLOW.out ho5 hg5
      have y2 := (HG3.out.varNode hg5).cell 0
      simp at y2
      have z2 := (HG3.out.varNode hg5).frozen 0
      clear HG3 HS3 HR3 HLOW ho5 hg5 m0 m1 m2 m3 m4 x0
      go_wp2
      go_roundw
      case rel => exact ⟨i + 1, k, _, vd, M ++ [(n, .slice av n.b.length cv)], by go_num, rfl, by omega, hk, by omega, HH1, by rw [HRT.out]; show _ = _; rw [List.map_append, HM.out]; rfl, by rw [HRT.out]; exact HN5⟩
      case measure => simp [intOf]; omega
    · obtain rfl : i = 1 := by omega
      have HRT : Hid (readF (l.take (1 + 1)) k = readF (l.take 1) k) := by show _ = _; rw [readF_nil k (by simp; omega), readF_nil k (by simp; omega)]
      clear HE HSZ HR
      generalize l[1] = s at *
      go_wp2
      go_roundw
      case rel => exact ⟨2, k, vn, vd, M, by go_num, rfl, by omega, hk, by omega, HH1, by rw [show (2 : Nat) = 1 + 1 from rfl, HRT.out]; exact HM, by rw [show (2 : Nat) = 1 + 1 from rfl, HRT.out]; exact HG⟩
      case measure => simp [intOf]; omega
end Go.Proofs.YtaabcfgjmankgaaDoor
