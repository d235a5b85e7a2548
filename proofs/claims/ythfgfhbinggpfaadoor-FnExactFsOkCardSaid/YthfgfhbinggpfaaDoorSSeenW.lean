/-
  Own text: which nodes are reached from a node on, by the other program (it calls itself, a level deeper each time).
-/
import Derived.Test.YthfgfhbinggpfaaDoorBunZH
namespace Go.Proofs.YthfgfhbinggpfaaDoor
open Go.RowKit

theorem srcInt9 {w : World} {a : Option Addr} {l : List Int} (cap : Nat) (h : Rd .i64 w a l) : Src Tryd.prog 1 40 (.slice a l.length cap) l.length (l.map (Value.int .i64)) w := by
  rcases h with rfl | ⟨b, off, rfl, h1, h2⟩
  · cases a with
    | none => exact Src.ofNil w Tryd.underlying40 cap
    | some x => exact Src.ofSlice w Tryd.underlying40 x 0 cap [] rfl (fun j u h => by simp at h) (fun u hu => by simp at hu)
  · refine Src.ofSlice w Tryd.underlying40 ⟨b, off, none⟩ l.length cap _ (by simp) (fun j u hj => ?_) (fun u hu => by obtain ⟨_, _, rfl⟩ := List.mem_map.1 hu; rfl)
    rw [List.getElem?_map] at hj
    have hjl : j < l.length := by
      rcases Nat.lt_or_ge j l.length with h | h
      · exact h
      · rw [List.getElem?_eq_none h] at hj; simp at hj
    rw [Go.WideShapes.add_plain, h2 j hjl]
    rw [List.getElem?_eq_getElem hjl] at hj
    simp [List.getD, hjl] at hj ⊢
    exact hj
def RowI (lo : Nat) (w : World) (v : Value) (s : List Int) : Prop := w.ownsRow lo 3 1 v s.length (s.map (Value.int .i64))
theorem RowI.below {lo : Nat} {w w' : World} {v : Value} {s : List Int} (h : RowI lo w v s) (hb : Below w.heap.size w w') : RowI lo w' v s := ownsRow_below h hb (Nat.le_refl _)
theorem rowI_at {lo : Nat} {w : World} {v : Value} {s : List Int} (h : RowI lo w v s) {i : Nat} (hi : i < s.length) : ∃ g cap, v = .slice (some ⟨g, 0, none⟩) s.length cap ∧ lo ≤ g ∧ w.cell? ⟨g, i, none⟩ = some (.int .i64 s[i]) ∧ w.frozen? ⟨g, i, none⟩ = false ∧ RowI lo (w.setCell ⟨g, i, none⟩ (.int .i64 (s[i] + 1))) v (bump i s) ∧ (w.setCell ⟨g, i, none⟩ (.int .i64 (s[i] + 1))).cell? ⟨g, i, none⟩ = some (.int .i64 (s[i] + 1)) := by
  rcases h.2 with ⟨rfl, h0⟩ | ⟨g, cap, cur, rfl, hbg, _⟩
  · omega
  have ho : w.ownsRow lo 3 1 (.slice (some ⟨g, 0, none⟩) s.length cap) s.length (s.map (Value.int .i64)) := h
  have hc := ho.cellAt i (by omega)
  rw [List.getElem?_map, List.getElem?_eq_getElem hi] at hc
  have hst := (ho.stored i (.int .i64 (s[i] + 1))).1
  have hb : (s.map (Value.int .i64)).set i (.int .i64 (s[i] + 1)) = (bump i s).map (Value.int .i64) := by
    unfold bump
    rw [List.map_set]
    simp [List.getD, hi]
  rw [hb] at hst
  have hR : RowI lo (w.setCell ⟨g, i, none⟩ (.int .i64 (s[i] + 1))) (.slice (some ⟨g, 0, none⟩) s.length cap) (bump i s) := by unfold RowI; rw [bump_len]; exact hst
  refine ⟨g, cap, rfl, hbg, hc, ho.frozenAt i, hR, ?_⟩
  have := hst.cellAt i (by omega)
  rw [this, List.getElem?_map]
  simp [bump, List.getD, hi]
theorem enText_ge : ∀ (l : List EntD), (∀ e ∈ l, 1 ≤ e.2 ∧ e.2 ≤ 9) → l.length ≤ (enText l).length
  | [], _ => Nat.zero_le _
  | (s, n) :: l, h => by
    have h1 := h (s, n) (List.mem_cons_self ..)
    simp only at h1
    obtain ⟨k, rfl⟩ : ∃ k : Nat, n = (k : Int) := ⟨n.toNat, by omega⟩
    have hg := good_nextE (good_midP [] [] k (by omega))
    have ih := enText_ge l (fun e he => h e (List.mem_cons_of_mem _ he))
    have e1 : enText ((s, (k : Int)) :: l) = putText s ++ putNum (k : Int) ++ enText l := by unfold enText; rw [List.flatMap_cons]
    rw [e1]
    simp only [List.length_append, List.length_cons, List.length_nil] at hg ⊢
    omega
theorem dirO_nodes {F : FsD} {i : Nat} (h : dirO F i = true) : ∀ e ∈ dirE F i, 1 ≤ e.2 ∧ e.2 ≤ 9 := by
  unfold dirO at h
  rw [Bool.and_eq_true] at h
  have hk := of_decide_eq_true h.1
  have hx : ∃ es, DirP (tx9 F i) es := by have h2 := h.2; unfold dirOk at h2; exact @of_decide_eq_true _ (Classical.propDecidable _) h2
  obtain ⟨es, h1, h2⟩ := hx
  intro e he
  unfold dirE at he
  rw [if_pos hk, (dir_yes h1 h2).1] at he
  have hP : EnP es := by unfold enOk at h2; exact @of_decide_eq_true _ (Classical.propDecidable _) h2
  obtain ⟨k, hkl, rfl⟩ := List.getElem_of_mem he
  exact (hP.1 k hkl hkl).1.2
theorem seenF_ones {F : FsD} {n : Nat} (hn : n = F.ns.length) : ∀ (d i : Nat) (s : List Int), i < n → Ones n s → (seenF F d i s).2 = true → Ones n (seenF F d i s).1
  | 0, i, s, _, _, h => by cases h
  | d + 1, i, s, hi, hs, h => by
    unfold seenF at h ⊢
    split at h
    · cases h
    · rename_i h1
      rw [if_neg h1]
      have hb := bump_ones hs hi h1
      split at h
      · rename_i h2
        rw [if_pos h2]
        exact hb
      · rename_i h2
        rw [if_neg h2]
        split at h
        · rename_i h3
          rw [if_pos h3]
          exact seenL_ones (fun k s' hk hs' h' => seenF_ones hn d k s' (by omega) hs' h') _ _ (fun e he => by have := (dirO_nodes h3 e he).1; omega) hb h
        · cases h
theorem dirO_len {F : FsD} {i : Nat} (h : dirO F i = true) : (dirE F i).length ≤ 80 := by
  have hn := enText_ge _ (dirO_nodes h)
  unfold dirO at h
  rw [Bool.and_eq_true] at h
  have hk := of_decide_eq_true h.1
  have hx : ∃ es, DirP (tx9 F i) es := by have h2 := h.2; unfold dirOk at h2; exact @of_decide_eq_true _ (Classical.propDecidable _) h2
  obtain ⟨es, h1, h2⟩ := hx
  have hP : EnP es := by unfold enOk at h2; exact @of_decide_eq_true _ (Classical.propDecidable _) h2
  unfold dirE at hn ⊢
  rw [if_pos hk, (dir_yes h1 h2).1] at hn ⊢
  exact Nat.le_trans hn hP.2
def SeenC (d : Nat) : Prop := ∀ (v : Value) (F : FsD) (i : Nat) (s : List Int) (x : Option Addr) (cap : Nat) (w : World), ShapeP F → i < F.ns.length → Ones F.ns.length s → RdFs w v F → Rd .i64 w x s →
  Calls Tryd.prog 21 #[v, .int .i64 (i : Nat), .int .i64 (5 - (d : Int)), .slice x s.length cap] w fun e w' => ∃ u, e = .returned (.tuple #[u, .bool (seenF F d i s).2]) ∧ RowI w.heap.size w' u (seenF F d i s).1 ∧ Below w.heap.size w w'

set_option maxRecDepth 20000 in
set_option maxHeartbeats 4000000 in
theorem seen0 : SeenC 0 := by
  intro v F i s x cap w hp hi hs hr hrs
  obtain ⟨i1, ii, iz0, iz1, iz2⟩ := info_parts Tryd.infoInt
  obtain ⟨a, ca, b, cb, rfl, _, _, _⟩ := hr
  have hkn : F.ns.length ≤ 10 := hp.1.2.1
  have his : i < s.length := by rw [hs.1]; exact hi
  have hs10 : s.length ≤ 10 := by rw [hs.1]; exact hkn
  have h01 := hs.2 s[i] (List.getElem_mem his)
  have hbB : Below w.heap.size w ((w.alloc (.cells #[.slice a F.ns.length ca, .slice b F.ds.length cb] 30)).alloc (.cells #[] 3)) := below2 _ _ _
  have ho0 : ((w.alloc (.cells #[.slice a F.ns.length ca, .slice b F.ds.length cb] 30)).alloc (.cells #[] 3)).ownsRow (w.heap.size + 1) 3 1 (.slice (some ⟨w.heap.size + 1, 0, none⟩) 0 0) 0 [] := by
    have := World.ownsRow_made (w.alloc (.cells #[.slice a F.ns.length ca, .slice b F.ds.length cb] 30)) #[] (e := 3) (size := 1) 0 (Nat.le_refl _) (Nat.zero_le _) rfl
    simpa using this
  have HS0 : Hid (Src Tryd.prog 1 40 (.slice x s.length cap) s.length (s.map (Value.int .i64)) ((w.alloc (.cells #[.slice a F.ns.length ca, .slice b F.ds.length cb] 30)).alloc (.cells #[] 3))) := srcInt9 cap (hrs.below hbB (Nat.le_refl _))
  have HO0 : Hid (((w.alloc (.cells #[.slice a F.ns.length ca, .slice b F.ds.length cb] 30)).alloc (.cells #[] 3)).ownsRow (w.heap.size + 1) 3 1 (.slice (some ⟨w.heap.size + 1, 0, none⟩) 0 0) 0 []) := ho0
  have hZ : w.heap.size + 1 ≤ ((w.alloc (.cells #[.slice a F.ns.length ca, .slice b F.ds.length cb] 30)).alloc (.cells #[] 3)).heap.size := by simp
  clear ho0 hrs hp hs
  go_enter Tryd.func21, Tryd.ntmps21
  go_wp2_with (at_builtin; refine wpList_append_own_src _ rfl (.tmp 17) (.tmp 18) 40 40 rfl (w.heap.size + 1) 3 i1 (.int .i64 0) 1 8 Tryd.underlying40 ii iz0 iz1 iz2 rfl _ _ _ rfl HO0.out _ s.length (s.map (Value.int .i64)) rfl HS0.out (by unfold maxLen; omega) (by omega) hZ ?_)
  intro v2 w2 ho2 hg2
  have hB2 : Below w.heap.size w w2 := hbB.grown hg2 hbB.size (fun q hq => by have := (HO0.out.lt q hq).1; omega)
  have hR2 : RowI w.heap.size w2 v2 s := by
    unfold RowI
    refine ownsRow_base ?_ (Nat.le_succ _)
    simpa using ho2
  clear ho2 hg2 HO0 HS0 hZ hbB
  obtain ⟨g2, cp, rfl, hlo, c2, f2, hR3, c3⟩ := rowI_at hR2 his
  have hiI : (i : Int) < (s.length : Int) := by omega
  have hwp : IntKind.i64.wrap (s[i] + 1) = s[i] + 1 := by rw [IntKind.wrap_i64]; omega
  have hB3 : Below w.heap.size w (w2.setCell ⟨g2, i, none⟩ (.int .i64 (s[i] + 1))) := hB2.setCell hlo _
  have HR3 : Hid (RowI w.heap.size (w2.setCell ⟨g2, i, none⟩ (.int .i64 (s[i] + 1))) (.slice (some ⟨g2, 0, none⟩) s.length cp) (bump i s)) := hR3
  have HSF : Hid (seenF F 0 i s = (bump i s, false)) := rfl
  clear hR2 hR3 hB2
  generalize s[i] = z at *
  by_cases hz : 1 < z + 1
  · go_wp2
    go_returns
    exact ⟨_, by rw [HSF.out]; rfl, by rw [HSF.out]; exact HR3.out, hB3⟩
  · go_wp2
    go_returns
    exact ⟨_, by rw [HSF.out]; rfl, by rw [HSF.out]; exact HR3.out, hB3⟩
set_option maxRecDepth 20000 in
set_option maxHeartbeats 4000000 in
theorem seenS (d : Nat) (hd4 : d ≤ 4) (HC : Hid (SeenC d)) : SeenC (d + 1) := by
  intro v F i s x cap w hp hi hs hr hrs
  obtain ⟨i1, ii, iz0, iz1, iz2⟩ := info_parts Tryd.infoInt
  have hdI : ((5 : Int) - ((d + 1 : Nat) : Int)) = 4 - (d : Int) := by omega
  rw [hdI]
  clear hdI
  have HRF : Hid (∀ W, Below w.heap.size w W → RdFs W v F) := fun W h => hr.below h (Nat.le_refl _)
  obtain ⟨a, ca, b, cb, rfl, _, r1, _⟩ := hr
  have HNK : Hid (∀ (m : Nat) (hm : m < F.ns.length), ∃ g off, a = some ⟨g, off, none⟩ ∧ ∀ W, Below w.heap.size w W → W.cell? ⟨g, off + m * 5, none⟩ = some (.int .i64 (F.ns[m]).k)) := fun m hm => by
    obtain ⟨g, off, u, e, hb, _, c0, _⟩ := r1.at m hm
    exact ⟨g, off, e, fun W h => (h.cell (by exact hb)).trans c0⟩
  have HP : Hid (ShapeP F) := hp
  have HS : Hid (Ones F.ns.length s) := hs
  have hkn : F.ns.length ≤ 10 := hp.1.2.1
  have his : i < s.length := by rw [hs.1]; exact hi
  have hs10 : s.length ≤ 10 := by rw [hs.1]; exact hkn
  have h01 := hs.2 s[i] (List.getElem_mem his)
  have hbB : Below w.heap.size w ((w.alloc (.cells #[.slice a F.ns.length ca, .slice b F.ds.length cb] 30)).alloc (.cells #[] 3)) := below2 _ _ _
  have ho0 : ((w.alloc (.cells #[.slice a F.ns.length ca, .slice b F.ds.length cb] 30)).alloc (.cells #[] 3)).ownsRow (w.heap.size + 1) 3 1 (.slice (some ⟨w.heap.size + 1, 0, none⟩) 0 0) 0 [] := by
    have := World.ownsRow_made (w.alloc (.cells #[.slice a F.ns.length ca, .slice b F.ds.length cb] 30)) #[] (e := 3) (size := 1) 0 (Nat.le_refl _) (Nat.zero_le _) rfl
    simpa using this
  have HS0 : Hid (Src Tryd.prog 1 40 (.slice x s.length cap) s.length (s.map (Value.int .i64)) ((w.alloc (.cells #[.slice a F.ns.length ca, .slice b F.ds.length cb] 30)).alloc (.cells #[] 3))) := srcInt9 cap (hrs.below hbB (Nat.le_refl _))
  have HO0 : Hid (((w.alloc (.cells #[.slice a F.ns.length ca, .slice b F.ds.length cb] 30)).alloc (.cells #[] 3)).ownsRow (w.heap.size + 1) 3 1 (.slice (some ⟨w.heap.size + 1, 0, none⟩) 0 0) 0 []) := ho0
  have hZ : w.heap.size + 1 ≤ ((w.alloc (.cells #[.slice a F.ns.length ca, .slice b F.ds.length cb] 30)).alloc (.cells #[] 3)).heap.size := by simp
  clear ho0 hrs hp hs r1
  go_enter Tryd.func21, Tryd.ntmps21
  go_wp2_with (at_builtin; refine wpList_append_own_src _ rfl (.tmp 17) (.tmp 18) 40 40 rfl (w.heap.size + 1) 3 i1 (.int .i64 0) 1 8 Tryd.underlying40 ii iz0 iz1 iz2 rfl _ _ _ rfl HO0.out _ s.length (s.map (Value.int .i64)) rfl HS0.out (by unfold maxLen; omega) (by omega) hZ ?_)
  intro v2 w2 ho2 hg2
  have hB2 : Below w.heap.size w w2 := hbB.grown hg2 hbB.size (fun q hq => by have := (HO0.out.lt q hq).1; omega)
  have hR2 : RowI w.heap.size w2 v2 s := by
    unfold RowI
    refine ownsRow_base ?_ (Nat.le_succ _)
    simpa using ho2
  have HV2 : Hid (Var w2 w.heap.size #[.slice a F.ns.length ca, .slice b F.ds.length cb] 30) := ((Var.made w _ _).alloc _).only (Only.of_grown hg2) (fun hk => by have := (HO0.out.lt _ hk).1; omega)
  have hlo2 : ∀ k, v2.ownBlock = some k → w.heap.size + 1 ≤ k := fun k hk => (ho2.lt k hk).1
  clear ho2 hg2 HO0 HS0 hZ hbB
  obtain ⟨g2, cp, rfl, hlo, c2, f2, hR3, c3⟩ := rowI_at hR2 his
  have hiI : (i : Int) < (s.length : Int) := by omega
  have hwp : IntKind.i64.wrap (s[i] + 1) = s[i] + 1 := by rw [IntKind.wrap_i64]; omega
  have hB3 : Below w.heap.size w (w2.setCell ⟨g2, i, none⟩ (.int .i64 (s[i] + 1))) := hB2.setCell hlo _
  have HR3 : Hid (RowI w.heap.size (w2.setCell ⟨g2, i, none⟩ (.int .i64 (s[i] + 1))) (.slice (some ⟨g2, 0, none⟩) s.length cp) (bump i s)) := hR3
  have HV3 : Hid (Var (w2.setCell ⟨g2, i, none⟩ (.int .i64 (s[i] + 1))) w.heap.size #[.slice a F.ns.length ca, .slice b F.ds.length cb] 30) := HV2.out.other (by have := hlo2 g2 rfl; omega) i _
  have HGD : Hid ((bump i s).getD i 0 = s[i] + 1) := by show _ = _; simp [bump, List.getD, his]
  have HBO : Hid (¬ 1 < (bump i s).getD i 0 → Ones F.ns.length (bump i s)) := fun h => bump_ones HS.out hi h
  have HSF : Hid (seenF F (d + 1) i s = if 1 < (bump i s).getD i 0 then (bump i s, false) else if (ndAt F (i : Int)).k ≠ 2 then (bump i s, true) else if dirO F i = true then seenL F (seenF F d) i (dirE F i) (bump i s) else (bump i s, false)) := rfl
  clear hR2 hR3 hB2 HS HV2 hlo2
  generalize s[i] = z at *
  have hd4I : ¬ (4 : Int) < 4 - (d : Int) := by omega
  by_cases hz : 1 < z + 1
  · have HS2 : Hid (seenF F (d + 1) i s = (bump i s, false)) := by show _ = _; rw [HSF.out, if_pos (by rw [HGD.out]; exact hz)]
    clear HSF HBO HGD
    go_wp2
    go_returns
    exact ⟨_, by rw [HS2.out]; rfl, by rw [HS2.out]; exact HR3.out, hB3⟩
  have HSF2 : Hid (seenF F (d + 1) i s = if (ndAt F (i : Int)).k ≠ 2 then (bump i s, true) else if dirO F i = true then seenL F (seenF F d) i (dirE F i) (bump i s) else (bump i s, false)) := by show _ = _; rw [HSF.out, if_neg (by rw [HGD.out]; exact hz)]
  have HON : Hid (Ones F.ns.length (bump i s)) := HBO.out (by rw [HGD.out]; exact hz)
  clear HSF HBO HGD
  go_upto_region 3 with fail
  generalize w2.setCell ⟨g2, i, none⟩ (.int .i64 (z + 1)) = w3 at *
  obtain ⟨ga, oa, rfl, hkc⟩ := HNK.out i hi
  have k0 := hkc w3 hB3
  have y0 := HV3.out.cell 0
  have y1 := HV3.out.cell 1
  simp at y0 y1
  have hat := ndAt_nat hi
  have hiF : (i : Int) < (F.ns.length : Int) := by omega
  by_cases hk2 : (F.ns[i]).k = 2
  rotate_left
  · have HS2 : Hid (seenF F (d + 1) i s = (bump i s, true)) := by show _ = _; rw [HSF2.out, hat, if_pos hk2]
    clear HSF2 HON HRF HNK HP HC hkc
    generalize (F.ns[i]).k = kd at *
    go_wp2
    go_returns
    exact ⟨_, by rw [HS2.out]; rfl, by rw [HS2.out]; exact HR3.out, hB3⟩
  rw [hk2] at k0
  have HSF3 : Hid (seenF F (d + 1) i s = if dirO F i = true then seenL F (seenF F d) i (dirE F i) (bump i s) else (bump i s, false)) := by show _ = _; rw [HSF2.out, hat, if_neg (by rw [hk2]; simp)]
  have HD9 : Hid (Calls Tryd.prog 44 #[.agg #[.slice (some ⟨ga, oa, none⟩) F.ns.length ca, .slice b F.ds.length cb], .int .i64 (i : Nat)] w3 fun e w' => ∃ u, e = .returned (.tuple #[u, .bool (dirO F i)]) ∧ OwnEn w' w3.heap.size w'.heap.size u (dirE F i) ∧ Below w3.heap.size w3 w') := specDir9 _ F i w3 HP.out hi (HRF.out w3 hB3)
  clear HSF2 hk2 hat hkc
  go_wp2_with fail
  refine HD9.out.mono ?_
  rintro e w4 ⟨u, rfl, hou, hb4⟩
  have hB4 : Below w.heap.size w w4 := hB3.trans (hb4.mono hB3.size)
  have HR4 : Hid (RowI w.heap.size w4 (.slice (some ⟨g2, 0, none⟩) s.length cp) (bump i s)) := HR3.out.below hb4
  have HV4 : Hid (∀ W, Below w4.heap.size w4 W → W.cell? ⟨w.heap.size, 0, none⟩ = some (.slice (some ⟨ga, oa, none⟩) F.ns.length ca) ∧ W.cell? ⟨w.heap.size, 1, none⟩ = some (.slice b F.ds.length cb)) := fun W h => ⟨by simpa using ((HV3.out.new hb4).new h).cell 0, by simpa using ((HV3.out.new hb4).new h).cell 1⟩
  cases hO : dirO F i with
  | false =>
    have HS2 : Hid (seenF F (d + 1) i s = (bump i s, false)) := by show _ = _; rw [HSF3.out, hO]; rfl
    clear HSF3 HON HRF HNK HP HC HD9 hO hou hb4 y0 y1 k0 c3
    go_wp2
    go_returns
    exact ⟨_, by rw [HS2.out]; rfl, by rw [HS2.out]; exact HR4.out, hB4⟩
  | true =>
    have HS2 : Hid (seenF F (d + 1) i s = seenL F (seenF F d) i (dirE F i) (bump i s)) := by show _ = _; rw [HSF3.out, hO]; rfl
    have HEN := dirO_nodes hO
    have hel := dirO_len hO
    have HEB : Hid (∀ e ∈ dirE F i, 1 ≤ e.2 ∧ e.2 ≤ 9) := HEN
    have HEX : Hid (∀ W, Below w4.heap.size w4 W → RdEn W u (dirE F i)) := fun W h => hou.rd.below h
    clear HSF3 HD9 hO HEN hb4 y0 y1 k0 c3
    generalize dirE F i = es at *
    obtain ⟨au, cu, rfl, _, _⟩ := hou.rd
    clear hou
    have HB4 : Hid (Below w.heap.size w w4) := hB4
    by_cases hi0 : i = 0
    · subst hi0
      go_wp2
      go_loopw [10, 13] (fun o j wr => ∃ (k : Nat) (vo : Value) (t : List Int), vo = o ∧ j = .int .i64 k ∧ k ≤ es.length ∧ Hid (RowI w.heap.size wr vo t ∧ Ones F.ns.length t ∧ seenF F (d + 1) 0 s = seenL F (seenF F d) 0 (es.drop k) t) ∧ Below w4.heap.size w4 wr) (fun _ j _ => es.length - (intOf j).toNat)
      case atStart => exact ⟨0, _, bump 0 s, rfl, rfl, Nat.zero_le _, ⟨HR4.out, HON.out, HS2.out⟩, Below.refl _ _⟩
      case round =>
        obtain ⟨k, vo, t, rfl, rfl, hk, HI, hB⟩ := hrel
        have hBw := HB4.out.trans (hB.mono HB4.out.size)
        by_cases hlt : k < es.length
        rotate_left
        · obtain rfl : k = es.length := by omega
          have HSE : Hid (seenF F (d + 1) 0 s = (t, true)) := by show _ = _; rw [HI.out.2.2, List.drop_length]; rfl
          clear HC HEX HEB HV4 HRF HNK HP
          go_wp2
          go_returns
          exact ⟨_, by rw [HSE.out]; rfl, by rw [HSE.out]; exact HI.out.1, hBw⟩
        obtain ⟨_, _, he0, _, hre⟩ := HEX.out wr hB
        injection he0 with q1 q2 q3
        subst q1 q3
        clear q2
        obtain ⟨ge, oe, rfl, _, hcell⟩ := hre.at k hlt
        have e0 : wr.cell? ⟨ge, oe + k * 2, none⟩ = some (.string es[k].1) := hcell 0 (by omega)
        have e1 : wr.cell? ⟨ge, oe + k * 2 + 1, none⟩ = some (.int .i64 es[k].2) := hcell 1 (by omega)
        have hnb := HEB.out _ (List.getElem_mem hlt)
        obtain ⟨m, hm⟩ : ∃ m : Nat, (es[k]).2 = (m : Int) := ⟨(es[k]).2.toNat, by omega⟩
        have hm9 : m ≤ 9 := by omega
        have HSL : Hid (seenL F (seenF F d) 0 (es.drop k) t = @ite _ ((F.ns.length : Int) ≤ (m : Int) ∨ (ndAt F (m : Int)).k = 0) (Classical.propDecidable _) (t, false) (@ite _ (bt (es[k]).1 = [126] ∧ ((0 : Nat) ≠ 0 ∨ (ndAt F (m : Int)).k ≠ 1)) (Classical.propDecidable _) (t, false) (if (seenF F d (m : Int).toNat t).2 = true then seenL F (seenF F d) 0 (es.drop (k + 1)) (seenF F d (m : Int).toNat t).1 else (t, false)))) := by
          show _ = _
          rw [List.drop_eq_getElem_cons hlt, ← hm]
          rfl
        rw [hm] at e1
        obtain ⟨v0, v1⟩ := HV4.out wr hB
        obtain ⟨xo, co, rfl, _, hrt⟩ := own_rd HI.out.1
        clear hcell hre hnb hm
        generalize (es[k]).1 = nm at *
        have hltI : (k : Int) < (es.length : Int) := by omega
        by_cases hml : m < F.ns.length
        rotate_left
        · have hmI : ¬ (m : Int) < (F.ns.length : Int) := by omega
          have HSE : Hid (seenF F (d + 1) 0 s = (t, false)) := by show _ = _; rw [HI.out.2.2, HSL.out, if_pos (.inl (by omega))]
          clear HSL HC HEX HEB HV4 HRF HNK HP
          go_wp2
          go_returns
          exact ⟨_, by rw [HSE.out]; rfl, by rw [HSE.out]; exact HI.out.1, hBw⟩
        have hmI : (m : Int) < (F.ns.length : Int) := by omega
        obtain ⟨_, _, he2, hkc2⟩ := HNK.out m hml
        injection he2 with he2
        injection he2 with q1 q2 _
        subst q1 q2
        have n0 := hkc2 wr hBw
        rw [ndAt_nat hml] at HSL
        clear hkc2
        have hle : ¬ (F.ns.length : Int) ≤ (m : Int) := by omega
        have hw1 : IntKind.i64.wrap (4 - (d : Int) + 1) = 4 - (d : Int) + 1 := by rw [IntKind.wrap_i64]; omega
        generalize (F.ns[m]).k = kd at *
        by_cases hk0 : kd = 0
        · subst hk0
          have HSE : Hid (seenF F (d + 1) 0 s = (t, false)) := by show _ = _; rw [HI.out.2.2, HSL.out, if_pos (.inr rfl)]
          clear HSL HC HEX HEB HV4 HRF HNK HP
          go_wp2
          go_returns
          exact ⟨_, by rw [HSE.out]; rfl, by rw [HSE.out]; exact HI.out.1, hBw⟩
        by_cases hh : bt nm = [126]
        · have hls := lit_same hh
          by_cases hk1 : kd = 1
          · skip
            have HSG : Hid (seenL F (seenF F d) 0 (es.drop k) t = if (seenF F d m t).2 = true then seenL F (seenF F d) 0 (es.drop (k + 1)) (seenF F d m t).1 else (t, false)) := by show _ = _; rw [HSL.out, if_neg (fun h => by rcases h with h | h; exact hle h; exact hk0 h), if_neg (fun h => by rcases h.2 with h | h; exact h rfl; exact h hk1)]; rfl
            have HCM : Hid (Calls Tryd.prog 21 #[.agg #[.slice (some ⟨ga, oa, none⟩) F.ns.length ca, .slice b F.ds.length cb], .int .i64 (m : Nat), .int .i64 (4 - (d : Int) + 1), .slice xo t.length co] wr fun e w' => ∃ u, e = .returned (.tuple #[u, .bool (seenF F d m t).2]) ∧ RowI wr.heap.size w' u (seenF F d m t).1 ∧ Below wr.heap.size wr w') := by
              have h := HC.out _ F m t xo co wr HP.out hml HI.out.2.1 (HRF.out wr hBw) hrt
              rw [show (5 - (d : Int)) = 4 - (d : Int) + 1 by omega] at h
              exact h
            have HON2 : Hid ((seenF F d m t).2 = true → Ones F.ns.length (seenF F d m t).1) := fun h => seenF_ones rfl _ _ _ hml HI.out.2.1 h
            clear HSL
            go_wp2_with fail
            refine HCM.out.mono ?_
            rintro e w5 ⟨u5, rfl, ho5, hb5⟩
            have hB5 : Below w4.heap.size w4 w5 := hB.trans (hb5.mono hB.size)
            have hBw5 := hBw.trans (hb5.mono hBw.size)
            cases hq : (seenF F d m t).2 with
            | false =>
              have HSE : Hid (seenF F (d + 1) 0 s = (t, false)) := by show _ = _; rw [HI.out.2.2, HSG.out, hq]; rfl
              have HR5 : Hid (RowI w.heap.size w5 (.slice xo t.length co) t) := HI.out.1.below hb5
              clear HSG HC HEX HEB HV4 HRF HNK HP HCM HON2 hq ho5 hb5 hrt
              go_wp2
              go_returns
              exact ⟨_, by rw [HSE.out]; rfl, by rw [HSE.out]; exact HR5.out, hBw5⟩
            | true =>
              have HI5 : Hid (RowI w.heap.size w5 u5 (seenF F d m t).1 ∧ Ones F.ns.length (seenF F d m t).1 ∧ seenF F (d + 1) 0 s = seenL F (seenF F d) 0 (es.drop (k + 1)) (seenF F d m t).1) := ⟨ownsRow_base ho5 hBw.size, HON2.out hq, by rw [HI.out.2.2, HSG.out, if_pos hq]⟩
              clear HSG HCM HON2 hq ho5 hb5 hrt HI
              go_wp2
              go_roundw
              case rel => exact ⟨k + 1, _, _, rfl, by go_num, by omega, HI5, hB5⟩
              case measure => simp [intOf]; omega
          · skip
            have HSE : Hid (seenF F (d + 1) 0 s = (t, false)) := by show _ = _; rw [HI.out.2.2, HSL.out, if_neg (fun h => by rcases h with h | h; exact hle h; exact hk0 h), if_pos ⟨hh, .inr hk1⟩]
            clear HSL HC HEX HEB HV4 HRF HNK HP
            go_wp2
            go_returns
            exact ⟨_, by rw [HSE.out]; rfl, by rw [HSE.out]; exact HI.out.1, hBw⟩
        · have hls := lit_other hh
          have HSG : Hid (seenL F (seenF F d) 0 (es.drop k) t = if (seenF F d m t).2 = true then seenL F (seenF F d) 0 (es.drop (k + 1)) (seenF F d m t).1 else (t, false)) := by show _ = _; rw [HSL.out, if_neg (fun h => by rcases h with h | h; exact hle h; exact hk0 h), if_neg (fun h => hh h.1)]; rfl
          have HCM : Hid (Calls Tryd.prog 21 #[.agg #[.slice (some ⟨ga, oa, none⟩) F.ns.length ca, .slice b F.ds.length cb], .int .i64 (m : Nat), .int .i64 (4 - (d : Int) + 1), .slice xo t.length co] wr fun e w' => ∃ u, e = .returned (.tuple #[u, .bool (seenF F d m t).2]) ∧ RowI wr.heap.size w' u (seenF F d m t).1 ∧ Below wr.heap.size wr w') := by
            have h := HC.out _ F m t xo co wr HP.out hml HI.out.2.1 (HRF.out wr hBw) hrt
            rw [show (5 - (d : Int)) = 4 - (d : Int) + 1 by omega] at h
            exact h
          have HON2 : Hid ((seenF F d m t).2 = true → Ones F.ns.length (seenF F d m t).1) := fun h => seenF_ones rfl _ _ _ hml HI.out.2.1 h
          clear HSL
          go_wp2_with fail
          refine HCM.out.mono ?_
          rintro e w5 ⟨u5, rfl, ho5, hb5⟩
          have hB5 : Below w4.heap.size w4 w5 := hB.trans (hb5.mono hB.size)
          have hBw5 := hBw.trans (hb5.mono hBw.size)
          cases hq : (seenF F d m t).2 with
          | false =>
            have HSE : Hid (seenF F (d + 1) 0 s = (t, false)) := by show _ = _; rw [HI.out.2.2, HSG.out, hq]; rfl
            have HR5 : Hid (RowI w.heap.size w5 (.slice xo t.length co) t) := HI.out.1.below hb5
            clear HSG HC HEX HEB HV4 HRF HNK HP HCM HON2 hq ho5 hb5 hrt
            go_wp2
            go_returns
            exact ⟨_, by rw [HSE.out]; rfl, by rw [HSE.out]; exact HR5.out, hBw5⟩
          | true =>
            have HI5 : Hid (RowI w.heap.size w5 u5 (seenF F d m t).1 ∧ Ones F.ns.length (seenF F d m t).1 ∧ seenF F (d + 1) 0 s = seenL F (seenF F d) 0 (es.drop (k + 1)) (seenF F d m t).1) := ⟨ownsRow_base ho5 hBw.size, HON2.out hq, by rw [HI.out.2.2, HSG.out, if_pos hq]⟩
            clear HSG HCM HON2 hq ho5 hb5 hrt HI
            go_wp2
            go_roundw
            case rel => exact ⟨k + 1, _, _, rfl, by go_num, by omega, HI5, hB5⟩
            case measure => simp [intOf]; omega
    · skip
      go_wp2
      go_loopw [10, 13] (fun o j wr => ∃ (k : Nat) (vo : Value) (t : List Int), vo = o ∧ j = .int .i64 k ∧ k ≤ es.length ∧ Hid (RowI w.heap.size wr vo t ∧ Ones F.ns.length t ∧ seenF F (d + 1) i s = seenL F (seenF F d) i (es.drop k) t) ∧ Below w4.heap.size w4 wr) (fun _ j _ => es.length - (intOf j).toNat)
      case atStart => exact ⟨0, _, bump i s, rfl, rfl, Nat.zero_le _, ⟨HR4.out, HON.out, HS2.out⟩, Below.refl _ _⟩
      case round =>
        obtain ⟨k, vo, t, rfl, rfl, hk, HI, hB⟩ := hrel
        have hBw := HB4.out.trans (hB.mono HB4.out.size)
        by_cases hlt : k < es.length
        rotate_left
        · obtain rfl : k = es.length := by omega
          have HSE : Hid (seenF F (d + 1) i s = (t, true)) := by show _ = _; rw [HI.out.2.2, List.drop_length]; rfl
          clear HC HEX HEB HV4 HRF HNK HP
          go_wp2
          go_returns
          exact ⟨_, by rw [HSE.out]; rfl, by rw [HSE.out]; exact HI.out.1, hBw⟩
        obtain ⟨_, _, he0, _, hre⟩ := HEX.out wr hB
        injection he0 with q1 q2 q3
        subst q1 q3
        clear q2
        obtain ⟨ge, oe, rfl, _, hcell⟩ := hre.at k hlt
        have e0 : wr.cell? ⟨ge, oe + k * 2, none⟩ = some (.string es[k].1) := hcell 0 (by omega)
        have e1 : wr.cell? ⟨ge, oe + k * 2 + 1, none⟩ = some (.int .i64 es[k].2) := hcell 1 (by omega)
        have hnb := HEB.out _ (List.getElem_mem hlt)
        obtain ⟨m, hm⟩ : ∃ m : Nat, (es[k]).2 = (m : Int) := ⟨(es[k]).2.toNat, by omega⟩
        have hm9 : m ≤ 9 := by omega
        have HSL : Hid (seenL F (seenF F d) i (es.drop k) t = @ite _ ((F.ns.length : Int) ≤ (m : Int) ∨ (ndAt F (m : Int)).k = 0) (Classical.propDecidable _) (t, false) (@ite _ (bt (es[k]).1 = [126] ∧ (i ≠ 0 ∨ (ndAt F (m : Int)).k ≠ 1)) (Classical.propDecidable _) (t, false) (if (seenF F d (m : Int).toNat t).2 = true then seenL F (seenF F d) i (es.drop (k + 1)) (seenF F d (m : Int).toNat t).1 else (t, false)))) := by
          show _ = _
          rw [List.drop_eq_getElem_cons hlt, ← hm]
          rfl
        rw [hm] at e1
        obtain ⟨v0, v1⟩ := HV4.out wr hB
        obtain ⟨xo, co, rfl, _, hrt⟩ := own_rd HI.out.1
        clear hcell hre hnb hm
        generalize (es[k]).1 = nm at *
        have hltI : (k : Int) < (es.length : Int) := by omega
        by_cases hml : m < F.ns.length
        rotate_left
        · have hmI : ¬ (m : Int) < (F.ns.length : Int) := by omega
          have HSE : Hid (seenF F (d + 1) i s = (t, false)) := by show _ = _; rw [HI.out.2.2, HSL.out, if_pos (.inl (by omega))]
          clear HSL HC HEX HEB HV4 HRF HNK HP
          go_wp2
          go_returns
          exact ⟨_, by rw [HSE.out]; rfl, by rw [HSE.out]; exact HI.out.1, hBw⟩
        have hmI : (m : Int) < (F.ns.length : Int) := by omega
        obtain ⟨_, _, he2, hkc2⟩ := HNK.out m hml
        injection he2 with he2
        injection he2 with q1 q2 _
        subst q1 q2
        have n0 := hkc2 wr hBw
        rw [ndAt_nat hml] at HSL
        clear hkc2
        have hle : ¬ (F.ns.length : Int) ≤ (m : Int) := by omega
        have hw1 : IntKind.i64.wrap (4 - (d : Int) + 1) = 4 - (d : Int) + 1 := by rw [IntKind.wrap_i64]; omega
        generalize (F.ns[m]).k = kd at *
        by_cases hk0 : kd = 0
        · subst hk0
          have HSE : Hid (seenF F (d + 1) i s = (t, false)) := by show _ = _; rw [HI.out.2.2, HSL.out, if_pos (.inr rfl)]
          clear HSL HC HEX HEB HV4 HRF HNK HP
          go_wp2
          go_returns
          exact ⟨_, by rw [HSE.out]; rfl, by rw [HSE.out]; exact HI.out.1, hBw⟩
        by_cases hh : bt nm = [126]
        · have hls := lit_same hh
          have hiI0 : ¬ (i : Int) = 0 := by omega
          have HSE : Hid (seenF F (d + 1) i s = (t, false)) := by show _ = _; rw [HI.out.2.2, HSL.out, if_neg (fun h => by rcases h with h | h; exact hle h; exact hk0 h), if_pos ⟨hh, .inl hi0⟩]
          clear HSL HC HEX HEB HV4 HRF HNK HP
          go_wp2
          go_returns
          exact ⟨_, by rw [HSE.out]; rfl, by rw [HSE.out]; exact HI.out.1, hBw⟩
        · have hls := lit_other hh
          have HSG : Hid (seenL F (seenF F d) i (es.drop k) t = if (seenF F d m t).2 = true then seenL F (seenF F d) i (es.drop (k + 1)) (seenF F d m t).1 else (t, false)) := by show _ = _; rw [HSL.out, if_neg (fun h => by rcases h with h | h; exact hle h; exact hk0 h), if_neg (fun h => hh h.1)]; rfl
          have HCM : Hid (Calls Tryd.prog 21 #[.agg #[.slice (some ⟨ga, oa, none⟩) F.ns.length ca, .slice b F.ds.length cb], .int .i64 (m : Nat), .int .i64 (4 - (d : Int) + 1), .slice xo t.length co] wr fun e w' => ∃ u, e = .returned (.tuple #[u, .bool (seenF F d m t).2]) ∧ RowI wr.heap.size w' u (seenF F d m t).1 ∧ Below wr.heap.size wr w') := by
            have h := HC.out _ F m t xo co wr HP.out hml HI.out.2.1 (HRF.out wr hBw) hrt
            rw [show (5 - (d : Int)) = 4 - (d : Int) + 1 by omega] at h
            exact h
          have HON2 : Hid ((seenF F d m t).2 = true → Ones F.ns.length (seenF F d m t).1) := fun h => seenF_ones rfl _ _ _ hml HI.out.2.1 h
          clear HSL
          go_wp2_with fail
          refine HCM.out.mono ?_
          rintro e w5 ⟨u5, rfl, ho5, hb5⟩
          have hB5 : Below w4.heap.size w4 w5 := hB.trans (hb5.mono hB.size)
          have hBw5 := hBw.trans (hb5.mono hBw.size)
          cases hq : (seenF F d m t).2 with
          | false =>
            have HSE : Hid (seenF F (d + 1) i s = (t, false)) := by show _ = _; rw [HI.out.2.2, HSG.out, hq]; rfl
            have HR5 : Hid (RowI w.heap.size w5 (.slice xo t.length co) t) := HI.out.1.below hb5
            clear HSG HC HEX HEB HV4 HRF HNK HP HCM HON2 hq ho5 hb5 hrt
            go_wp2
            go_returns
            exact ⟨_, by rw [HSE.out]; rfl, by rw [HSE.out]; exact HR5.out, hBw5⟩
          | true =>
            have HI5 : Hid (RowI w.heap.size w5 u5 (seenF F d m t).1 ∧ Ones F.ns.length (seenF F d m t).1 ∧ seenF F (d + 1) i s = seenL F (seenF F d) i (es.drop (k + 1)) (seenF F d m t).1) := ⟨ownsRow_base ho5 hBw.size, HON2.out hq, by rw [HI.out.2.2, HSG.out, if_pos hq]⟩
            clear HSG HCM HON2 hq ho5 hb5 hrt HI
            go_wp2
            go_roundw
            case rel => exact ⟨k + 1, _, _, rfl, by go_num, by omega, HI5, hB5⟩
            case measure => simp [intOf]; omega
theorem seenAll : ∀ d : Nat, d ≤ 5 → SeenC d
  | 0, _ => seen0
  | d + 1, h => seenS d (by omega) (seenAll d (by omega))
end Go.Proofs.YthfgfhbinggpfaaDoor
