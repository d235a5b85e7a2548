/-
  Own text: which branches are right, as the other program tells it.
-/
import Derived.Test.YthfgfhbinggpfaaDoorBunZD
import Derived.Test.YthfgfhbinggpfaaDoorSNodeW
namespace Go.Proofs.YthfgfhbinggpfaaDoor
open Go.RowKit

theorem out_zero {m : Nat} {L : List Int} : L.countP (outP m) = 0 ↔ ∀ x ∈ L, 0 ≤ x ∧ x < (m : Int) := by
  rw [List.countP_eq_zero]
  constructor
  · intro h x hx
    have := h x hx
    unfold outP at this
    simpa using this
  · intro h x hx
    have := h x hx
    unfold outP
    simp [this.1, this.2]
/-- What is asked of each block: had once at most; where it is not had, empty. -/
def BlkFit (F : FsD) (k : Nat) : Prop := ∀ d, F.ds[k]? = some d → (allB F.ns).count (k : Int) ≤ 1 ∧ ((allB F.ns).count (k : Int) = 0 → d.size = 0) ∧ d.size ≤ 16
theorem ShapeP.fit {F : FsD} (h : ShapeP F) (k : Nat) : BlkFit F k := by
  intro d hd
  refine ⟨List.nodup_iff_count.1 h.2.2.2.1 _, fun h0 => h.2.2.2.2.2 k d hd (List.count_eq_zero.1 h0), h.small d (List.mem_of_getElem? hd)⟩
theorem shape_from {F : FsD} (hc : CountP F) (hr : RootP F) (h1 : ∀ n ∈ F.ns, NodP n) (h2 : (allB F.ns).countP (outP F.ds.length) = 0) (h3 : ∀ k, k < F.ds.length → BlkFit F k) (h4 : ∀ n ∈ F.ns, HoldP F.ds n) : ShapeP F := by
  rw [out_zero] at h2
  refine ⟨hc, hr, h1, List.nodup_iff_count.2 fun x => ?_, h4, fun k d hd hm => ?_⟩
  · by_cases hx : x ∈ allB F.ns
    · obtain ⟨h5, h6⟩ := h2 x hx
      obtain ⟨k, rfl⟩ := Int.eq_ofNat_of_zero_le h5
      have hk : k < F.ds.length := by omega
      exact (h3 k hk _ (List.getElem?_eq_getElem hk)).1
    · rw [List.count_eq_zero.2 hx]; omega
  · exact (h3 k (List.getElem?_eq_some_iff.1 hd).1 d hd).2.1 (List.count_eq_zero.2 hm)
theorem hold_no {F : FsD} {k : Nat} (hk : k < F.ns.length) (h : ¬ HoldP F.ds F.ns[k]) : shOk F = false := shOk_no fun hp => h (hp.2.2.2.2.1 _ (List.getElem_mem hk))

set_option maxRecDepth 20000 in
set_option maxHeartbeats 8000000 in
theorem specShapeOk (v : Value) (F : FsD) (w : World) (hsm : SmF F) (hr : RdFs w v F) :
    Calls Tryd.prog 20 #[v] w fun e w' => e = .returned (.bool (shOk F)) ∧ Below w.heap.size w w' := by
  have hrd := hr
  obtain ⟨a, ca, b, cb, rfl, _, r1, r2⟩ := hr
  have HRD : Hid (∀ W, Below w.heap.size w W → RdFs W (.agg #[.slice a F.ns.length ca, .slice b F.ds.length cb]) F) := fun W h => hrd.below h (Nat.le_refl _)
  have hb0 : Below w.heap.size w (w.alloc (.cells #[.slice a F.ns.length ca, .slice b F.ds.length cb] 30)) := below1 _ _
  have hX : Var (w.alloc (.cells #[.slice a F.ns.length ca, .slice b F.ds.length cb] 30)) w.heap.size #[.slice a F.ns.length ca, .slice b F.ds.length cb] 30 := Var.made _ _ _
  have HR1 : Hid (RdNs w a F.ns) := r1
  have HR2 : Hid (RdS w b F.ds) := r2
  have HSM : Hid (SmF F) := hsm
  have hs1 := hsm.1
  have hs2 := hsm.2.2.1
  have x0 := hX.cell 0
  have x1 := hX.cell 1
  simp at x0 x1
  clear hrd hsm
  have HIN : Hid (∀ (x lo hi : Int) Q W, (decide (lo ≤ x) && decide (x ≤ hi)) = Q → Calls Tryd.prog 40 #[.int .i64 x, .int .i64 lo, .int .i64 hi] W fun e w' => e = .returned (.bool Q) ∧ w' = W) := by
    rintro x lo hi Q W rfl
    exact inW x lo hi W
  by_cases hc1 : 2 ≤ F.ns.length ∧ F.ns.length ≤ 10
  rotate_left
  · have HF : Hid (shOk F = false) := shOk_no fun h => hc1 ⟨h.1.1, h.1.2.1⟩
    have HI := HIN.out (F.ns.length : Int) 2 10 false (w.alloc (.cells #[.slice a F.ns.length ca, .slice b F.ds.length cb] 30)) (by
      rw [Bool.and_eq_false_iff]
      by_cases h9 : 2 ≤ F.ns.length
      · right; exact decide_eq_false (by omega)
      · left; exact decide_eq_false (by omega))
    have HI2 : Hid (Calls Tryd.prog 40 #[.int .i64 (F.ns.length : Int), .int .i64 2, .int .i64 10] (w.alloc (.cells #[.slice a F.ns.length ca, .slice b F.ds.length cb] 30)) fun e w' => e = .returned (.bool false) ∧ w' = (w.alloc (.cells #[.slice a F.ns.length ca, .slice b F.ds.length cb] 30))) := HI
    clear HI HIN hc1 r1 r2 hX
    go_enter Tryd.func20, Tryd.ntmps20
    go_wp2_with fail
    refine HI2.out.mono ?_
    rintro e w1 ⟨rfl, hw1⟩
    subst w1
    go_wp2
    go_ret
    exact ⟨by rw [HF.out]; rfl, hb0⟩
  obtain ⟨hn2, hn10⟩ := hc1
  have HI := HIN.out (F.ns.length : Int) 2 10 true (w.alloc (.cells #[.slice a F.ns.length ca, .slice b F.ds.length cb] 30)) (by rw [decide_eq_true (by omega), decide_eq_true (by omega)]; rfl)
  have HI2 : Hid (Calls Tryd.prog 40 #[.int .i64 (F.ns.length : Int), .int .i64 2, .int .i64 10] (w.alloc (.cells #[.slice a F.ns.length ca, .slice b F.ds.length cb] 30)) fun e w' => e = .returned (.bool true) ∧ w' = (w.alloc (.cells #[.slice a F.ns.length ca, .slice b F.ds.length cb] 30))) := HI
  clear HI
  by_cases hc1 : 1 ≤ F.ds.length ∧ F.ds.length ≤ 36
  rotate_left
  · have HF : Hid (shOk F = false) := shOk_no fun h => hc1 ⟨h.1.2.2.1, h.1.2.2.2⟩
    have HI := HIN.out (F.ds.length : Int) 1 36 false (w.alloc (.cells #[.slice a F.ns.length ca, .slice b F.ds.length cb] 30)) (by
      rw [Bool.and_eq_false_iff]
      by_cases h9 : 1 ≤ F.ds.length
      · right; exact decide_eq_false (by omega)
      · left; exact decide_eq_false (by omega))
    have HI3 : Hid (Calls Tryd.prog 40 #[.int .i64 (F.ds.length : Int), .int .i64 1, .int .i64 36] (w.alloc (.cells #[.slice a F.ns.length ca, .slice b F.ds.length cb] 30)) fun e w' => e = .returned (.bool false) ∧ w' = (w.alloc (.cells #[.slice a F.ns.length ca, .slice b F.ds.length cb] 30))) := HI
    clear HI HIN hc1 r1 r2 hX
    go_enter Tryd.func20, Tryd.ntmps20
    go_wp2_with fail
    refine HI2.out.mono ?_
    rintro e w1 ⟨rfl, hw1⟩
    subst w1
    go_wp2_with fail
    refine HI3.out.mono ?_
    rintro e w1 ⟨rfl, hw1⟩
    subst w1
    go_wp2
    go_ret
    exact ⟨by rw [HF.out]; rfl, hb0⟩
  obtain ⟨hd1, hd36⟩ := hc1
  have HI := HIN.out (F.ds.length : Int) 1 36 true (w.alloc (.cells #[.slice a F.ns.length ca, .slice b F.ds.length cb] 30)) (by rw [decide_eq_true (by omega), decide_eq_true (by omega)]; rfl)
  have HI3 : Hid (Calls Tryd.prog 40 #[.int .i64 (F.ds.length : Int), .int .i64 1, .int .i64 36] (w.alloc (.cells #[.slice a F.ns.length ca, .slice b F.ds.length cb] 30)) fun e w' => e = .returned (.bool true) ∧ w' = (w.alloc (.cells #[.slice a F.ns.length ca, .slice b F.ds.length cb] 30))) := HI
  have HCP : Hid (CountP F) := ⟨hn2, hn10, hd1, hd36⟩
  clear HI HIN
  obtain ⟨g, off, u, rfl, hg, _, c0, _⟩ := r1.at 0 (by omega)
  rw [Nat.zero_mul, Nat.add_zero] at c0
  have d0 := (hb0.cell (p := ⟨g, off, none⟩) hg).trans c0
  have HRT : Hid (RootP F ↔ F.ns[0].k = 2) := ⟨fun ⟨n, hn, hk⟩ => by rw [List.getElem?_eq_getElem (by omega)] at hn; injection hn with hn; rw [hn]; exact hk, fun h => ⟨_, List.getElem?_eq_getElem (by omega), h⟩⟩
  clear r1 r2 c0
  generalize F.ns[0].k = y at *
  have hpos : (0 : Int) < (F.ns.length : Int) := by omega
  by_cases hy : y = 2
  rotate_left
  · have HF : Hid (shOk F = false) := shOk_no fun h => hy (HRT.out.1 h.2.1)
    have hy2 : (y == 2) = false := by simpa using hy
    clear HRT HSM hX
    go_enter Tryd.func20, Tryd.ntmps20
    go_wp2_with fail
    refine HI2.out.mono ?_
    rintro e w1 ⟨rfl, hw1⟩
    subst w1
    go_wp2_with fail
    refine HI3.out.mono ?_
    rintro e w1 ⟨rfl, hw1⟩
    subst w1
    go_wp2
    go_ret
    exact ⟨by rw [HF.out]; rfl, hb0⟩
  have HRP : Hid (RootP F) := HRT.out.2 hy
  subst hy
  clear HRT
  go_enter Tryd.func20, Tryd.ntmps20
  go_wp2_with fail
  refine HI2.out.mono ?_
  rintro e w1 ⟨rfl, hw1⟩
  subst w1
  go_wp2_with fail
  refine HI3.out.mono ?_
  rintro e w1 ⟨rfl, hw1⟩
  subst w1
  clear HI2 HI3
  go_wp2
  clear x0 x1 d0
  generalize w.alloc (.cells #[.slice (some ⟨g, off, none⟩) F.ns.length ca, .slice b F.ds.length cb] 30) = W at *
  have hPw : w.heap.size < W.heap.size := hX.lt
  go_loopw [3] (fun i wr => ∃ k : Nat, k ≤ F.ns.length ∧ i = .int .i64 k ∧ Hid (∀ n ∈ F.ns.take k, NodP n) ∧ Hid (Var wr w.heap.size #[.slice (some ⟨g, off, none⟩) F.ns.length ca, .slice b F.ds.length cb] 30) ∧ Below w.heap.size w wr) (fun i _ => F.ns.length - (intOf i).toNat)
  case atStart => exact ⟨0, Nat.zero_le _, rfl, fun n hn => by simp at hn, hX, hb0⟩
  case round =>
    clear hX hb0
    obtain ⟨k, hk, rfl, HN, HX, hbel⟩ := hrel
    have x0 := HX.out.cell 0
    have x1 := HX.out.cell 1
    simp at x0 x1
    by_cases hlt : k < F.ns.length
    · obtain ⟨g', off', u, he, hg', hru, c0, c1, c2, c3, c4⟩ := HR1.out.at k hlt
      cases he
      have d0 := (hbel.cell (p := ⟨g, off + k * 5, none⟩) hg').trans c0
      have d1 := (hbel.cell (p := ⟨g, off + k * 5 + 1, none⟩) hg').trans c1
      have d2 := (hbel.cell (p := ⟨g, off + k * 5 + 2, none⟩) hg').trans c2
      have d3 := (hbel.cell (p := ⟨g, off + k * 5 + 3, none⟩) hg').trans c3
      have d4 := (hbel.cell (p := ⟨g, off + k * 5 + 4, none⟩) hg').trans c4
      have HNO : Hid (¬ NodP F.ns[k] → shOk F = false) := fun h => shOk_no fun hp => h (hp.2.2.1 _ (List.getElem_mem hlt))
      have HTK : Hid (F.ns.take (k + 1) = F.ns.take k ++ [F.ns[k]]) := List.take_succ_eq_append_getElem hlt
      have HNL : Hid (F.ns[k].b.length ≤ 1048576) := HSM.out.2.1 _ (List.getElem_mem hlt)
      have HRU : Hid (RdN wr (aggN F.ns[k] u) F.ns[k]) := (hru.below hbel (Nat.le_refl _)).node
      clear c0 c1 c2 c3 c4 hru
      generalize F.ns[k] = n at *
      go_wp2_with fail
      refine (specNodeOk (aggN n u) n _ HNL.out HRU.out).mono ?_
      rintro e w1 ⟨rfl, hb1⟩
      have hbel1 : Below w.heap.size w w1 := hbel.trans (hb1.mono hbel.size)
      have HX1 : Hid (Var w1 w.heap.size #[.slice (some ⟨g, off, none⟩) F.ns.length ca, .slice b F.ds.length cb] 30) := HX.out.new hb1
      clear hbel HX hb1 x0 x1 d0 d1 d2 d3 d4 HRU
      obtain ⟨q1, hq1⟩ : ∃ q, ndOk n = q := ⟨_, rfl⟩
      rw [hq1]
      cases q1 with
      | false =>
        have HF : Hid (shOk F = false) := HNO.out fun h => absurd (ndOk_yes h) (by rw [hq1]; decide)
        clear hq1
        go_wp2
        go_ret
        exact ⟨by rw [HF.out]; rfl, hbel1⟩
      | true =>
        have HN2 : Hid (∀ n ∈ F.ns.take (k + 1), NodP n) := by
          show ∀ n ∈ F.ns.take (k + 1), NodP n
          rw [HTK.out]
          intro m hm
          rcases List.mem_append.1 hm with hm | hm
          · exact HN.out m hm
          · rw [List.mem_singleton] at hm; rw [hm]; exact ndOk_iff.1 hq1
        clear hq1
        go_wp2
        go_roundw
        case rel => exact ⟨k + 1, by omega, by go_num, HN2, HX1, hbel1⟩
        case measure => simp [intOf]; omega
    · obtain rfl : k = F.ns.length := by omega
      have HNP : Hid (∀ n ∈ F.ns, NodP n) := by have := HN.out; rwa [List.take_length] at this
      clear HN
      go_wp2_with fail
      refine (usedW _ F _ hn10 hd36 (fun n hn => (HNP.out n hn).len) (HRD.out _ hbel)).mono ?_
      rintro e w1 ⟨u1, rfl, ho1, hb1⟩
      have hlu := usedL_len F.ds.length (allB F.ns)
      obtain ⟨g1, c1, cur1, he1, _⟩ : ∃ g1 c1 cur1, u1 = .slice (some ⟨g1, 0, none⟩) (F.ds.length + 1) c1 ∧ w1.heap[g1]? = some cur1 := by
        rcases ho1.2 with ⟨_, h0⟩ | ⟨g1, c1, cur, h1, _, h2, _⟩
        · omega
        · exact ⟨g1, c1, _, h1, h2⟩
      subst he1
      have hbel1 : Below w.heap.size w w1 := hbel.trans (hb1.mono hbel.size)
      have hX1 := HX.out.new hb1
      have x0 := hX1.cell 0
      have x1 := hX1.cell 1
      simp at x0 x1
      have HUS : Hid (∀ k, k < F.ds.length → w1.cell? ⟨g1, k, none⟩ = some (.int .i64 ((allB F.ns).count (k : Int) : Nat))) := by
        intro k hk
        rw [ho1.cellAt k (by omega), List.getElem?_map, usedL_at _ hk]; rfl
      have hend : w1.cell? ⟨g1, F.ds.length, none⟩ = some (.int .i64 ((allB F.ns).countP (outP F.ds.length) : Nat)) := by
        rw [ho1.cellAt F.ds.length (by omega), List.getElem?_map, usedL_end]; rfl
      have HOZ : Hid ((allB F.ns).countP (outP F.ds.length) ≠ 0 → shOk F = false) := fun h => shOk_no fun hp => h (out_zero.2 fun x hx => by have := hp.there x hx; omega)
      have HZO : Hid ((allB F.ns).countP (outP F.ds.length) = 0 → ∀ x ∈ allB F.ns, 0 ≤ x ∧ x < (F.ds.length : Int)) := fun h => out_zero.1 h
      have HFR : Hid ((allB F.ns).countP (outP F.ds.length) = 0 → (∀ k, k < F.ds.length → BlkFit F k) → (∀ n ∈ F.ns, HoldP F.ds n) → shOk F = true) := fun h2 h3 h4 => shOk_yes (shape_from HCP.out HRP.out HNP.out h2 h3 h4)
      clear ho1 hb1 HX hbel hlu
      generalize hoc : (allB F.ns).countP (outP F.ds.length) = oc at *
      clear hoc
      have i1 : (F.ds.length : Int) < (F.ds.length : Int) + 1 := by omega
      by_cases hoc : oc = 0
      rotate_left
      · have HF : Hid (shOk F = false) := HOZ.out hoc
        have hgt : (0 : Int) < (oc : Int) := by omega
        clear HOZ HZO HFR
        go_wp2
        go_ret
        exact ⟨by rw [HF.out]; rfl, hbel1⟩
      subst hoc
      have HIN : Hid (∀ x ∈ allB F.ns, 0 ≤ x ∧ x < (F.ds.length : Int)) := HZO.out rfl
      have HFR2 : Hid ((∀ k, k < F.ds.length → BlkFit F k) → (∀ n ∈ F.ns, HoldP F.ds n) → shOk F = true) := HFR.out rfl
      clear HOZ HZO HFR
      go_wp2
      go_loopw [5] (fun i wr => ∃ k : Nat, k ≤ F.ds.length ∧ i = .int .i64 k ∧ Hid (∀ j, j < k → BlkFit F j) ∧ wr = w1) (fun i _ => F.ds.length - (intOf i).toNat)
      case atStart => exact ⟨0, Nat.zero_le _, rfl, fun j h => by omega, rfl⟩
      case round =>
        obtain ⟨k, hk, rfl, HB, hwr⟩ := hrel
        subst wr
        by_cases hlt : k < F.ds.length
        · have hu := HUS.out k hlt
          obtain ⟨g2, off2, rfl, hg2, hcd⟩ := HR2.out.cellT k hlt
          have hcd1 := (hbel1.cell (p := ⟨g2, off2 + k, none⟩) hg2).trans hcd
          have HBF : Hid (BlkFit F k ↔ ((allB F.ns).count (k : Int) ≤ 1 ∧ ((allB F.ns).count (k : Int) = 0 → F.ds[k].size = 0) ∧ F.ds[k].size ≤ 16)) := by
            constructor
            · intro h; exact h _ (List.getElem?_eq_getElem hlt)
            · intro h d hd
              rw [List.getElem?_eq_getElem hlt] at hd
              injection hd with hd
              rw [← hd]; exact h
          have HNO : Hid (¬ BlkFit F k → shOk F = false) := fun h => shOk_no fun hp => h (hp.fit k)
          have hdz := HSM.out.2.2.2 _ (List.getElem_mem hlt)
          clear hcd
          generalize hct : (allB F.ns).count (k : Int) = c at *
          clear hct
          generalize F.ds[k] = d at *
          have j1 : (k : Int) < (F.ds.length : Int) + 1 := by omega
          have j2 : (k : Int) < (F.ds.length : Int) := by omega
          by_cases hc1' : c ≤ 1
          rotate_left
          · have HF : Hid (shOk F = false) := HNO.out fun h => hc1' (HBF.out.1 h).1
            have hgt : (1 : Int) < (c : Int) := by omega
            clear HNO HBF HB
            go_wp2
            go_ret
            exact ⟨by rw [HF.out]; rfl, hbel1⟩
          have hgt : ¬ (1 : Int) < (c : Int) := by omega
          have hgtd : decide ((1 : Int) < (c : Int)) = false := decide_eq_false hgt
          by_cases hdl : d.size ≤ 16
          rotate_left
          · have HF : Hid (shOk F = false) := HNO.out fun h => hdl (HBF.out.1 h).2.2
            have hne : (d.toList == []) = false := by
              obtain ⟨⟨l⟩⟩ := d
              cases l with
              | nil => exact absurd (show (0 : Nat) ≤ 16 by omega) hdl
              | cons x l => simp [ByteArray.toList_eq]
            have hlg : (16 : Int) < (d.size : Int) := by omega
            clear HNO HBF HB
            by_cases hc0 : c = 0
            · subst hc0
              go_wp2
              go_ret
              exact ⟨by rw [HF.out]; rfl, hbel1⟩
            · have hc0b : ((c : Int) == 0) = false := by simp; omega
              go_wp2
              go_ret
              exact ⟨by rw [HF.out]; rfl, hbel1⟩
          have hlg : ¬ (16 : Int) < (d.size : Int) := by omega
          by_cases hc0 : c = 0
          · subst hc0
            by_cases hd0 : d.size = 0
            · obtain rfl : d = ⟨#[]⟩ := by
                obtain ⟨⟨l⟩⟩ := d
                congr 1
                congr 1
                exact List.eq_nil_of_length_eq_zero hd0
              have HB2 : Hid (∀ j, j < k + 1 → BlkFit F j) := by
                intro j hj
                by_cases e : j = k
                · rw [e]; exact HBF.out.2 ⟨by omega, fun _ => rfl, hdl⟩
                · exact HB.out j (by omega)
              clear HNO HBF HB
              go_wp2
              go_roundw
              case rel => exact ⟨k + 1, by omega, by go_num, HB2, trivial⟩
              case measure => simp [intOf]; omega
            · have HF : Hid (shOk F = false) := HNO.out fun h => hd0 ((HBF.out.1 h).2.1 rfl)
              have hne : (d.toList == []) = false := by
                obtain ⟨⟨l⟩⟩ := d
                cases l with
                | nil => exact absurd rfl hd0
                | cons x l => simp [ByteArray.toList_eq]
              clear HNO HBF HB
              go_wp2
              go_ret
              exact ⟨by rw [HF.out]; rfl, hbel1⟩
          · have hc0b : ((c : Int) == 0) = false := by simp; omega
            have HB2 : Hid (∀ j, j < k + 1 → BlkFit F j) := by
              intro j hj
              by_cases e : j = k
              · rw [e]; exact HBF.out.2 ⟨hc1', fun h => absurd h hc0, hdl⟩
              · exact HB.out j (by omega)
            clear HNO HBF HB
            go_wp2
            go_roundw
            case rel => exact ⟨k + 1, by omega, by go_num, HB2, trivial⟩
            case measure => simp [intOf]; omega
        · obtain rfl : k = F.ds.length := by omega
          have HFR3 : Hid ((∀ n ∈ F.ns, HoldP F.ds n) → shOk F = true) := fun h => HFR2.out HB.out h
          clear HFR2 HB HUS hend
          have HX1 : Hid (Var w1 w.heap.size #[.slice (some ⟨g, off, none⟩) F.ns.length ca, .slice b F.ds.length cb] 30) := hX1
          go_wp2
          clear x0 x1
          go_loopw [6, 7, 8] (fun i _ _ wr => ∃ k : Nat, k ≤ F.ns.length ∧ i = .int .i64 k ∧ Hid (∀ n ∈ F.ns.take k, HoldP F.ds n) ∧ Hid (Var wr w.heap.size #[.slice (some ⟨g, off, none⟩) F.ns.length ca, .slice b F.ds.length cb] 30) ∧ Below w.heap.size w wr) (fun i _ _ _ => F.ns.length - (intOf i).toNat)
          case atStart => exact ⟨0, Nat.zero_le _, rfl, fun n hn => by simp at hn, HX1, hbel1⟩
          case round =>
            clear HX1 hX1 hbel1
            obtain ⟨k, hk, rfl, HN, HX, hbel⟩ := hrel
            have x0 := HX.out.cell 0
            simp at x0
            by_cases hlt : k < F.ns.length
            · obtain ⟨g', off', u, he, hg', hru, c0, c1, c2, c3, c4⟩ := HR1.out.at k hlt
              cases he
              have d0 := (hbel.cell (p := ⟨g, off + k * 5, none⟩) hg').trans c0
              have d1 := (hbel.cell (p := ⟨g, off + k * 5 + 1, none⟩) hg').trans c1
              have d2 := (hbel.cell (p := ⟨g, off + k * 5 + 2, none⟩) hg').trans c2
              have d3 := (hbel.cell (p := ⟨g, off + k * 5 + 3, none⟩) hg').trans c3
              have d4 := (hbel.cell (p := ⟨g, off + k * 5 + 4, none⟩) hg').trans c4
              have HTK : Hid (F.ns.take (k + 1) = F.ns.take k ++ [F.ns[k]]) := List.take_succ_eq_append_getElem hlt
              have HNO : Hid (¬ HoldP F.ds F.ns[k] → shOk F = false) := fun h => hold_no hlt h
              have HNK : Hid (NodP F.ns[k]) := HNP.out _ (List.getElem_mem hlt)
              have HIK : Hid (∀ x ∈ F.ns[k].b, 0 ≤ x ∧ x < (F.ds.length : Int)) := fun x hx => HIN.out x (mem_allB.2 ⟨_, List.getElem_mem hlt, hx⟩)
              obtain ⟨ua, uc, rfl, _, _, hru⟩ := hru
              have HBS : Hid (∀ j (hj : j < F.ns[k].b.length), ∃ g2 off2, ua = some ⟨g2, off2, none⟩ ∧ g2 < w.heap.size ∧ w.cell? ⟨g2, off2 + j, none⟩ = some (.int .i64 F.ns[k].b[j])) := by
                intro j hj
                obtain ⟨g2, off2, rfl, h1, hc⟩ := hru.cellI j hj
                exact ⟨g2, off2, rfl, h1, hc⟩
              clear c0 c1 c2 c3 c4 hru
              generalize F.ns[k] = n at *
              have hb9 : Below wr.heap.size wr (wr.alloc (.cells #[.int .i64 n.k, .int .i64 n.g, .int .i64 n.t, .int .i64 n.s, .slice ua n.b.length uc] 44)) := below1 _ _
              have hbel9 : Below w.heap.size w (wr.alloc (.cells #[.int .i64 n.k, .int .i64 n.g, .int .i64 n.t, .int .i64 n.s, .slice ua n.b.length uc] 44)) := hbel.trans (hb9.mono hbel.size)
              have hV9 : Var (wr.alloc (.cells #[.int .i64 n.k, .int .i64 n.g, .int .i64 n.t, .int .i64 n.s, .slice ua n.b.length uc] 44)) wr.heap.size #[.int .i64 n.k, .int .i64 n.g, .int .i64 n.t, .int .i64 n.s, .slice ua n.b.length uc] 44 := Var.made _ _ _
              have hX9 := HX.out.new hb9
              obtain ⟨hz0, hz1, _⟩ := HNK.out.size
              have hz5 := HNK.out.len
              go_wp2
              clear d0 d1 d2 d3 d4 hb9 HX hbel x0
              generalize wr.alloc (.cells #[.int .i64 n.k, .int .i64 n.g, .int .i64 n.t, .int .i64 n.s, .slice ua n.b.length uc] 44) = W9 at *
              generalize wr.heap.size = Q at *
              go_loopw [8] (fun i wr => ∃ j : Nat, j ≤ n.b.length ∧ i = .int .i64 j ∧ Hid (HoldTo F.ds n.s n.b j) ∧ ∃ q, wr = W9.drewN q) (fun i _ => n.b.length - (intOf i).toNat)
              case atStart => exact ⟨0, Nat.zero_le _, rfl, fun j x h => by omega, 0, rfl⟩
              case round =>
                obtain ⟨j, hj, rfl, HJ, q, hwr⟩ := hrel
                have hV : Var wr Q #[.int .i64 n.k, .int .i64 n.g, .int .i64 n.t, .int .i64 n.s, .slice ua n.b.length uc] 44 := by rw [hwr]; exact hV9
                have hXr : Var wr w.heap.size #[.slice (some ⟨g, off, none⟩) F.ns.length ca, .slice b F.ds.length cb] 30 := by rw [hwr]; exact hX9
                have hbel : Below w.heap.size w wr := by rw [hwr]; exact hbel9.trans ⟨rfl, rfl, rfl, Nat.le_refl _, fun _ _ => rfl⟩
                have HBQ : Hid (∀ p, Below w.heap.size w (wr.drewN p)) := fun p => hbel.trans ⟨rfl, rfl, rfl, Nat.le_refl _, fun _ _ => rfl⟩
                have HQ : Hid (∀ p, ∃ q, wr.drewN p = W9.drewN q) := fun p => ⟨q + p, by rw [hwr, World.drewN_drewN]⟩
                have v3 := hV.cell 3
                have v4 := hV.cell 4
                have z1 := hXr.cell 1
                simp at v3 v4 z1
                by_cases hjt : j < n.b.length
                · obtain ⟨g2, off2, rfl, hg2, hcb⟩ := HBS.out j hjt
                  have e4 := (hbel.cell (p := ⟨g2, off2 + j, none⟩) hg2).trans hcb
                  have hin := HIK.out _ (List.getElem_mem hjt)
                  have HXJ : Hid (n.b[j]? = some n.b[j]) := List.getElem?_eq_getElem hjt
                  clear hcb hwr
                  generalize n.b[j] = x at *
                  obtain ⟨hx0, hx1⟩ := hin
                  obtain ⟨m, rfl⟩ := Int.eq_ofNat_of_zero_le hx0
                  have hm : m < F.ds.length := by omega
                  obtain ⟨g3, off3, rfl, hg3, hcd⟩ := HR2.out.cellT m hm
                  have e5 := (hbel.cell (p := ⟨g3, off3 + m, none⟩) hg3).trans hcd
                  have hdz := HSM.out.2.2.2 _ (List.getElem_mem hm)
                  have HDM : Hid (F.ds[m]? = some F.ds[m]) := List.getElem?_eq_getElem hm
                  clear hcd
                  generalize F.ds[m] = d at *
                  have HLG : Hid (∀ W, Calls Tryd.prog 43 #[.int .i64 n.s, .int .i64 (j : Nat)] W fun e w' => e = .returned (.int .i64 (longB n.s j)) ∧ w' = W) := fun W => longW n.s j W hz0 hz1 (by omega)
                  obtain ⟨lg, HLL⟩ : ∃ x, Hid (longB n.s j = x) := ⟨_, rfl⟩
                  rw [HLL.out] at HLG
                  have k0 : (0 : Int) ≤ (j : Int) := by omega
                  have k1 : (j : Int) < (n.b.length : Int) := by omega
                  by_cases hq : (d.size : Int) = lg
                  · have HJ2 : Hid (HoldTo F.ds n.s n.b (j + 1)) := by
                      intro i x hi hx
                      by_cases e : i = j
                      · subst e
                        rw [HXJ.out] at hx
                        injection hx with hx
                        subst hx
                        exact ⟨by omega, d, by rw [Int.toNat_natCast]; exact HDM.out, by rw [HLL.out]; exact hq⟩
                      · exact HJ.out i x (by omega) hx
                    subst hq
                    clear HJ HXJ HDM HLL hV hXr hbel
                    go_wp2
                    go_quiet (first | (go_at_call 43; exact Calls.quiet_of_same (HLG.out _)))
                    go_wp2
                    go_roundw
                    case rel => exact ⟨j + 1, by omega, by go_num, HJ2, HQ.out _⟩
                    case measure => simp [intOf]; omega
                  · have HF : Hid (shOk F = false) := HNO.out fun h => by
                      obtain ⟨_, d', hd', hs'⟩ := h j _ hjt HXJ.out
                      rw [Int.toNat_natCast, HDM.out] at hd'
                      injection hd' with hd'
                      rw [← hd', HLL.out] at hs'
                      exact hq hs'
                    have hqb : ((d.size : Int) == lg) = false := by simpa using hq
                    clear HJ HXJ HDM HLL hV hXr hbel
                    go_wp2
                    go_quiet (first | (go_at_call 43; exact Calls.quiet_of_same (HLG.out _)))
                    go_wp2
                    go_ret
                    exact ⟨by rw [HF.out]; rfl, HBQ.out _⟩
                · obtain rfl : j = n.b.length := by omega
                  have HN2 : Hid (∀ n ∈ F.ns.take (k + 1), HoldP F.ds n) := by
                    show ∀ n ∈ F.ns.take (k + 1), HoldP F.ds n
                    rw [HTK.out]
                    intro m hm
                    rcases List.mem_append.1 hm with hm | hm
                    · exact HN.out m hm
                    · rw [List.mem_singleton] at hm; rw [hm]; exact HJ.out
                  have HXr : Hid (Var wr w.heap.size #[.slice (some ⟨g, off, none⟩) F.ns.length ca, .slice b F.ds.length cb] 30) := hXr
                  clear hwr HQ HBQ
                  go_wp2
                  go_roundw
                  case rel => exact ⟨k + 1, by omega, by go_num, HN2, HXr, hbel⟩
                  case measure => simp [intOf]; omega
            · obtain rfl : k = F.ns.length := by omega
              have HT : Hid (shOk F = true) := HFR3.out (by have := HN.out; rwa [List.take_length] at this)
              go_wp2
              go_ret
              exact ⟨by rw [HT.out]; rfl, hbel⟩
end Go.Proofs.YthfgfhbinggpfaaDoor
