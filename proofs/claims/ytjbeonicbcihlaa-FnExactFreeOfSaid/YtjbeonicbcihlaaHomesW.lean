/-
  Own text: how many blocks a branch has, and how many of them are free, as both programs tell it.
-/
import Derived.Test.YtjbeonicbcihlaaSShapeW
import Derived.Test.YtjbeonicbcihlaaIShapeW
namespace Go.Proofs.Ytjbeonicbcihlaa
open Go.RowKit

noncomputable def homesF (F : FsD) : Nat := if shOk F = true then 2 + F.ns.length + F.ds.length else 0
noncomputable def freeF (F : FsD) : Nat := if shOk F = true then freeL F.ds F.ds.length else 0
theorem freeL_le (ds : List ByteArray) (k : Nat) : freeL ds k ≤ k := by
  induction k with
  | zero => simp [freeL]
  | succ k ih => unfold freeL; split <;> omega
theorem freeL_succ {ds : List ByteArray} {k : Nat} (h : k < ds.length) : freeL ds (k + 1) = freeL ds k + (if ds[k].size = 0 then 1 else 0) := by
  rw [freeL, List.getElem?_eq_getElem h]; rfl

set_option maxRecDepth 20000 in
theorem specHomesOf (v : Value) (F : FsD) (w : World) (hsm : SmF F) (hr : RdFs w v F) :
    Calls Try.prog 24 #[v] w fun e w' => e = .returned (.int .i64 (homesF F : Nat)) ∧ Below w.heap.size w w' := by
  have hrd := hr
  obtain ⟨a, ca, b, cb, rfl, _, _, _⟩ := hr
  have HRD : Hid (RdFs (w.alloc (.cells #[.slice a F.ns.length ca, .slice b F.ds.length cb] 30)) (.agg #[.slice a F.ns.length ca, .slice b F.ds.length cb]) F) := hrd.below (below1 _ _) (Nat.le_refl _)
  have HSM : Hid (SmF F) := hsm
  have hs1 := hsm.1
  have hs2 := hsm.2.2.1
  have HZ : Hid (homesF F = if shOk F = true then 2 + F.ns.length + F.ds.length else 0) := rfl
  clear hrd hsm
  go_enter Try.func24, Try.ntmps24
  go_wp2_with fail
  refine (specShapeOk _ F _ HSM.out HRD.out).mono ?_
  rintro e w1 ⟨rfl, hb1⟩
  have hX : Var w1 w.heap.size #[.slice a F.ns.length ca, .slice b F.ds.length cb] 30 := (Var.made w _ _).new hb1
  have hb01 : Below w.heap.size w w1 := (below1 w _).trans (hb1.mono (by simp))
  have x0 := hX.cell 0
  have x1 := hX.cell 1
  simp at x0 x1
  obtain ⟨q, hq⟩ : ∃ q, shOk F = q := ⟨_, rfl⟩
  rw [hq]
  cases q with
  | false =>
    have HF : Hid (homesF F = 0) := by show _ = _; rw [HZ.out, hq]; rfl
    clear hq HZ
    go_wp2
    go_ret
    exact ⟨by rw [HF.out]; rfl, hb01⟩
  | true =>
    have HF : Hid (((homesF F : Nat) : Int) = 2 + (F.ns.length : Int) + (F.ds.length : Int)) := by show _ = _; rw [HZ.out, if_pos hq]; omega
    clear hq HZ
    go_wp2
    go_ret
    exact ⟨by rw [HF.out]; rfl, hb01⟩

set_option maxRecDepth 20000 in
theorem implHomesOf (v : Value) (F : FsD) (w : World) (hsm : SmF F) (hr : RdFs w v F) :
    Calls Try.prog 25 #[v] w fun e w' => e = .returned (.int .i64 (homesF F : Nat)) ∧ Below w.heap.size w w' := by
  have hrd := hr
  obtain ⟨a, ca, b, cb, rfl, _, _, _⟩ := hr
  have HRD : Hid (RdFs (w.alloc (.cells #[.slice a F.ns.length ca, .slice b F.ds.length cb] 30)) (.agg #[.slice a F.ns.length ca, .slice b F.ds.length cb]) F) := hrd.below (below1 _ _) (Nat.le_refl _)
  have HSM : Hid (SmF F) := hsm
  have hs1 := hsm.1
  have hs2 := hsm.2.2.1
  have HZ : Hid (homesF F = if shOk F = true then 2 + F.ns.length + F.ds.length else 0) := rfl
  clear hrd hsm
  go_enter Try.func25, Try.ntmps25
  go_wp2_with fail
  refine (implShapeOk _ F _ HSM.out HRD.out).mono ?_
  rintro e w1 ⟨rfl, hb1⟩
  have hX : Var w1 w.heap.size #[.slice a F.ns.length ca, .slice b F.ds.length cb] 30 := (Var.made w _ _).new hb1
  have hb01 : Below w.heap.size w w1 := (below1 w _).trans (hb1.mono (by simp))
  have x0 := hX.cell 0
  have x1 := hX.cell 1
  simp at x0 x1
  obtain ⟨q, hq⟩ : ∃ q, shOk F = q := ⟨_, rfl⟩
  rw [hq]
  cases q with
  | false =>
    have HF : Hid (homesF F = 0) := by show _ = _; rw [HZ.out, hq]; rfl
    clear hq HZ
    go_wp2
    go_ret
    exact ⟨by rw [HF.out]; rfl, hb01⟩
  | true =>
    have HF : Hid (((homesF F : Nat) : Int) = 2 + (F.ns.length : Int) + (F.ds.length : Int)) := by show _ = _; rw [HZ.out, if_pos hq]; omega
    clear hq HZ
    go_wp2
    go_ret
    exact ⟨by rw [HF.out]; rfl, hb01⟩

theorem bitW (q : Bool) (w : World) : Calls Try.prog 61 #[.bool q] w fun e w' => e = .returned (.int .i64 (if q = true then 1 else 0)) ∧ w' = w := by
  cases q
  all_goals
    go_enter Try.func61, Try.ntmps61
    go_wp2
    go_ret
    exact ⟨rfl, rfl⟩
set_option maxRecDepth 20000 in
set_option maxHeartbeats 1000000 in
theorem specFreeOf (v : Value) (F : FsD) (w : World) (hsm : SmF F) (hr : RdFs w v F) :
    Calls Try.prog 26 #[v] w fun e w' => e = .returned (.int .i64 (freeF F : Nat)) ∧ Below w.heap.size w w' := by
  have hrd := hr
  obtain ⟨a, ca, b, cb, rfl, _, _, _⟩ := hr
  have HRD : Hid (∀ W, Below w.heap.size w W → RdFs W (.agg #[.slice a F.ns.length ca, .slice b F.ds.length cb]) F) := fun W h => hrd.below h (Nat.le_refl _)
  have HSM : Hid (SmF F) := hsm
  have hs2 := hsm.2.2.1
  have HZ : Hid (freeF F = if shOk F = true then freeL F.ds F.ds.length else 0) := rfl
  clear hrd hsm
  go_enter Try.func26, Try.ntmps26
  go_wp2_with fail
  refine (specShapeOk _ F _ HSM.out (HRD.out _ (below1 _ _))).mono ?_
  rintro e w1 ⟨rfl, hb1⟩
  have hX : Var w1 w.heap.size #[.slice a F.ns.length ca, .slice b F.ds.length cb] 30 := (Var.made w _ _).new hb1
  have hb01 : Below w.heap.size w w1 := (below1 w _).trans (hb1.mono (by simp))
  have x0 := hX.cell 0
  have x1 := hX.cell 1
  simp at x0 x1
  clear hb1
  obtain ⟨q, hq⟩ : ∃ q, shOk F = q := ⟨_, rfl⟩
  rw [hq]
  cases q with
  | false =>
    have HF : Hid (freeF F = 0) := by show _ = _; rw [HZ.out, hq]; rfl
    clear hq HZ
    go_wp2
    go_ret
    exact ⟨by rw [HF.out]; rfl, hb01⟩
  | true =>
    have HF : Hid (freeF F = freeL F.ds F.ds.length) := by show _ = _; rw [HZ.out, if_pos hq]
    have HSP : Hid (ShapeP F) := shOk_iff.1 hq
    clear hq HZ
    go_wp2_with fail
    refine (usedW _ F _ HSP.out.1.2.1 HSP.out.1.2.2.2 (fun n hn => (HSP.out.2.2.1 n hn).len) (HRD.out _ hb01)).mono ?_
    rintro e w2 ⟨u1, rfl, ho1, hb2⟩
    have hlu := usedL_len F.ds.length (allB F.ns)
    obtain ⟨g1, c1, cur1, he1, _⟩ : ∃ g1 c1 cur1, u1 = .slice (some ⟨g1, 0, none⟩) (F.ds.length + 1) c1 ∧ w2.heap[g1]? = some cur1 := by
      rcases ho1.2 with ⟨_, h0⟩ | ⟨g1, c1, cur, h1, _, h2, _⟩
      · omega
      · exact ⟨g1, c1, _, h1, h2⟩
    subst he1
    have hbel1 : Below w.heap.size w w2 := hb01.trans (hb2.mono hb01.size)
    have hX1 := hX.new hb2
    have z1 := hX1.cell 1
    simp at z1
    have HUS : Hid (∀ k, k < F.ds.length → w2.cell? ⟨g1, k, none⟩ = some (.int .i64 ((allB F.ns).count (k : Int) : Nat))) := by
      intro k hk
      rw [ho1.cellAt k (by omega), List.getElem?_map, usedL_at _ hk]; rfl
    clear ho1 hb2 hlu hX hX1 x0 x1 hb01
    go_wp2
    go_loopw [3, 5] (fun c i wr => ∃ k : Nat, k ≤ F.ds.length ∧ c = .int .i64 (freeL F.ds k : Nat) ∧ i = .int .i64 k ∧ wr = w2) (fun _ i _ => F.ds.length - (intOf i).toNat)
    case atStart => exact ⟨0, Nat.zero_le _, rfl, rfl, rfl⟩
    case round =>
      obtain ⟨k, hk, rfl, rfl, hwr⟩ := hrel
      subst wr
      by_cases hlt : k < F.ds.length
      · have hu := HUS.out k hlt
        have hle := freeL_le F.ds k
        have HFN : Hid (((freeL F.ds (k + 1) : Nat) : Int) = (freeL F.ds k : Int) + (if (((allB F.ns).count (k : Int) : Nat) : Int) == 0 then 1 else 0)) := by
          have h1 := HSP.out.filled (List.getElem?_eq_getElem hlt)
          show _ = _
          rw [freeL_succ hlt]
          by_cases h2 : F.ds[k].size = 0
          · rw [if_pos h2, List.count_eq_zero.2 (fun h => (h1.1 h) h2)]; rfl
          · have h3 : (allB F.ns).count (k : Int) ≠ 0 := fun h => List.count_eq_zero.1 h (h1.2 h2)
            rw [if_neg h2, if_neg (by simp; omega)]; rfl
        generalize hct : (allB F.ns).count (k : Int) = c at *
        clear hct
        have j1 : (k : Int) < (F.ds.length : Int) + 1 := by omega
        obtain ⟨fl, HFL⟩ : ∃ x, Hid (freeL F.ds k = x) := ⟨_, rfl⟩
        rw [HFL.out] at hle HFN ⊢
        by_cases hc0 : c = 0
        · subst hc0
          have HBT : Hid (∀ W, Calls Try.prog 61 #[.bool true] W fun e w' => e = .returned (.int .i64 1) ∧ w' = W) := fun W => bitW true W
          have HFN2 : Hid (((freeL F.ds (k + 1) : Nat) : Int) = (fl : Int) + 1) := HFN.out
          clear HFN
          go_wp2_with fail
          refine (HBT.out _).mono ?_
          rintro e w3 ⟨rfl, hw3⟩
          subst w3
          go_wp2
          go_roundw
          case rel => exact ⟨k + 1, by omega, by rw [HFN2.out], by go_num, trivial⟩
          case measure => simp [intOf]; omega
        · have hcb : ((c : Int) == 0) = false := by simp; omega
          have HBT : Hid (∀ W, Calls Try.prog 61 #[.bool false] W fun e w' => e = .returned (.int .i64 0) ∧ w' = W) := fun W => bitW false W
          have HFN2 : Hid (((freeL F.ds (k + 1) : Nat) : Int) = (fl : Int)) := by have := HFN.out; rw [hcb] at this; show _ = _; simpa using this
          clear HFN
          go_wp2_with fail
          refine (HBT.out _).mono ?_
          rintro e w3 ⟨rfl, hw3⟩
          subst w3
          go_wp2
          go_roundw
          case rel => exact ⟨k + 1, by omega, by rw [HFN2.out], by go_num, trivial⟩
          case measure => simp [intOf]; omega
      · obtain rfl : k = F.ds.length := by omega
        go_wp2
        go_ret
        exact ⟨by rw [HF.out]; rfl, hbel1⟩

set_option maxRecDepth 20000 in
set_option maxHeartbeats 1000000 in
theorem implFreeOf (v : Value) (F : FsD) (w : World) (hsm : SmF F) (hr : RdFs w v F) :
    Calls Try.prog 27 #[v] w fun e w' => e = .returned (.int .i64 (freeF F : Nat)) ∧ Below w.heap.size w w' := by
  have hrd := hr
  obtain ⟨a, ca, b, cb, rfl, _, _, r2⟩ := hr
  have HRD : Hid (∀ W, Below w.heap.size w W → RdFs W (.agg #[.slice a F.ns.length ca, .slice b F.ds.length cb]) F) := fun W h => hrd.below h (Nat.le_refl _)
  have HR2 : Hid (RdS w b F.ds) := r2
  have HSM : Hid (SmF F) := hsm
  have hs2 := hsm.2.2.1
  have HZ : Hid (freeF F = if shOk F = true then freeL F.ds F.ds.length else 0) := rfl
  clear hrd hsm r2
  go_enter Try.func27, Try.ntmps27
  go_wp2_with fail
  refine (implShapeOk _ F _ HSM.out (HRD.out _ (below1 _ _))).mono ?_
  rintro e w1 ⟨rfl, hb1⟩
  have hX : Var w1 w.heap.size #[.slice a F.ns.length ca, .slice b F.ds.length cb] 30 := (Var.made w _ _).new hb1
  have hb01 : Below w.heap.size w w1 := (below1 w _).trans (hb1.mono (by simp))
  have x1 := hX.cell 1
  simp at x1
  clear hb1
  obtain ⟨q, hq⟩ : ∃ q, shOk F = q := ⟨_, rfl⟩
  rw [hq]
  cases q with
  | false =>
    have HF : Hid (freeF F = 0) := by show _ = _; rw [HZ.out, hq]; rfl
    clear hq HZ
    go_wp2
    go_ret
    exact ⟨by rw [HF.out]; rfl, hb01⟩
  | true =>
    have HF : Hid (freeF F = freeL F.ds F.ds.length) := by show _ = _; rw [HZ.out, if_pos hq]
    clear hq HZ
    go_wp2
    go_loopw [3, 5, 12] (fun c _ i wr => ∃ k : Nat, k ≤ F.ds.length ∧ c = .int .i64 (freeL F.ds k : Nat) ∧ i = .int .i64 k ∧ wr = w1) (fun _ _ i _ => F.ds.length - (intOf i).toNat)
    case atStart => exact ⟨0, Nat.zero_le _, rfl, rfl, rfl⟩
    case round =>
      obtain ⟨k, hk, rfl, rfl, hwr⟩ := hrel
      subst wr
      by_cases hlt : k < F.ds.length
      · obtain ⟨g, off, rfl, hg, hc⟩ := HR2.out.cellT k hlt
        have hcr := (hb01.cell (p := ⟨g, off + k, none⟩) hg).trans hc
        have hle := freeL_le F.ds k
        have HFN : Hid (((freeL F.ds (k + 1) : Nat) : Int) = (freeL F.ds k : Int) + (if F.ds[k].size = 0 then 1 else 0)) := by
          show _ = _
          rw [freeL_succ hlt]
          split <;> rfl
        clear hc
        generalize F.ds[k] = d at *
        obtain ⟨fl, HFL⟩ : ∃ x, Hid (freeL F.ds k = x) := ⟨_, rfl⟩
        rw [HFL.out] at hle HFN ⊢
        by_cases h0 : d.size = 0
        · obtain rfl : d = ⟨#[]⟩ := by
            obtain ⟨⟨l⟩⟩ := d
            congr 1
            congr 1
            exact List.eq_nil_of_length_eq_zero h0
          have HFN2 : Hid (((freeL F.ds (k + 1) : Nat) : Int) = (fl : Int) + 1) := HFN.out
          clear HFN
          go_wp2
          go_roundw
          case rel => exact ⟨k + 1, by omega, by rw [HFN2.out], by go_num, trivial⟩
          case measure => simp [intOf]; omega
        · have hne : (d.toList == []) = false := by
            obtain ⟨⟨l⟩⟩ := d
            cases l with
            | nil => exact absurd rfl h0
            | cons x l => simp [ByteArray.toList_eq]
          have HFN2 : Hid (((freeL F.ds (k + 1) : Nat) : Int) = (fl : Int)) := by have := HFN.out; rw [if_neg h0] at this; show _ = _; simpa using this
          clear HFN
          go_wp2
          go_roundw
          case rel => exact ⟨k + 1, by omega, by rw [HFN2.out], by go_num, trivial⟩
          case measure => simp [intOf]; omega
      · obtain rfl : k = F.ds.length := by omega
        go_wp2
        go_ret
        exact ⟨by rw [HF.out]; rfl, hb01⟩
end Go.Proofs.Ytjbeonicbcihlaa
