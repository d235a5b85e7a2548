/-
  Own text: whether a branch is right, by the other program.
-/
import Derived.Test.YthfgfhbinggpfaaDoorBunZJ
namespace Go.Proofs.YthfgfhbinggpfaaDoor
open Go.RowKit

set_option maxRecDepth 20000 in
set_option maxHeartbeats 4000000 in
theorem specFsOk (v : Value) (F : FsD) (w : World) (hsm : SmF F) (hr : RdFs w v F) :
    Calls Tryd.prog 8 #[v] w fun e w' => e = .returned (.bool (foB F)) ∧ Below w.heap.size w w' := by
  obtain ⟨i1, ii, iz0, iz1, iz2⟩ := info_parts Tryd.infoInt
  obtain ⟨a, ca, b, cb, rfl, hq, r1, r2⟩ := hr
  have HRF : Hid (∀ W, Below w.heap.size w W → RdFs W (.agg #[.slice a F.ns.length ca, .slice b F.ds.length cb]) F) := fun W h => RdFs.below ⟨a, ca, b, cb, rfl, hq, r1, r2⟩ h (Nat.le_refl _)
  have hV := Var.made w #[.slice a F.ns.length ca, .slice b F.ds.length cb] 30
  have HV : Hid (∀ W, Below (w.heap.size + 1) (w.alloc (.cells #[.slice a F.ns.length ca, .slice b F.ds.length cb] 30)) W → W.cell? ⟨w.heap.size, 0, none⟩ = some (.slice a F.ns.length ca) ∧ W.cell? ⟨w.heap.size, 1, none⟩ = some (.slice b F.ds.length cb) ∧ Below w.heap.size w W) := fun W h => ⟨by have := (hV.below h (by omega)).cell 0; simpa using this, by have := (hV.below h (by omega)).cell 1; simpa using this, (below1 w _).trans (h.mono (by omega))⟩
  have hz0 : (w.alloc (.cells #[.slice a F.ns.length ca, .slice b F.ds.length cb] 30)).heap.size = w.heap.size + 1 := by simp
  obtain ⟨y0, y1, hbB⟩ := HV.out _ (Below.refl _ _)
  have HSH : Hid (Calls Tryd.prog 20 #[.agg #[.slice a F.ns.length ca, .slice b F.ds.length cb]] (w.alloc (.cells #[.slice a F.ns.length ca, .slice b F.ds.length cb] 30)) fun e w' => e = .returned (.bool (shOk F)) ∧ Below (w.heap.size + 1) (w.alloc (.cells #[.slice a F.ns.length ca, .slice b F.ds.length cb] 30)) w') := by
    have := specShapeOk _ F _ hsm (HRF.out _ hbB)
    rw [hz0] at this
    exact this
  clear hV hz0 hbB
  by_cases hS : ShapeP F
  rotate_left
  · have HA : Hid (foB F = false) := foB_no fun h => hS h.1
    rw [shOk_no hS] at HSH
    clear hS r1 r2 HRF
    go_enter Tryd.func8, Tryd.ntmps8
    go_wp2_with fail
    refine HSH.out.mono ?_
    rintro e w1 ⟨rfl, hb1⟩
    have hB1 := (HV.out w1 hb1).2.2
    go_wp2
    go_ret
    exact ⟨by rw [HA.out]; rfl, hB1⟩
  rw [shOk_yes hS] at HSH
  have hn10 : F.ns.length ≤ 10 := hS.1.2.1
  have hn2 : 2 ≤ F.ns.length := hS.1.1
  have HR1 : Hid (∀ W, Below w.heap.size w W → RdNs W a F.ns) := fun W h => r1.below h (Nat.le_refl _)
  obtain ⟨M, hM⟩ : ∃ M, M = madeCells #[.int .i64 0] F.ns.length := ⟨_, rfl⟩
  have hmk : ∀ W : World, (Instr.makeSlice 40 (.int .i64 (F.ns.length : Int)) (.int .i64 (F.ns.length : Int))).run Tryd.prog W = .ok (.slice (some ⟨W.heap.size, 0, none⟩) F.ns.length F.ns.length) (W.alloc (.cells M 3)) := fun W => by
    have h := run_makeSlice (P := Tryd.prog) W 40 3 i1 (.int .i64 0) Tryd.underlying40 ii iz0 .i64 .i64 (F.ns.length : Int) (F.ns.length : Int) (by omega) (by omega) (by rw [iz1]; omega) (by rw [iz2]; omega) (by omega)
    rw [hM]
    rw [iz1] at h
    simpa [Value.cells] using h
  have HSC : Hid (SeenC 5) := seenAll 5 (by omega)
  have HP : Hid (ShapeP F) := hS
  have HZO : Hid (Ones F.ns.length (List.replicate F.ns.length (0 : Int))) := ⟨by simp, fun x hx => by rw [List.eq_of_mem_replicate hx]; omega⟩
  have HMZ : Hid (∀ W : World, Rd .i64 (W.alloc (.cells M 3)) (some ⟨W.heap.size, 0, none⟩) (List.replicate F.ns.length (0 : Int))) := by
    intro W
    have h : (W.alloc (.cells M 3)).ownsRow W.heap.size 3 1 (.slice (some ⟨W.heap.size, 0, none⟩) F.ns.length F.ns.length) F.ns.length ((List.replicate F.ns.length (0 : Int)).map (Value.int .i64)) :=
      ⟨by simp, .inr ⟨W.heap.size, F.ns.length, M, rfl, Nat.le_refl _, heap_alloc_new W _, Nat.le_refl _, by unfold maxLen; omega, by rw [hM]; simp [size_madeCells], by rw [hM, made_ints]; simp⟩⟩
    obtain ⟨x, c, he, _, hr⟩ := own_rd h
    injection he with he _ _
    rw [he]; exact hr
  have HCL : Hid (∀ W, Below w.heap.size w W → Calls Tryd.prog 21 #[.agg #[.slice a F.ns.length ca, .slice b F.ds.length cb], .int .i64 0, .int .i64 0, .slice (some ⟨W.heap.size, 0, none⟩) F.ns.length F.ns.length] (W.alloc (.cells M 3)) fun e w' => ∃ u, e = .returned (.tuple #[u, .bool (seenF F 5 0 (List.replicate F.ns.length 0)).2]) ∧ RowI W.heap.size w' u (seenF F 5 0 (List.replicate F.ns.length 0)).1 ∧ Below W.heap.size W w') := by
    intro W hb
    have hb2 := hb.trans ((below1 W (.cells M 3)).mono hb.size)
    have h := HSC.out (.agg #[.slice a F.ns.length ca, .slice b F.ds.length cb]) F 0 (List.replicate F.ns.length 0) (some ⟨W.heap.size, 0, none⟩) F.ns.length (W.alloc (.cells M 3)) hS (by omega) HZO.out (HRF.out _ hb2) (HMZ.out W)
    rw [List.length_replicate] at h
    refine h.mono ?_
    rintro e w' ⟨u, rfl, h1, h2⟩
    refine ⟨u, rfl, ownsRow_base h1 (by simp), (below1 W _).trans (h2.mono (by simp))⟩
  have HIF := (seenF_iff (F := F) rfl 5 0 (List.replicate F.ns.length 0) (by omega) HZO.out)
  have hgz : ∀ x, (List.replicate F.ns.length (0 : Int)).getD x 0 = 0 := fun x => by simp only [List.getD_eq_getElem?_getD, List.getElem?_replicate]; split <;> rfl
  have hlen : (seenF F 5 0 (List.replicate F.ns.length 0)).2 = true → (seenF F 5 0 (List.replicate F.ns.length 0)).1.length = F.ns.length := fun h => (HIF.2 h).1.1
  have HNO : Hid ((seenF F 5 0 (List.replicate F.ns.length 0)).2 = false → foB F = false) := fun h => foB_no fun h2 => by
    have := HIF.1.2 ⟨h2.2.1, fun x hx => by rw [hgz, h2.2.2 x hx]; split <;> decide⟩
    rw [h] at this; cases this
  have HBAD : Hid ((seenF F 5 0 (List.replicate F.ns.length 0)).2 = true → ∀ k, k < F.ns.length → ¬ ((seenF F 5 0 (List.replicate F.ns.length 0)).1.getD k 0 = 1 ↔ (ndAt F (k : Int)).k ≠ 0) → foB F = false) := fun h k hk hx => foB_no fun h2 => hx (by
    rw [(HIF.2 h).2 k hk, hgz, h2.2.2 k hk]
    split <;> simp_all)
  have HYES : Hid ((seenF F 5 0 (List.replicate F.ns.length 0)).2 = true → (∀ k, k < F.ns.length → ((seenF F 5 0 (List.replicate F.ns.length 0)).1.getD k 0 = 1 ↔ (ndAt F (k : Int)).k ≠ 0)) → foB F = true) := fun h hx => foB_yes ⟨hS, (HIF.1.1 h).1, fun k hk => by
    have h1 := hx k hk
    have h2 := (HIF.1.1 h).2 k hk
    rw [(HIF.2 h).2 k hk, hgz] at h1
    rw [hgz] at h2
    split
    · rename_i h3; have := h1.2 h3; omega
    · rename_i h3
      have h4 : ¬ (0 : Int) + (cnD F 5 0 k : Int) = 1 := fun h => h3 (h1.1 h)
      omega⟩
  have HLN : Hid ((seenF F 5 0 (List.replicate F.ns.length 0)).2 = true → (seenF F 5 0 (List.replicate F.ns.length 0)).1.length = F.ns.length) := hlen
  have HKN : Hid (∀ k (hk : k < F.ns.length), ∃ g off, a = some ⟨g, off, none⟩ ∧ ∀ W, Below w.heap.size w W → W.cell? ⟨g, off + k * 5, none⟩ = some (.int .i64 (ndAt F (k : Int)).k)) := fun k hk => by
    obtain ⟨g, off, u, rfl, hblt, _, c0, _, _, _, _⟩ := r1.at k hk
    refine ⟨g, off, rfl, fun W h => ?_⟩
    rw [ndAt_nat hk]
    exact (h.cell hblt).trans c0
  clear HIF hgz hlen hS r1 r2 HRF HMZ HZO HSC HP HR1 hM
  generalize hq1 : (seenF F 5 0 (List.replicate F.ns.length 0)).1 = S at *
  generalize hq2 : (seenF F 5 0 (List.replicate F.ns.length 0)).2 = ok at *
  clear hq1 hq2
  go_enter Tryd.func8, Tryd.ntmps8
  go_wp2_with fail
  refine HSH.out.mono ?_
  rintro e w1 ⟨rfl, hb1⟩
  obtain ⟨z0, z1, hB1⟩ := HV.out w1 hb1
  have HB1 : Hid (Below (w.heap.size + 1) (w.alloc (.cells #[.slice a F.ns.length ca, .slice b F.ds.length cb] 30)) w1) := hb1
  have hz1 : w.heap.size < w1.heap.size := by have := hb1.size; simp at this; omega
  have HCW := HCL.out w1.drew hB1.drew
  have HC : Hid (Calls Tryd.prog 21 #[.agg #[.slice a F.ns.length ca, .slice b F.ds.length cb], .int .i64 0, .int .i64 0, .slice (some ⟨w1.heap.size, 0, none⟩) F.ns.length F.ns.length] (w1.drew.alloc (.cells M 3)) fun e w' => ∃ u, e = .returned (.tuple #[u, .bool ok]) ∧ RowI w1.heap.size w' u S ∧ Below w1.heap.size w1.drew w') := HCW
  clear HCW HCL HSH y0 y1 hb1 hB1
  go_wp2
  go_region_held3 (fun W => W.cell? ⟨w.heap.size, 0, none⟩ = some (.slice a F.ns.length ca) ∧ W.cell? ⟨w.heap.size, 1, none⟩ = some (.slice b F.ds.length cb)) (go_keep) (first
    | (go_at_call 21
       refine HC.out.mono ?_
       rintro e w2 ⟨u, rfl, hu, hb2⟩
       obtain ⟨q0, q1, hB2⟩ := HV.out w2 ((HB1.out.drew).trans (hb2.mono hz1))
       skip))
  clear HC hmk
  cases ok with
  | false =>
    have HA : Hid (foB F = false) := HNO.out rfl
    go_wp2
    go_ret
    exact ⟨by rw [HA.out]; rfl, hB2⟩
  | true =>
    have hlS : S.length = F.ns.length := HLN.out rfl
    obtain ⟨x, c, rfl, _, hrs⟩ := own_rd hu
    have HV2 : Hid (∀ W, Below w2.heap.size w2 W → W.cell? ⟨w.heap.size, 0, none⟩ = some (.slice a F.ns.length ca) ∧ W.cell? ⟨w.heap.size, 1, none⟩ = some (.slice b F.ds.length cb) ∧ Below w.heap.size w W) := fun W h => HV.out W ((HB1.out.drew).trans ((hb2.mono hz1).trans (h.mono (by have := hb2.size; have : w1.heap.size ≤ w2.heap.size := hb2.size; omega))))
    have HRS : Hid (∀ W, Below w2.heap.size w2 W → Rd .i64 W x S) := fun W h => hrs.below h (Nat.le_refl _)
    clear HV HB1 HNO HLN hu hrs hb2 q0 q1 z0 z1
    go_wp2
    go_loopw [5] (fun j wr => ∃ k : Nat, k ≤ F.ns.length ∧ j = .int .i64 k ∧ Hid (∀ q, q < k → (S.getD q 0 = 1 ↔ (ndAt F (q : Int)).k ≠ 0)) ∧ Below w2.heap.size w2 wr) (fun j _ => F.ns.length - (intOf j).toNat)
    case atStart => exact ⟨0, Nat.zero_le _, rfl, fun q hq => absurd hq (Nat.not_lt_zero _), Below.refl _ _⟩
    case round =>
      obtain ⟨k, hk, rfl, HI, hB⟩ := hrel
      obtain ⟨y0, y1, hBw⟩ := HV2.out wr hB
      by_cases hlt : k < F.ns.length
      · obtain ⟨g, off, rfl, hkc⟩ := HKN.out k hlt
        have hk1 := hkc wr hBw
        obtain ⟨gs, os, rfl, _, hs1⟩ := (HRS.out wr hB).cellI k (by omega)
        have hge : S.getD k 0 = S[k]'(by omega) := by simp [List.getD, show k < S.length by omega]
        have hI1 : Hid ((S.getD k 0 = 1 ↔ (ndAt F (k : Int)).k ≠ 0) → ∀ q, q < k + 1 → (S.getD q 0 = 1 ↔ (ndAt F (q : Int)).k ≠ 0)) := fun h q hq => by
          by_cases e : q = k
          · subst e; exact h
          · exact HI.out q (by omega)
        have HA : Hid (¬ (S.getD k 0 = 1 ↔ (ndAt F (k : Int)).k ≠ 0) → foB F = false) := HBAD.out (by trivial) k hlt
        have hltI : (k : Int) < (F.ns.length : Int) := by omega
        have hlsI : (k : Int) < (S.length : Int) := by omega
        rw [hge] at hI1 HA
        clear HI hkc hge HV2 HRS HKN HBAD HYES
        generalize S[k]'(by omega) = sk at *
        generalize (ndAt F (k : Int)).k = kk at *
        by_cases h1 : sk = 1
        · subst h1
          by_cases h2 : kk = 0
          · subst h2
            have HA2 : Hid (foB F = false) := HA.out (fun h => h.1 rfl rfl)
            clear HA hI1
            go_wp2
            go_quiet (fail)
            go_wp2
            go_ret
            exact ⟨by rw [HA2.out]; rfl, below_drewN hBw _⟩
          · have HI2 : Hid (∀ q, q < k + 1 → (S.getD q 0 = 1 ↔ (ndAt F (q : Int)).k ≠ 0)) := hI1.out ⟨fun _ => h2, fun _ => rfl⟩
            have h2b : (kk != 0) = true := by simpa using h2
            clear HA hI1
            go_wp2
            go_quiet (fail)
            go_wp2
            go_roundw
            case rel => exact ⟨k + 1, by omega, by go_num, HI2, below_drewN hB _⟩
            case measure => simp [intOf]; omega
        · have h1b : (sk == 1) = false := by simpa using h1
          by_cases h2 : kk = 0
          · subst h2
            have HI2 : Hid (∀ q, q < k + 1 → (S.getD q 0 = 1 ↔ (ndAt F (q : Int)).k ≠ 0)) := hI1.out ⟨fun h => absurd h h1, fun h => absurd rfl h⟩
            clear HA hI1
            go_wp2
            go_quiet (fail)
            go_wp2
            go_roundw
            case rel => exact ⟨k + 1, by omega, by go_num, HI2, below_drewN hB _⟩
            case measure => simp [intOf]; omega
          · have HA2 : Hid (foB F = false) := HA.out (fun h => h1 (h.2 h2))
            have h2b : (kk != 0) = true := by simpa using h2
            clear HA hI1
            go_wp2
            go_quiet (fail)
            go_wp2
            go_ret
            exact ⟨by rw [HA2.out]; rfl, below_drewN hBw _⟩
      · have hke : k = F.ns.length := by omega
        subst hke
        have HA : Hid (foB F = true) := HYES.out (by trivial) HI.out
        clear HI HV2 HRS HKN HBAD HYES
        go_wp2
        go_ret
        exact ⟨by rw [HA.out]; rfl, hBw⟩
end Go.Proofs.YthfgfhbinggpfaaDoor
