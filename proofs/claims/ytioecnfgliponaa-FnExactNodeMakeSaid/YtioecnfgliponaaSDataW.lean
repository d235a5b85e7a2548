/-
  Own text: what the other program reads of a node.
-/
import Derived.Test.YtioecnfgliponaaDataB
import Derived.Test.YtioecnfgliponaaSShapeW
import Derived.Test.YtioecnfgliponaaINodeW
namespace Go.Proofs.Ytioecnfgliponaa
open Go.RowKit

theorem belowN {B : Nat} {v w : World} (h : Below B v w) (n : Nat) : Below B v (w.drewN n) := h.trans ⟨rfl, rfl, rfl, Nat.le_refl _, fun _ _ => rfl⟩
theorem natOf {i : Int} (h : 0 ≤ i) : ∃ k : Nat, i = (k : Int) := ⟨i.toNat, by omega⟩
theorem ndAt_nat {F : FsD} {k : Nat} (h : k < F.ns.length) : ndAt F (k : Int) = F.ns[k] := by rw [ndAt_get (by simpa using h)]; simp

set_option maxRecDepth 20000 in
set_option maxHeartbeats 4000000 in
theorem specIs (v : Value) (F : FsD) (i : Int) (w : World) (hsm : SmF F) (hr : RdFs w v F) :
    Calls Try.prog 22 #[v, .int .i64 i] w fun e w' => e = .returned (.bool (usB F i)) ∧ Below w.heap.size w w' := by
  obtain ⟨a, ca, b, cb, rfl, hq, r1, r2⟩ := hr
  have hr' : RdFs w (.agg #[.slice a F.ns.length ca, .slice b F.ds.length cb]) F := ⟨a, ca, b, cb, rfl, hq, r1, r2⟩
  have HSH : Hid (Calls Try.prog 41 #[.agg #[.slice a F.ns.length ca, .slice b F.ds.length cb]] (w.alloc (.cells #[.slice a F.ns.length ca, .slice b F.ds.length cb] 31)) fun e w' => e = .returned (.bool (shOk F)) ∧ Below (w.heap.size + 1) (w.alloc (.cells #[.slice a F.ns.length ca, .slice b F.ds.length cb] 31)) w') := by
    have := specShapeOk _ F (w.alloc (.cells #[.slice a F.ns.length ca, .slice b F.ds.length cb] 31)) hsm (hr'.below (below1 _ _) (Nat.le_refl _))
    rw [show (w.alloc (.cells #[.slice a F.ns.length ca, .slice b F.ds.length cb] 31)).heap.size = w.heap.size + 1 by simp] at this
    exact this
  have hs1 := hsm.1
  have HV : Hid (∀ W, Below (w.heap.size + 1) (w.alloc (.cells #[.slice a F.ns.length ca, .slice b F.ds.length cb] 31)) W → W.cell? ⟨w.heap.size, 0, none⟩ = some (.slice a F.ns.length ca) ∧ Below w.heap.size w W) := fun W h => ⟨by have := ((Var.made w #[.slice a F.ns.length ca, .slice b F.ds.length cb] 31).below h (by omega)).cell 0; simpa using this, (below1 w _).trans (h.mono (by omega))⟩
  have HNS : Hid (∀ W, Below w.heap.size w W → RdNs W a F.ns) := fun W h => r1.below h (Nat.le_refl _)
  have HIN : Hid (∀ x hi q W, (decide ((0 : Int) ≤ x) && decide (x ≤ hi)) = q → Calls Try.prog 42 #[.int .i64 x, .int .i64 0, .int .i64 hi] W fun e w' => e = .returned (.bool q) ∧ w' = W) := by
    intro x hi q W h
    rw [← h]
    exact inW x 0 hi W
  clear r1 r2 hq hr' hsm
  by_cases hS : ShapeP F
  · have HSO : shOk F = true := shOk_yes hS
    rw [HSO] at HSH
    by_cases hi : 0 ≤ i ∧ i ≤ (F.ns.length : Int) - 1
    · obtain ⟨k, rfl⟩ := natOf hi.1
      have hk : k < F.ns.length := by omega
      have HQ : Hid ((decide ((0 : Int) ≤ (k : Int)) && decide ((k : Int) ≤ (F.ns.length : Int) - 1)) = true) := by show _ = _; rw [decide_eq_true hi.1, decide_eq_true hi.2]; rfl
      have HU : Hid (F.ns[k].k ≠ 0 ↔ UsP F (k : Int)) := ⟨fun h => ⟨hS, by omega, by simpa using hk, by rw [ndAt_nat hk]; exact h⟩, fun h => by have := h.2.2.2; rw [ndAt_nat hk] at this; exact this⟩
      clear HSO hS
      go_enter Try.func22, Try.ntmps22
      go_wp2_with fail
      refine HSH.out.mono ?_
      rintro e w1 ⟨rfl, hb1⟩
      obtain ⟨y0, hB1⟩ := HV.out w1 hb1
      obtain ⟨g, off, u, rfl, hblt, _, c0, _, _, _, _⟩ := (HNS.out w1 hB1).at k hk
      clear HSH HV HNS hb1
      go_wp2_with fail
      refine (HIN.out _ _ true _ HQ.out).mono ?_
      rintro e w2 ⟨rfl, hw2⟩
      subst w2
      clear HIN HQ
      by_cases h0 : F.ns[k].k = 0
      · have HA : Hid (usB F (k : Int) = false) := usB_no fun h => HU.out.2 h h0
        have b0 : (F.ns[k].k == 0) = true := by rw [h0]; rfl
        rw [h0] at c0
        clear h0 b0
        go_wp2
        go_ret
        exact ⟨by rw [HA.out]; rfl, hB1⟩
      · have HA : Hid (usB F (k : Int) = true) := usB_yes (HU.out.1 h0)
        have b0 : (F.ns[k].k == 0) = false := by rw [beq_eq_false_iff_ne]; exact h0
        clear HU
        generalize F.ns[k].k = y at *
        go_wp2
        go_ret
        exact ⟨by rw [HA.out]; simp [h0], hB1⟩
    · have HQ : Hid ((decide ((0 : Int) ≤ i) && decide (i ≤ (F.ns.length : Int) - 1)) = false) := and_no hi
      have HA : Hid (usB F i = false) := usB_no fun h => hi ⟨h.2.1, by have := h.2.1; have := h.2.2.1; omega⟩
      clear HSO hS hi HNS
      go_enter Try.func22, Try.ntmps22
      go_wp2_with fail
      refine HSH.out.mono ?_
      rintro e w1 ⟨rfl, hb1⟩
      obtain ⟨y0, hB1⟩ := HV.out w1 hb1
      clear HSH HV hb1
      go_wp2_with fail
      refine (HIN.out _ _ false _ HQ.out).mono ?_
      rintro e w2 ⟨rfl, hw2⟩
      subst w2
      clear HIN HQ
      go_wp2
      go_ret
      exact ⟨by rw [HA.out]; rfl, hB1⟩
  · have HSO : shOk F = false := shOk_no hS
    have HA : Hid (usB F i = false) := usB_no fun h => hS h.1
    rw [HSO] at HSH
    clear hS HSO HNS
    go_enter Try.func22, Try.ntmps22
    go_wp2_with fail
    refine HSH.out.mono ?_
    rintro e w1 ⟨rfl, hb1⟩
    obtain ⟨y0, hB1⟩ := HV.out w1 hb1
    clear HSH HV hb1
    go_wp2
    go_ret
    exact ⟨by rw [HA.out]; rfl, hB1⟩

/-- What is known of a right node while it is read. -/
theorem UsP.facts {F : FsD} {k : Nat} (h : UsP F (k : Int)) : ∃ hk : k < F.ns.length, F.ns[k].b.length ≤ 5 ∧ F.ds.length ≤ 36 ∧ (∀ x ∈ F.ns[k].b, 0 ≤ x ∧ x.toNat < F.ds.length) ∧ ∀ s ∈ F.ds, s.size ≤ 16 := by
  have hk : k < F.ns.length := by simpa using h.2.2.1
  refine ⟨hk, ?_, h.1.1.2.2.2, ?_, h.1.small⟩
  · have := h.nod.len; rw [ndAt_nat hk] at this; exact this
  · intro x hx
    have := h.blk x (by rw [ndAt_nat hk]; exact hx)
    exact ⟨this.1, this.2.1⟩

set_option maxRecDepth 20000 in
set_option maxHeartbeats 4000000 in
theorem specReadW (v : Value) (F : FsD) (k : Nat) (w : World) (hu : UsP F (k : Int)) (hr : RdFs w v F) :
    Calls Try.prog 23 #[v, .int .i64 (k : Nat)] w fun e w' => e = .returned (.string (catD F.ds (ndAt F (k : Int)).b)) ∧ Below w.heap.size w w' := by
  obtain ⟨a, ca, b, cb, rfl, _, r1, r2⟩ := hr
  obtain ⟨hk, hbl, hdl, hbx, hds⟩ := hu.facts
  rw [ndAt_nat hk]
  have hkn : F.ns.length ≤ 10 := hu.1.1.2.1
  obtain ⟨g, off, u, rfl, hblt, ⟨ab, cc, rfl, hc1, hc2, hrb⟩, c0, c1, c2, c3, c4⟩ := r1.at k hk
  have HRB : Hid (∀ W, Below w.heap.size w W → Rd .i64 W ab F.ns[k].b) := fun W h => hrb.below h (Nat.le_refl _)
  have HDS : Hid (∀ W, Below w.heap.size w W → RdS W b F.ds) := fun W h => r2.below h (Nat.le_refl _)
  have HC4 : Hid (∀ W, Below w.heap.size w W → W.cell? ⟨g, off + k * 5 + 4, none⟩ = some (.slice ab F.ns[k].b.length cc)) := fun W h => (h.cell hblt).trans c4
  have HBX : Hid (∀ x ∈ F.ns[k].b, 0 ≤ x ∧ x.toNat < F.ds.length) := hbx
  have HDZ : Hid (∀ s ∈ F.ds, s.size ≤ 16) := hds
  have HV : Hid (∀ W, Below (w.heap.size + 1) (w.alloc (.cells #[.slice (some ⟨g, off, none⟩) F.ns.length ca, .slice b F.ds.length cb] 31)) W → W.cell? ⟨w.heap.size, 0, none⟩ = some (.slice (some ⟨g, off, none⟩) F.ns.length ca) ∧ W.cell? ⟨w.heap.size, 1, none⟩ = some (.slice b F.ds.length cb) ∧ Below w.heap.size w W) := fun W h => ⟨by have := ((Var.made w #[.slice (some ⟨g, off, none⟩) F.ns.length ca, .slice b F.ds.length cb] 31).below h (by omega)).cell 0; simpa using this, by have := ((Var.made w #[.slice (some ⟨g, off, none⟩) F.ns.length ca, .slice b F.ds.length cb] 31).below h (by omega)).cell 1; simpa using this, (below1 w _).trans (h.mono (by omega))⟩
  clear hu r1 r2 hrb c0 c1 c2 c3 c4 hbx hds hc1 hc2
  generalize F.ns[k].b = B at *
  go_enter Try.func23, Try.ntmps23
  go_wp2
  go_loopw [5, 6] (fun s j wr => ∃ (m : Nat), m ≤ B.length ∧ j = .int .i64 m ∧ s = .string (catD F.ds (B.take m)) ∧ Below (w.heap.size + 1) (w.alloc (.cells #[.slice (some ⟨g, off, none⟩) F.ns.length ca, .slice b F.ds.length cb] 31)) wr) (fun _ j _ => B.length - (intOf j).toNat)
  case atStart => exact ⟨0, by omega, rfl, rfl, by have := Below.refl (w.heap.size + 1) (w.alloc (.cells #[.slice (some ⟨g, off, none⟩) F.ns.length ca, .slice b F.ds.length cb] 31)); exact this⟩
  case round =>
    obtain ⟨m, hm, rfl, rfl, hbel⟩ := hrel
    obtain ⟨y0, y1, hB⟩ := HV.out wr hbel
    have c4 := HC4.out wr hB
    by_cases hlt : m < B.length
    · obtain ⟨gb, ob, rfl, hgb, hcb⟩ := (HRB.out wr hB).cellI m hlt
      have hx := HBX.out _ (List.getElem_mem hlt)
      obtain ⟨x, hxx⟩ := natOf hx.1
      rw [hxx] at hcb
      have hxl : x < F.ds.length := by have := hx.2; rw [hxx] at this; simpa using this
      obtain ⟨gd, od, rfl, hgd, hcd⟩ := (HDS.out wr hB).cellT x hxl
      have HCT : Hid (catD F.ds (B.take (m + 1)) = catD F.ds (B.take m) ++ F.ds[x]) := by show _ = _; rw [catD_take F.ds hlt, hxx, dsAt_get (by simpa using hxl)]; simp
      have hsz : (catD F.ds (B.take m)).size ≤ 80 := by
        have h1 := catD_size (ds := F.ds) (b := B.take m) (m := 16) (fun x hx' => by
          have hx2 := HBX.out x (List.mem_of_mem_take hx')
          rw [dsAt_get hx2.2]; exact HDZ.out _ (List.getElem_mem _))
        have h2 : (B.take m).length ≤ 5 := by simp; omega
        omega
      have hs2 := HDZ.out _ (List.getElem_mem hxl)
      clear hx hxx HRB HDS
      generalize F.ds[x] = d at *
      generalize catD F.ds (B.take m) = s at *
      go_upto_region 5 with fail
      go_quiet (fail)
      clear hcb hcd c4 y0 y1 hgb hgd
      go_wp2
      go_roundw
      case rel => exact ⟨m + 1, by omega, by go_num, by rw [HCT.out], belowN hbel _⟩
      case measure => simp [intOf]; omega
    · obtain rfl : m = B.length := by omega
      rw [List.take_length]
      clear HRB HDS HC4 HBX HDZ HV hbel
      go_wp2
      go_ret
      exact ⟨rfl, hB⟩

set_option maxRecDepth 20000 in
set_option maxHeartbeats 1000000 in
theorem specNodeRead (v : Value) (F : FsD) (i : Int) (w : World) (hsm : SmF F) (hr : RdFs w v F) :
    Calls Try.prog 8 #[v, .int .i64 i] w fun e w' => e = .returned (.tuple #[.string (ndRead F i), .bool (usB F i)]) ∧ Below w.heap.size w w' := by
  obtain ⟨a, ca, b, cb, rfl, hq, r1, r2⟩ := hr
  have HRF : Hid (∀ W, Below w.heap.size w W → RdFs W (.agg #[.slice a F.ns.length ca, .slice b F.ds.length cb]) F) := fun W h => RdFs.below ⟨a, ca, b, cb, rfl, hq, r1, r2⟩ h (Nat.le_refl _)
  clear r1 r2 hq
  by_cases hu : UsP F i
  · have HA : Hid (usB F i = true) := usB_yes hu
    have HRD : Hid (ndRead F i = catD F.ds (ndAt F i).b) := by show _ = _; unfold ndRead; rw [usB_yes hu]; rfl
    obtain ⟨k, rfl⟩ := natOf hu.2.1
    have HI : Hid (Calls Try.prog 22 #[.agg #[.slice a F.ns.length ca, .slice b F.ds.length cb], .int .i64 (k : Nat)] (w.alloc (.cells #[.slice a F.ns.length ca, .slice b F.ds.length cb] 31)) fun e w' => e = .returned (.bool true) ∧ Below (w.alloc (.cells #[.slice a F.ns.length ca, .slice b F.ds.length cb] 31)).heap.size (w.alloc (.cells #[.slice a F.ns.length ca, .slice b F.ds.length cb] 31)) w') := by rw [← HA.out]; exact specIs _ F (k : Int) _ hsm (HRF.out _ (below1 _ _))
    have HU : Hid (UsP F (k : Int)) := hu
    clear hu
    go_enter Try.func8, Try.ntmps8
    go_wp2_with fail
    refine HI.out.mono ?_
    rintro e w1 ⟨rfl, hb1⟩
    have hX := (Var.made w #[.slice a F.ns.length ca, .slice b F.ds.length cb] 31).new hb1
    have hB1 : Below w.heap.size w w1 := (below1 w _).trans (hb1.mono (by simp))
    have y0 := hX.cell 0
    have y1 := hX.cell 1
    simp at y0 y1
    clear hX hb1 HI
    go_wp2_with fail
    refine (specReadW _ F k _ HU.out (HRF.out _ hB1)).mono ?_
    rintro e w2 ⟨rfl, hb2⟩
    have hB2 := hB1.trans (hb2.mono hB1.size)
    clear y0 y1
    go_wp2
    go_ret2
    exact ⟨by rw [HA.out, HRD.out]; rfl, hB2⟩
  · have HA : Hid (usB F i = false) := usB_no hu
    have HRD : Hid (ndRead F i = ⟨#[]⟩) := by show _ = _; unfold ndRead; rw [usB_no hu]; rfl
    have HI : Hid (Calls Try.prog 22 #[.agg #[.slice a F.ns.length ca, .slice b F.ds.length cb], .int .i64 i] (w.alloc (.cells #[.slice a F.ns.length ca, .slice b F.ds.length cb] 31)) fun e w' => e = .returned (.bool false) ∧ Below (w.alloc (.cells #[.slice a F.ns.length ca, .slice b F.ds.length cb] 31)).heap.size (w.alloc (.cells #[.slice a F.ns.length ca, .slice b F.ds.length cb] 31)) w') := by rw [← HA.out]; exact specIs _ F i _ hsm (HRF.out _ (below1 _ _))
    clear hu
    go_enter Try.func8, Try.ntmps8
    go_wp2_with fail
    refine HI.out.mono ?_
    rintro e w1 ⟨rfl, hb1⟩
    have hB1 : Below w.heap.size w w1 := (below1 w _).trans (hb1.mono (by simp))
    clear hb1 HI
    go_wp2
    go_ret2
    exact ⟨by rw [HA.out, HRD.out]; rfl, hB1⟩
end Go.Proofs.Ytioecnfgliponaa
