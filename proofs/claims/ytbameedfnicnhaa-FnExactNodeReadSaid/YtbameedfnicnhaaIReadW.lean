/-
  Own text: what the program reads of a node.
-/
import Derived.Test.YtbameedfnicnhaaIDataW
import Derived.Test.YtbameedfnicnhaaBldW
namespace Go.Proofs.Ytbameedfnicnhaa
open Go.RowKit

set_option maxRecDepth 20000 in
set_option maxHeartbeats 4000000 in
theorem implNodeRead (v : Value) (F : FsD) (i : Int) (w : World) (hsm : SmF F) (hr : RdFs w v F) :
    Calls Try.prog 14 #[v, .int .i64 i] w fun e w' => e = .returned (.tuple #[.string (ndRead F i), .bool (usB F i)]) ∧ Below w.heap.size w w' := by
  obtain ⟨a, ca, b, cb, rfl, hq, r1, r2⟩ := hr
  have HRF : Hid (∀ W, Below w.heap.size w W → RdFs W (.agg #[.slice a F.ns.length ca, .slice b F.ds.length cb]) F) := fun W h => RdFs.below ⟨a, ca, b, cb, rfl, hq, r1, r2⟩ h (Nat.le_refl _)
  have hV := Var.made w #[.slice a F.ns.length ca, .slice b F.ds.length cb] 27
  have hz0 : (w.alloc (.cells #[.slice a F.ns.length ca, .slice b F.ds.length cb] 27)).heap.size = w.heap.size + 1 := by simp
  have HI0 : Hid (∀ k, Calls Try.prog 36 #[.pointer (some ⟨w.heap.size, 0, none⟩), .int .i64 k] (w.alloc (.cells #[.slice a F.ns.length ca, .slice b F.ds.length cb] 27)) fun e w' => e = .returned (.bool (usB F k)) ∧ Below (w.heap.size + 1) (w.alloc (.cells #[.slice a F.ns.length ca, .slice b F.ds.length cb] 27)) w') := by
    intro k
    have := implUse w.heap.size a b ca cb F k (w.alloc (.cells #[.slice a F.ns.length ca, .slice b F.ds.length cb] 27)) hsm (by simp) ((hV.cell 0).trans rfl) ((hV.cell 1).trans rfl) (HRF.out _ (below1 _ _))
    rw [hz0] at this
    exact this
  have HV : Hid (∀ W, Below (w.heap.size + 1) (w.alloc (.cells #[.slice a F.ns.length ca, .slice b F.ds.length cb] 27)) W → W.cell? ⟨w.heap.size, 0, none⟩ = some (.slice a F.ns.length ca) ∧ W.cell? ⟨w.heap.size, 1, none⟩ = some (.slice b F.ds.length cb) ∧ Below w.heap.size w W) := fun W h => ⟨by have := (hV.below h (by omega)).cell 0; simpa using this, by have := (hV.below h (by omega)).cell 1; simpa using this, (below1 w _).trans (h.mono (by omega))⟩
  clear hV hz0
  by_cases hu : UsP F i
  · have HA : Hid (usB F i = true) := usB_yes hu
    have HRD : Hid (ndRead F i = catD F.ds (ndAt F i).b) := by show _ = _; unfold ndRead; rw [usB_yes hu]; rfl
    obtain ⟨k, rfl⟩ := natOf hu.2.1
    obtain ⟨hk, hbl, hdl, hbx, hds⟩ := hu.facts
    have HI2 : Hid (Calls Try.prog 36 #[.pointer (some ⟨w.heap.size, 0, none⟩), .int .i64 (k : Nat)] (w.alloc (.cells #[.slice a F.ns.length ca, .slice b F.ds.length cb] 27)) fun e w' => e = .returned (.bool true) ∧ Below (w.heap.size + 1) (w.alloc (.cells #[.slice a F.ns.length ca, .slice b F.ds.length cb] 27)) w') := by rw [← HA.out]; exact HI0.out (k : Int)
    rw [ndAt_nat hk] at HRD
    have HU : Hid (UsP F (k : Int)) := hu
    have hkn : F.ns.length ≤ 10 := hu.1.1.2.1
    obtain ⟨g, off, u, rfl, hblt, ⟨ab, cc, rfl, hc1, hc2, hrb⟩, c0, c1, c2, c3, c4⟩ := r1.at k hk
    have HRB : Hid (∀ W, Below w.heap.size w W → Rd .i64 W ab F.ns[k].b) := fun W h => hrb.below h (Nat.le_refl _)
    have HDS : Hid (∀ W, Below w.heap.size w W → RdS W b F.ds) := fun W h => r2.below h (Nat.le_refl _)
    have HC4 : Hid (∀ W, Below w.heap.size w W → W.cell? ⟨g, off + k * 5 + 4, none⟩ = some (.slice ab F.ns[k].b.length cc)) := fun W h => (h.cell hblt).trans c4
    have HBX : Hid (∀ x ∈ F.ns[k].b, 0 ≤ x ∧ x.toNat < F.ds.length) := hbx
    have HDZ : Hid (∀ s ∈ F.ds, s.size ≤ 16) := hds
    clear hu r1 r2 hrb c0 c1 c2 c3 c4 hbx hds hc1 hc2 HI0 HRF hq
    generalize F.ns[k].b = B at *
    go_enter Try.func14, Try.ntmps14
    go_wp2_with fail
    refine HI2.out.mono ?_
    rintro e w1 ⟨rfl, hb1⟩
    obtain ⟨y0, y1, hB1⟩ := HV.out w1 hb1
    have HBL : Hid (BldT (w1.alloc (.cells #[.pointer none, .slice none 0 0] 73)) w1.heap.size w1.heap.size ⟨#[]⟩) := bldNew w1
    have hB2 : Below w.heap.size w (w1.alloc (.cells #[.pointer none, .slice none 0 0] 73)) := hB1.trans ((below1 w1 _).mono hB1.size)
    have hb2 : Below (w.heap.size + 1) (w.alloc (.cells #[.slice (some ⟨g, off, none⟩) F.ns.length ca, .slice b F.ds.length cb] 27)) (w1.alloc (.cells #[.pointer none, .slice none 0 0] 73)) := hb1.trans ((below1 w1 _).mono (by have := hb1.size; simpa using this))
    have hq1 : w.heap.size + 1 ≤ w1.heap.size := by have := hb1.size; simpa using this
    have z0 := (HV.out _ hb2).1
    have z1 := HC4.out _ hB2
    clear HI2 y0 y1 hB1 hb1
    have hPW : w1.heap.size ≤ (w1.alloc (.cells #[.pointer none, .slice none 0 0] 73)).heap.size := by simp
    go_wp2
    clear z0 z1
    generalize w1.alloc (.cells #[.pointer none, .slice none 0 0] 73) = W1 at *
    generalize w1.heap.size = P at *
    go_loopw [8, 19] (fun _ j wr => ∃ (m : Nat), m ≤ B.length ∧ j = .int .i64 m ∧ Hid (BldT wr P P (catD F.ds (B.take m))) ∧ P ≤ wr.heap.size ∧ Below (w.heap.size + 1) (w.alloc (.cells #[.slice (some ⟨g, off, none⟩) F.ns.length ca, .slice b F.ds.length cb] 27)) wr) (fun _ j _ => B.length - (intOf j).toNat)
    case atStart => exact ⟨0, by omega, rfl, HBL, hPW, hb2⟩
    case round =>
      obtain ⟨m, hm, rfl, HBT, hP, hbel⟩ := hrel
      obtain ⟨y0, y1, hB⟩ := HV.out wr hbel
      clear HBL
      by_cases hlt : m < B.length
      · obtain ⟨gb, ob, rfl, hgb, hcb⟩ := (HRB.out wr hB).cellI m hlt
        have hx := HBX.out _ (List.getElem_mem hlt)
        obtain ⟨x, hxx⟩ := natOf hx.1
        rw [hxx] at hcb
        have hxl : x < F.ds.length := by have := hx.2; rw [hxx] at this; simpa using this
        obtain ⟨gd, od, rfl, hgd, hcd⟩ := (HDS.out wr hB).cellT x hxl
        have HCT : Hid (catD F.ds (B.take (m + 1)) = catD F.ds (B.take m) ++ F.ds[x]) := by show _ = _; rw [catD_take F.ds hlt, hxx, dsAt_get (by simpa using hxl)]; simp
        have hsz : (catD F.ds (B.take m)).size ≤ 80 := by
          have h1 := catD_size (ds := F.ds) (b := B.take m) (m := 16) (fun x hx' => by
            have hx2 := HBX.out x (List.mem_of_mem_take hx')
            rw [dsAt_get hx2.2]; exact HDZ.out _ (List.getElem_mem _))
          have h2 : (B.take m).length ≤ 5 := by simp; omega
          omega
        have hs2 := HDZ.out _ (List.getElem_mem hxl)
        clear hx hxx HRB HDS
        generalize F.ds[x] = d at *
        generalize catD F.ds (B.take m) = s at *
        go_wp2_with fail
        refine (bldPut P P s d wr HBT.out (by omega) hP).mono ?_
        rintro e w3 ⟨⟨r, rfl⟩, hbt, hb3⟩
        have HBT2 : Hid (BldT w3 P P (catD F.ds (B.take (m + 1)))) := by show BldT _ _ _ _; rw [HCT.out]; exact hbt
        have hbel3 := hbel.trans (hb3.mono hq1)
        have hP3 : P ≤ w3.heap.size := Nat.le_trans hP hb3.size
        clear hbt hb3 hbel HBT HCT
        go_wp2
        go_roundw
        case rel => exact ⟨m + 1, by omega, by go_num, HBT2, hP3, hbel3⟩
        case measure => simp [intOf]; omega
      · obtain rfl : m = B.length := by omega
        rw [List.take_length] at HBT
        clear HRB HDS HC4 HBX HDZ
        go_wp2_with fail
        refine (bldText P P _ wr HBT.out hP).mono ?_
        rintro e w3 ⟨rfl, hb3⟩
        have hB3 := (HV.out w3 (hbel.trans (hb3.mono hq1))).2.2
        go_wp2
        go_ret2
        exact ⟨by rw [HA.out, HRD.out]; rfl, hB3⟩
  · have HA : Hid (usB F i = false) := usB_no hu
    have HRD : Hid (ndRead F i = ⟨#[]⟩) := by show _ = _; unfold ndRead; rw [usB_no hu]; rfl
    have HI2 : Hid (Calls Try.prog 36 #[.pointer (some ⟨w.heap.size, 0, none⟩), .int .i64 i] (w.alloc (.cells #[.slice a F.ns.length ca, .slice b F.ds.length cb] 27)) fun e w' => e = .returned (.bool false) ∧ Below (w.heap.size + 1) (w.alloc (.cells #[.slice a F.ns.length ca, .slice b F.ds.length cb] 27)) w') := by rw [← HA.out]; exact HI0.out i
    clear hu HI0 HRF
    go_enter Try.func14, Try.ntmps14
    go_wp2_with fail
    refine HI2.out.mono ?_
    rintro e w1 ⟨rfl, hb1⟩
    have hB1 := (HV.out w1 hb1).2.2
    clear hb1 HI2
    go_wp2
    go_ret2
    exact ⟨by rw [HA.out, HRD.out]; rfl, hB1⟩
end Go.Proofs.Ytbameedfnicnhaa
