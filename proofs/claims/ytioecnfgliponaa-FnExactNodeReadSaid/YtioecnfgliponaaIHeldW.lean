/-
  Own text: what the program tells of a node that is there: the texts of its blocks, one behind the other.
-/
import Derived.Test.YtioecnfgliponaaSDataW
import Derived.Test.YtioecnfgliponaaBldW
namespace Go.Proofs.Ytioecnfgliponaa
open Go.RowKit

set_option maxRecDepth 20000 in
set_option maxHeartbeats 4000000 in
theorem implHeld (Q : Nat) (a b : Option Addr) (ca cb : Nat) (F : FsD) (k : Nat) (w : World) (hu : UsP F (k : Int)) (hQ : Q < w.heap.size) (hp0 : w.cell? ⟨Q, 0, none⟩ = some (.slice a F.ns.length ca)) (hp1 : w.cell? ⟨Q, 1, none⟩ = some (.slice b F.ds.length cb)) (r1 : RdNs w a F.ns) (r2 : RdS w b F.ds) :
    Calls Try.prog 27 #[.pointer (some ⟨Q, 0, none⟩), .int .i64 (k : Nat)] w fun e w' => e = .returned (.string (catD F.ds (ndAt F (k : Int)).b)) ∧ Below w.heap.size w w' := by
  obtain ⟨hk, hbl, hdl, hbx, hds⟩ := hu.facts
  have HV : Hid (∀ W, Below w.heap.size w W → W.cell? ⟨Q, 0, none⟩ = some (.slice a F.ns.length ca) ∧ W.cell? ⟨Q, 1, none⟩ = some (.slice b F.ds.length cb)) := fun W h => ⟨(h.cell (by exact hQ)).trans hp0, (h.cell (by exact hQ)).trans hp1⟩
  have HA : Hid (catD F.ds (ndAt F (k : Int)).b = catD F.ds F.ns[k].b) := by show _ = _; rw [ndAt_nat hk]
  have hkn : F.ns.length ≤ 10 := hu.1.1.2.1
  have hkI : (k : Int) < (F.ns.length : Int) := by omega
  obtain ⟨g, off, u, rfl, hblt, ⟨ab, cc, rfl, hc1, hc2, hrb⟩, c0, c1, c2, c3, c4⟩ := r1.at k hk
  have HRB : Hid (∀ W, Below w.heap.size w W → Rd .i64 W ab F.ns[k].b) := fun W h => hrb.below h (Nat.le_refl _)
  have HDS : Hid (∀ W, Below w.heap.size w W → RdS W b F.ds) := fun W h => r2.below h (Nat.le_refl _)
  have HC4 : Hid (∀ W, Below w.heap.size w W → W.cell? ⟨g, off + k * 5 + 4, none⟩ = some (.slice ab F.ns[k].b.length cc)) := fun W h => (h.cell hblt).trans c4
  have HBX : Hid (∀ x ∈ F.ns[k].b, 0 ≤ x ∧ x.toNat < F.ds.length) := hbx
  have HDZ : Hid (∀ s ∈ F.ds, s.size ≤ 16) := hds
  have HBL : Hid (BldT (w.alloc (.cells #[.pointer none, .slice none 0 0] 75)) w.heap.size w.heap.size ⟨#[]⟩) := bldNew w
  have hB2 : Below w.heap.size w (w.alloc (.cells #[.pointer none, .slice none 0 0] 75)) := below1 w _
  have z0 := (HV.out _ hB2).1
  have z1 := HC4.out _ hB2
  have hPW : w.heap.size ≤ (w.alloc (.cells #[.pointer none, .slice none 0 0] 75)).heap.size := by simp
  clear hu r1 r2 hrb c0 c1 c2 c3 c4 hbx hds hc1 hc2 hp0 hp1
  generalize F.ns[k].b = B at *
  go_enter Try.func27, Try.ntmps27
  go_wp2
  clear z0 z1
  generalize w.alloc (.cells #[.pointer none, .slice none 0 0] 75) = W1 at *
  go_loopw [7, 17] (fun _ j wr => ∃ (m : Nat), m ≤ B.length ∧ j = .int .i64 m ∧ Hid (BldT wr w.heap.size w.heap.size (catD F.ds (B.take m))) ∧ w.heap.size ≤ wr.heap.size ∧ Below w.heap.size w wr) (fun _ j _ => B.length - (intOf j).toNat)
  case atStart => exact ⟨0, by omega, rfl, HBL, hPW, hB2⟩
  case round =>
    obtain ⟨m, hm, rfl, HBT, hP, hB⟩ := hrel
    obtain ⟨y0, y1⟩ := HV.out wr hB
    clear HBL
    by_cases hlt : m < B.length
    · obtain ⟨gb, ob, rfl, hgb, hcb⟩ := (HRB.out wr hB).cellI m hlt
      have hx := HBX.out _ (List.getElem_mem hlt)
      obtain ⟨x, hxx⟩ := natOf hx.1
      rw [hxx] at hcb
      have hxl : x < F.ds.length := by have := hx.2; rw [hxx] at this; simpa using this
      obtain ⟨gd, od, rfl, hgd, hcd⟩ := (HDS.out wr hB).cellT x hxl
      have HCT : Hid (catD F.ds (B.take (m + 1)) = catD F.ds (B.take m) ++ F.ds[x]) := by show _ = _; rw [catD_take F.ds hlt, hxx, dsAt_get (by simpa using hxl)]; simp
      have hsz : (catD F.ds (B.take m)).size ≤ 80 := by
        have h1 := catD_size (ds := F.ds) (b := B.take m) (m := 16) (fun x hx' => by
          have hx2 := HBX.out x (List.mem_of_mem_take hx')
          rw [dsAt_get hx2.2]; exact HDZ.out _ (List.getElem_mem _))
        have h2 : (B.take m).length ≤ 5 := by simp; omega
        omega
      have hs2 := HDZ.out _ (List.getElem_mem hxl)
      clear hx hxx HRB HDS
      generalize F.ds[x] = d at *
      generalize catD F.ds (B.take m) = s at *
      go_wp2_with fail
      refine (bldPut w.heap.size w.heap.size s d wr HBT.out (by omega) hP).mono ?_
      rintro e w3 ⟨⟨r, rfl⟩, hbt, hb3⟩
      have HBT2 : Hid (BldT w3 w.heap.size w.heap.size (catD F.ds (B.take (m + 1)))) := by show BldT _ _ _ _; rw [HCT.out]; exact hbt
      have hbel3 := hB.trans hb3
      have hP3 : w.heap.size ≤ w3.heap.size := Nat.le_trans hP hb3.size
      clear hbt hb3 hB HBT HCT
      go_wp2
      go_roundw
      case rel => exact ⟨m + 1, by omega, by go_num, HBT2, hP3, hbel3⟩
      case measure => simp [intOf]; omega
    · obtain rfl : m = B.length := by omega
      rw [List.take_length] at HBT
      clear HRB HDS HC4 HBX HDZ
      go_wp2_with fail
      refine (bldText w.heap.size w.heap.size _ wr HBT.out hP).mono ?_
      rintro e w3 ⟨rfl, hb3⟩
      have hB3 := hB.trans hb3
      go_wp2
      go_ret
      exact ⟨by rw [HA.out]; rfl, hB3⟩
end Go.Proofs.Ytioecnfgliponaa
