/-
  Own texts, several together.
-/
import Derived.Test.YthfgfhbinggpfaaDoorShelfB
import Derived.Lib.Builder
import Derived.Lib.AppendStr
import Derived.WalkKit
import Derived.ProofKit
import Derived.Laws.Externs
import Derived.Test.YthfgfhbinggpfaaDoorBunZE
/-
  Own text: a strings.Builder that a call has made: what it writes; what it answers.
-/
namespace Go.Proofs.YthfgfhbinggpfaaDoor
open Go.RowKit

theorem Tryd.sizeBld : (Tryd.prog.info? 96).map (fun i => i.size) = some 2 := by kernel_rfl
theorem Tryd.infoByteB : (Tryd.prog.info? 5).map (fun i => (i.zero, i.size, i.bytes)) = some (some (.int .u8 0), 1, 1) := by kernel_rfl

set_option maxHeartbeats 1000000 in
set_option maxRecDepth 100000 in
theorem bldUsed (b : Nat) (w : World) (h0 : w.cell? ⟨b, 0, none⟩ = some (.pointer (some ⟨b, 0, none⟩))) :
    Calls Tryd.prog 84 #[.pointer (some ⟨b, 0, none⟩)] w fun e w' => e = .returned (.tuple #[]) ∧ w' = w := by
  obtain ⟨j, hj, _⟩ := Option.map_eq_some_iff.1 Tryd.sizeBld
  go_enter Tryd.func84, Tryd.ntmps84
  go_wp2
  rw [Lib.run_neq_ptr_same w _ Tryd.underlying93 hj]
  go_wp2
  go_end0
  exact ⟨rfl, rfl⟩

set_option maxHeartbeats 1000000 in
set_option maxRecDepth 100000 in
theorem bldFresh (b : Nat) (w : World) (h0 : w.cell? ⟨b, 0, none⟩ = some (.pointer none)) (hsh : w.shape? b = some (96, 2)) (hfz : w.frozen? ⟨b, 0, none⟩ = false) :
    Calls Tryd.prog 84 #[.pointer (some ⟨b, 0, none⟩)] w fun e w' => e = .returned (.tuple #[]) ∧ w' = w.setCell ⟨b, 0, none⟩ (.pointer (some ⟨b, 0, none⟩)) := by
  obtain ⟨j, hj, hjs⟩ := Option.map_eq_some_iff.1 Tryd.sizeBld
  go_enter Tryd.func84, Tryd.ntmps84
  go_wp2
  rw [Lib.run_to_unsafe w ⟨b, 0, none⟩ Tryd.underlying93 Tryd.underlying126 hj (by rw [hjs]; decide) hsh (Nat.zero_lt_succ 1)]
  simp only [Result.andThen]
  rw [Oper.upon_value]
  go_wp2
  rw [run_callFunc_extern Tryd.func97 (by kernel_rfl) (by kernel_rfl) (by kernel_rfl) (e := Extern.AbiNoEscape.same) (by kernel_rfl)]
  rw [Lib.run_noEscape]
  simp only [Result.andThen]
  rw [Oper.upon_value]
  go_wp2
  rw [Lib.run_from_unsafe w ⟨b, 0, none⟩ Tryd.underlying126 Tryd.underlying93 hj hsh (by kernel_rfl)]
  simp only [Result.andThen]
  rw [Oper.upon_value]
  go_wp2
  go_end0
  exact ⟨rfl, rfl⟩

theorem bldCheck (B b : Nat) (bs : List Value) (w : World) (h : Lib.IsBuilder 96 5 B b bs w) :
    Calls Tryd.prog 84 #[.pointer (some ⟨b, 0, none⟩)] w fun e w' => e = .returned (.tuple #[]) ∧ Lib.BuilderAt 96 5 B b (.pointer (some ⟨b, 0, none⟩)) bs w' ∧ Below B w w' := by
  rcases h with h | h
  · refine (bldFresh b w h.cell0 h.shape h.frozen0).mono ?_
    rintro e w' ⟨rfl, rfl⟩
    exact ⟨rfl, h.used _, (Below.refl B w).setCell (p := ⟨b, 0, none⟩) h.1 _⟩
  · refine (bldUsed b w h.cell0).mono ?_
    rintro e w' ⟨rfl, rfl⟩
    exact ⟨rfl, h, Below.refl B _⟩

set_option maxHeartbeats 2000000 in
set_option maxRecDepth 100000 in
theorem bldWrite (B b : Nat) (bs : List Value) (s : ByteArray) (w : World) (h : Lib.IsBuilder 96 5 B b bs w) (hlen : bs.length + s.size ≤ 140737488355328) (hBw : B ≤ w.heap.size) :
    Calls Tryd.prog 62 #[.pointer (some ⟨b, 0, none⟩), .string s] w fun e w' => (∃ r, e = .returned r) ∧ Lib.IsBuilder 96 5 B b (bs ++ Lib.strCells s) w' ∧ Below B w w' := by
  obtain ⟨i0, hi, hz0, hz1, hz2⟩ := info_parts Tryd.infoByteB
  go_enter Tryd.func62, Tryd.ntmps62
  go_wp2_with fail
  refine (bldCheck B b bs _ h).mono ?_
  rintro e w1 ⟨rfl, h1, hb1⟩
  obtain ⟨hB, v, hbk, hown, hne⟩ := h1
  have c0 : w1.cell? ⟨b, 0, none⟩ = some (.pointer (some ⟨b, 0, none⟩)) := by rw [Lib.cell_of_heap hbk]; rfl
  have c1 : w1.cell? ⟨b, 1, none⟩ = some v := by rw [Lib.cell_of_heap hbk]; rfl
  go_wp2_with (at_builtin; refine Lib.wpList_append_own_string _ rfl _ _ 94 9 rfl B 5 i0 Tryd.underlying94 Tryd.underlying9 hi hz0 hz1 hz2 _ _ _ rfl hown s rfl ?c3 ?c4 ?c5 ?_)
  case c3 => unfold maxLen; omega
  case c4 => omega
  case c5 => have := hb1.size; omega
  intro v' w2 hown' hgrow _
  have hlt : b < w1.heap.size := by
    rcases Nat.lt_or_ge b w1.heap.size with h' | h'
    · exact h'
    · simp [Array.getElem?_eq_none h'] at hbk
  have hb2 : w2.heap[b]? = some (.cells #[.pointer (some ⟨b, 0, none⟩), v] 96 (0, 0)) := by
    rw [hgrow.block b hlt (fun e => hne e.symm)]
    exact hbk
  have d0 : w2.cell? ⟨b, 0, none⟩ = some (.pointer (some ⟨b, 0, none⟩)) := by rw [Lib.cell_of_heap hb2]; rfl
  have d1 : w2.cell? ⟨b, 1, none⟩ = some v := by rw [Lib.cell_of_heap hb2]; rfl
  have f1 : w2.frozen? ⟨b, 1, none⟩ = false := Lib.frozen_of_heap hb2 1
  obtain ⟨ao, n', cap, rfl⟩ : ∃ ao n' cap, v' = .slice ao n' cap := by
    rcases hown'.2 with ⟨hv, _⟩ | ⟨g, cap, cur, hv, _⟩
    · exact ⟨_, _, _, hv⟩
    · exact ⟨_, _, _, hv⟩
  go_wp2
  go_ret2
  refine ⟨⟨_, rfl⟩, .inr ?_, ?_⟩
  · exact Lib.BuilderAt.put (T := 96) (e := 5) hB hb2 (bs' := bs ++ Lib.strCells s) (by simpa [Lib.strCells_length] using hown') (by decide)
  · exact (hb1.grown hgrow (by have := hb1.size; omega) (fun k hk => (hown.lt k hk).1)).setCell (p := ⟨b, 1, none⟩) hB _

/-- A builder that holds a text. -/
def BldT (w : World) (B b : Nat) (s : ByteArray) : Prop := Lib.IsBuilder 96 5 B b (Lib.strCells s) w
theorem bldNew (w : World) : BldT (w.alloc (.cells #[.pointer none, .slice none 0 0] 96)) w.heap.size w.heap.size ⟨#[]⟩ := Lib.fresh_isBuilder _ _ w
theorem bldPut (B b : Nat) (s t : ByteArray) (w : World) (h : BldT w B b s) (hlen : s.size + t.size ≤ 140737488355328) (hBw : B ≤ w.heap.size) :
    Calls Tryd.prog 62 #[.pointer (some ⟨b, 0, none⟩), .string t] w fun e w' => (∃ r, e = .returned r) ∧ BldT w' B b (s ++ t) ∧ Below B w w' := by
  refine (bldWrite B b _ t w h (by rw [Lib.strCells_length]; exact hlen) hBw).mono ?_
  rintro e w' ⟨h1, h2, h3⟩
  refine ⟨h1, ?_, h3⟩
  unfold BldT
  rw [show Lib.strCells (s ++ t) = Lib.strCells s ++ Lib.strCells t by unfold Lib.strCells; simp]
  exact h2
theorem bldText (B b : Nat) (s : ByteArray) (w : World) (h : BldT w B b s) (hBw : B ≤ w.heap.size) :
    Calls Tryd.prog 63 #[.pointer (some ⟨b, 0, none⟩)] w fun e w' => e = .returned (.string s) ∧ Below B w w' := by
  refine (Tryd.Builder_String_any B b s.data.toList w ?_ hBw).mono ?_
  · unfold BldT at h
    rw [show Lib.byteCells s.data.toList = Lib.strCells s by unfold Lib.byteCells Lib.strCells; rfl]
    exact h
  · rintro e w' ⟨rfl, h2⟩
    exact ⟨rfl, h2⟩
end Go.Proofs.YthfgfhbinggpfaaDoor

/-
  Own text: what the program tells of a node that is there: the texts of its blocks, one behind the other.
-/
namespace Go.Proofs.YthfgfhbinggpfaaDoor
open Go.RowKit

set_option maxRecDepth 20000 in
set_option maxHeartbeats 4000000 in
theorem implHeld (Q : Nat) (a b : Option Addr) (ca cb : Nat) (F : FsD) (k : Nat) (w : World) (hu : UsP F (k : Int)) (hQ : Q < w.heap.size) (hp0 : w.cell? ⟨Q, 0, none⟩ = some (.slice a F.ns.length ca)) (hp1 : w.cell? ⟨Q, 1, none⟩ = some (.slice b F.ds.length cb)) (r1 : RdNs w a F.ns) (r2 : RdS w b F.ds) :
    Calls Tryd.prog 38 #[.pointer (some ⟨Q, 0, none⟩), .int .i64 (k : Nat)] w fun e w' => e = .returned (.string (catD F.ds (ndAt F (k : Int)).b)) ∧ Below w.heap.size w w' := by
  obtain ⟨hk, hbl, hdl, hbx, hds⟩ := hu.facts
  have HV : Hid (∀ W, Below w.heap.size w W → W.cell? ⟨Q, 0, none⟩ = some (.slice a F.ns.length ca) ∧ W.cell? ⟨Q, 1, none⟩ = some (.slice b F.ds.length cb)) := fun W h => ⟨(h.cell (by exact hQ)).trans hp0, (h.cell (by exact hQ)).trans hp1⟩
  have HA : Hid (catD F.ds (ndAt F (k : Int)).b = catD F.ds F.ns[k].b) := by show _ = _; rw [ndAt_nat hk]
  have hkn : F.ns.length ≤ 10 := hu.1.1.2.1
  have hkI : (k : Int) < (F.ns.length : Int) := by omega
  obtain ⟨g, off, u, rfl, hblt, ⟨ab, cc, rfl, hc1, hc2, hrb⟩, c0, c1, c2, c3, c4⟩ := r1.at k hk
  have HRB : Hid (∀ W, Below w.heap.size w W → Rd .i64 W ab F.ns[k].b) := fun W h => hrb.below h (Nat.le_refl _)
  have HDS : Hid (∀ W, Below w.heap.size w W → RdS W b F.ds) := fun W h => r2.below h (Nat.le_refl _)
  have HC4 : Hid (∀ W, Below w.heap.size w W → W.cell? ⟨g, off + k * 5 + 4, none⟩ = some (.slice ab F.ns[k].b.length cc)) := fun W h => (h.cell hblt).trans c4
  have HBX : Hid (∀ x ∈ F.ns[k].b, 0 ≤ x ∧ x.toNat < F.ds.length) := hbx
  have HDZ : Hid (∀ s ∈ F.ds, s.size ≤ 16) := hds
  have HBL : Hid (BldT (w.alloc (.cells #[.pointer none, .slice none 0 0] 96)) w.heap.size w.heap.size ⟨#[]⟩) := bldNew w
  have hB2 : Below w.heap.size w (w.alloc (.cells #[.pointer none, .slice none 0 0] 96)) := below1 w _
  have z0 := (HV.out _ hB2).1
  have z1 := HC4.out _ hB2
  have hPW : w.heap.size ≤ (w.alloc (.cells #[.pointer none, .slice none 0 0] 96)).heap.size := by simp
  clear hu r1 r2 hrb c0 c1 c2 c3 c4 hbx hds hc1 hc2 hp0 hp1
  generalize F.ns[k].b = B at *
  go_enter Tryd.func38, Tryd.ntmps38
  go_wp2
  clear z0 z1
  generalize w.alloc (.cells #[.pointer none, .slice none 0 0] 96) = W1 at *
  go_loopw [7, 17] (fun _ j wr => ∃ (m : Nat), m ≤ B.length ∧ j = .int .i64 m ∧ Hid (BldT wr w.heap.size w.heap.size (catD F.ds (B.take m))) ∧ w.heap.size ≤ wr.heap.size ∧ Below w.heap.size w wr) (fun _ j _ => B.length - (intOf j).toNat)
  case atStart => exact ⟨0, by omega, rfl, HBL, hPW, hB2⟩
  case round =>
    obtain ⟨m, hm, rfl, HBT, hP, hB⟩ := hrel
    obtain ⟨y0, y1⟩ := HV.out wr hB
    clear HBL
    by_cases hlt : m < B.length
    · obtain ⟨gb, ob, rfl, hgb, hcb⟩ := (HRB.out wr hB).cellI m hlt
      have hx := HBX.out _ (List.getElem_mem hlt)
      obtain ⟨x, hxx⟩ := natOf hx.1
      rw [hxx] at hcb
      have hxl : x < F.ds.length := by have := hx.2; rw [hxx] at this; simpa using this
      obtain ⟨gd, od, rfl, hgd, hcd⟩ := (HDS.out wr hB).cellT x hxl
      have HCT : Hid (catD F.ds (B.take (m + 1)) = catD F.ds (B.take m) ++ F.ds[x]) := by show _ = _; rw [catD_take F.ds hlt, hxx, dsAt_get (by simpa using hxl)]; simp
      have hsz : (catD F.ds (B.take m)).size ≤ 80 := by
        have h1 := catD_size (ds := F.ds) (b := B.take m) (m := 16) (fun x hx' => by
          have hx2 := HBX.out x (List.mem_of_mem_take hx')
          rw [dsAt_get hx2.2]; exact HDZ.out _ (List.getElem_mem _))
        have h2 : (B.take m).length ≤ 5 := by simp; omega
        omega
      have hs2 := HDZ.out _ (List.getElem_mem hxl)
      clear hx hxx HRB HDS
      generalize F.ds[x] = d at *
      generalize catD F.ds (B.take m) = s at *
      go_wp2_with fail
      refine (bldPut w.heap.size w.heap.size s d wr HBT.out (by omega) hP).mono ?_
      rintro e w3 ⟨⟨r, rfl⟩, hbt, hb3⟩
      have HBT2 : Hid (BldT w3 w.heap.size w.heap.size (catD F.ds (B.take (m + 1)))) := by show BldT _ _ _ _; rw [HCT.out]; exact hbt
      have hbel3 := hB.trans hb3
      have hP3 : w.heap.size ≤ w3.heap.size := Nat.le_trans hP hb3.size
      clear hbt hb3 hB HBT HCT
      go_wp2
      go_roundw
      case rel => exact ⟨m + 1, by omega, by go_num, HBT2, hP3, hbel3⟩
      case measure => simp [intOf]; omega
    · obtain rfl : m = B.length := by omega
      rw [List.take_length] at HBT
      clear HRB HDS HC4 HBX HDZ
      go_wp2_with fail
      refine (bldText w.heap.size w.heap.size _ wr HBT.out hP).mono ?_
      rintro e w3 ⟨rfl, hb3⟩
      have hB3 := hB.trans hb3
      go_wp2
      go_ret
      exact ⟨by rw [HA.out]; rfl, hB3⟩
end Go.Proofs.YthfgfhbinggpfaaDoor
