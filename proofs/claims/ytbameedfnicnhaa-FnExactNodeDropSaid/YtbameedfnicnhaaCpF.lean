/-
  Own text: a copy of a branch in a variable of the other program's, the answer's variable and the parameter's beside it.
-/
import Derived.Test.YtbameedfnicnhaaMuF
import Derived.Test.YtbameedfnicnhaaSCopyW
import Derived.Test.YtbameedfnicnhaaSDataW
namespace Go.Proofs.Ytbameedfnicnhaa
open Go.RowKit

theorem res_fs1 {P : Program} {fn : Func} {p u : Tmp} {ty : TypeId} (h : fn.results = #[.cell p ty, .tmp u]) (tmps : Array Value) (w : World) (g : Nat) (t : TypeId) (cs : Array Value) (d : TypeDesc)
    (hp : tmps.getD p undef = .pointer (some ⟨g, 0, none⟩)) (hg : Var w g cs t)
    (hu : P.underlying ty = some d) (hd : (match d with | .struct _ | .array _ _ => true | _ => false) = true) (hi : (P.info? ty).map (·.size) = some cs.size) :
    (results fn tmps).run P w = .ok (.tuple #[.agg cs, tmps.getD u undef]) w := by
  rw [results_cell_tmp h, hp]
  simp [asAddr, run_loadVar_row w g t ty cs (0, 0) d hg hu hd hi]

structure CpF (w W : World) (a b : Option Addr) (na ca nb cb Q : Nat) (vn vd : Value) (F : FsD) : Prop where
  prm : Var W w.heap.size #[.slice a na ca, .slice b nb cb] 27
  res : Var W (w.heap.size + 1) #[.slice none 0 0, .slice none 0 0] 27
  var : Var W Q #[vn, vd] 27
  own : OwnFs W (w.heap.size + 2) W.heap.size (.agg #[vn, vd]) F
  bel : Below w.heap.size w W
  far : w.heap.size + 2 ≤ Q
structure CpM (w W : World) (a b : Option Addr) (na ca nb cb Q g gd N D ga gb : Nat) (M : List NodeU) (ds : List ByteArray) : Prop where
  prm : Var W w.heap.size #[.slice a na ca, .slice b nb cb] 27
  res : Var W (w.heap.size + 1) #[.slice none 0 0, .slice none 0 0] 27
  mu : MuF W (w.heap.size + 2) Q g gd N D ga gb M ds
  bel : Below w.heap.size w W
  far : w.heap.size + 2 ≤ Q
section
variable {w W : World} {a b : Option Addr} {na ca nb cb Q : Nat}
theorem CpF.start {w1 : World} {vn vd : Value} {F : FsD} (ho : OwnFs w1 (w.heap.size + 2) w1.heap.size (.agg #[vn, vd]) F)
    (hb : Below (w.heap.size + 2) ((w.alloc (.cells #[.slice a na ca, .slice b nb cb] 27)).alloc (.cells #[.slice none 0 0, .slice none 0 0] 27)) w1) :
    CpF w (w1.alloc (.cells #[vn, vd] 27)) a b na ca nb cb w1.heap.size vn vd F := by
  have hs : w.heap.size + 2 ≤ w1.heap.size := by have := hb.size; simp at this; omega
  have hb2 := hb.trans ((below1 w1 (.cells #[vn, vd] 27)).mono hs)
  exact ⟨((Var.made w _ _).alloc _).below hb2 (by omega), (Var.made2 w _ _ _).below hb2 (by omega), Var.made _ _ _, (ho.below (below1 _ _)).hi (by simp), (below2 w _ _).trans (hb2.mono (by omega)), hs⟩
theorem CpF.new {vn vd : Value} {F : FsD} {W' : World} (h : CpF w W a b na ca nb cb Q vn vd F) (hb : Below W.heap.size W W') : CpF w W' a b na ca nb cb Q vn vd F :=
  ⟨h.prm.new hb, h.res.new hb, h.var.new hb, (h.own.below hb).hi hb.size, h.bel.trans (hb.mono h.bel.size), h.far⟩
theorem CpF.cells {vn vd : Value} {F : FsD} (h : CpF w W a b na ca nb cb Q vn vd F) : W.cell? ⟨w.heap.size, 0, none⟩ = some (.slice a na ca) ∧ W.cell? ⟨w.heap.size, 1, none⟩ = some (.slice b nb cb) ∧ W.cell? ⟨w.heap.size + 1, 0, none⟩ = some (.slice none 0 0) ∧ W.cell? ⟨w.heap.size + 1, 1, none⟩ = some (.slice none 0 0) ∧ W.cell? ⟨Q, 0, none⟩ = some vn ∧ W.cell? ⟨Q, 1, none⟩ = some vd ∧ W.frozen? ⟨w.heap.size + 1, 0, none⟩ = false ∧ W.frozen? ⟨w.heap.size + 1, 1, none⟩ = false :=
  ⟨(h.prm.cell 0).trans rfl, (h.prm.cell 1).trans rfl, (h.res.cell 0).trans rfl, (h.res.cell 1).trans rfl, (h.var.cell 0).trans rfl, (h.var.cell 1).trans rfl, h.res.frozen 0, h.res.frozen 1⟩
/-- The branch goes into the answer's variable. -/
theorem CpF.done {vn vd : Value} {F : FsD} (h : CpF w W a b na ca nb cb Q vn vd F) :
    Var ((W.setCell ⟨w.heap.size + 1, 0, none⟩ vn).setCell ⟨w.heap.size + 1, 1, none⟩ vd) (w.heap.size + 1) #[vn, vd] 27 ∧ OwnFs ((W.setCell ⟨w.heap.size + 1, 0, none⟩ vn).setCell ⟨w.heap.size + 1, 1, none⟩ vd) w.heap.size ((W.setCell ⟨w.heap.size + 1, 0, none⟩ vn).setCell ⟨w.heap.size + 1, 1, none⟩ vd).heap.size (.agg #[vn, vd]) F ∧ Below w.heap.size w ((W.setCell ⟨w.heap.size + 1, 0, none⟩ vn).setCell ⟨w.heap.size + 1, 1, none⟩ vd) := by
  have hO : Only (fun k => k = w.heap.size + 1) W ((W.setCell ⟨w.heap.size + 1, 0, none⟩ vn).setCell ⟨w.heap.size + 1, 1, none⟩ vd) := (Only.setCell (S := fun k => k = w.heap.size + 1) (Only.refl _ _) (p := ⟨w.heap.size + 1, 0, none⟩) rfl _).setCell (p := ⟨w.heap.size + 1, 1, none⟩) rfl _
  have hv := (h.res.set 0 vn).set 1 vd
  refine ⟨by simpa using hv, ?_, h.bel.trans (hO.below h.bel.size (fun k e => by omega))⟩
  exact ((h.own.only hO (fun k h1 _ e => by omega)).base (by omega)).hi (by simp [World.setCell])
theorem CpF.open {vn vd : Value} {F : FsD} (h : CpF w W a b na ca nb cb Q vn vd F) (hn : 0 < F.ns.length) (hd : 0 < F.ds.length) :
    ∃ g gd ga gb M, vn = .slice (some ⟨g, 0, none⟩) F.ns.length ga ∧ vd = .slice (some ⟨gd, 0, none⟩) F.ds.length gb ∧ M.map (·.1) = F.ns ∧ CpM w W a b na ca nb cb Q g gd F.ns.length F.ds.length ga gb M F.ds := by
  obtain ⟨g, gd, ga, gb, M, he, hM, h1, h2⟩ := h.own.open hn hd
  simp at he
  obtain ⟨rfl, rfl⟩ := he
  exact ⟨g, gd, ga, gb, M, rfl, rfl, hM, h.prm, h.res, ⟨h.var, h1, h2, by rw [← hM]; simp, rfl⟩, h.bel, h.far⟩
variable {g gd N D ga gb : Nat} {M : List NodeU} {ds : List ByteArray}
theorem CpM.new {W' : World} (h : CpM w W a b na ca nb cb Q g gd N D ga gb M ds) (hb : Below W.heap.size W W') : CpM w W' a b na ca nb cb Q g gd N D ga gb M ds :=
  ⟨h.prm.new hb, h.res.new hb, h.mu.new hb, h.bel.trans (hb.mono h.bel.size), h.far⟩
theorem CpM.drew (h : CpM w W a b na ca nb cb Q g gd N D ga gb M ds) : CpM w W.drew a b na ca nb cb Q g gd N D ga gb M ds := h.new ((Below.refl _ _).drew)
theorem CpM.upd {W' : World} {x : Nat} {M' : List NodeU} {ds' : List ByteArray} (h : CpM w W a b na ca nb cb Q g gd N D ga gb M ds) (hO : Only (fun q => q = x) W W') (hx : w.heap.size + 2 ≤ x) (hm : MuF W' (w.heap.size + 2) Q g gd N D ga gb M' ds') : CpM w W' a b na ca nb cb Q g gd N D ga gb M' ds' :=
  ⟨h.prm.only hO (by omega), h.res.only hO (by omega), hm, h.bel.trans (hO.below h.bel.size (fun k e => by omega)), h.far⟩
theorem CpM.text (h : CpM w W a b na ca nb cb Q g gd N D ga gb M ds) (k : Nat) (p : ByteArray) : CpM w (W.setCell ⟨gd, k, none⟩ (.string p)) a b na ca nb cb Q g gd N D ga gb M (ds.set k p) :=
  h.upd (Only.setCell (S := fun q => q = gd) (Only.refl _ _) (p := ⟨gd, k, none⟩) rfl _) h.mu.in_gd.1 (h.mu.text k p)
theorem CpM.num (h : CpM w W a b na ca nb cb Q g gd N D ga gb M ds) {i : Nat} (hi : i < M.length) (j : Nat) (hj : j < 4) (y : NodeD) (u : Value) (hb : y.b = M[i].1.b) (he : encU (y, M[i].2) = (encU M[i]).set j u) : CpM w (W.setCell ⟨g, i * 5 + j, none⟩ u) a b na ca nb cb Q g gd N D ga gb (M.set i (y, M[i].2)) ds :=
  h.upd (Only.setCell (S := fun q => q = g) (Only.refl _ _) (p := ⟨g, i * 5 + j, none⟩) rfl _) h.mu.in_g.1 (h.mu.num hi j hj y u hb he)
theorem CpM.blocks (h : CpM w W a b na ca nb cb Q g gd N D ga gb M ds) {i : Nat} (hi : i < M.length) (bl : List Int) (u : Value) (hu : W.ownsRow (w.heap.size + 2) 3 1 u bl.length (bl.map (Value.int .i64))) (hap : ∀ q (hq : q < M.length), q ≠ i → ∀ j, blk M[q].2 j → ¬ blk u j) : CpM w (W.setCell ⟨g, i * 5 + 4, none⟩ u) a b na ca nb cb Q g gd N D ga gb (M.set i (⟨M[i].1.k, M[i].1.g, M[i].1.t, M[i].1.s, bl⟩, u)) ds :=
  h.upd (Only.setCell (S := fun q => q = g) (Only.refl _ _) (p := ⟨g, i * 5 + 4, none⟩) rfl _) h.mu.in_g.1 (h.mu.blocks hi bl u hu hap)
theorem CpM.wipe (h : CpM w W a b na ca nb cb Q g gd N D ga gb M ds) {i : Nat} (hi : i < M.length) : CpM w (wipe W g i) a b na ca nb cb Q g gd N D ga gb (M.set i (zeroN, .slice none 0 0)) ds :=
  h.upd (wipe_only W g i) h.mu.in_g.1 (h.mu.wipe hi)
theorem CpM.toF (h : CpM w W a b na ca nb cb Q g gd N D ga gb M ds) {F : FsD} (hM : M.map (·.1) = F.ns) (hd : ds = F.ds) : CpF w W a b na ca nb cb Q (.slice (some ⟨g, 0, none⟩) N ga) (.slice (some ⟨gd, 0, none⟩) D gb) F :=
  ⟨h.prm, h.res, h.mu.var, h.mu.own hM hd, h.bel, h.far⟩
theorem CpM.cells (h : CpM w W a b na ca nb cb Q g gd N D ga gb M ds) : W.cell? ⟨w.heap.size, 0, none⟩ = some (.slice a na ca) ∧ W.cell? ⟨w.heap.size, 1, none⟩ = some (.slice b nb cb) ∧ W.cell? ⟨Q, 0, none⟩ = some (.slice (some ⟨g, 0, none⟩) N ga) ∧ W.cell? ⟨Q, 1, none⟩ = some (.slice (some ⟨gd, 0, none⟩) D gb) :=
  ⟨(h.prm.cell 0).trans rfl, (h.prm.cell 1).trans rfl, (h.mu.var.cell 0).trans rfl, (h.mu.var.cell 1).trans rfl⟩
end
end Go.Proofs.Ytbameedfnicnhaa
