/-
  Own text: a branch that is put together, node by node and text by text, in a variable.
-/
import Derived.Test.YtioecnfgliponaaAnsW
import Derived.Test.YtioecnfgliponaaAppSrc
namespace Go.Proofs.Ytioecnfgliponaa
open Go.RowKit

/-- A row of one make does not lie in a variable of another. -/
theorem own_ne_var {w : World} {base : Nat} {e : TypeId} {size : Nat} {v : Value} {n : Nat} {xs : List Value} (h : w.ownsRow base e size v n xs) {Q : Nat} {C : Array Value} {t : TypeId} (hv : Var w Q C t) (hne : e ≠ t) : ∀ k, blk v k → k ≠ Q := by
  intro k hk e1
  have hv' : w.heap[Q]? = some (.cells C t (0, 0)) := hv
  rcases h.2 with ⟨rfl, _⟩ | ⟨g, cap, cur, rfl, _, hgg, _⟩
  · cases hk
  · cases hk
    rw [← e1] at hv'
    rw [hgg] at hv'
    injection hv' with hv'
    injection hv' with _ ht _
    exact hne ht
theorem OwnL.ne_var {w : World} {lo hi : Nat} {v : Value} {M : List NodeU} (h : OwnL w lo hi v M) {Q : Nat} {C : Array Value} (hv : Var w Q C 31) : ∀ k, blkL v M k → k ≠ Q := by
  rintro k (hk | ⟨x, hx, hk⟩)
  · exact own_ne_var h.row hv (by decide) k hk
  · exact own_ne_var (h.inn x hx) hv (by decide) k hk
theorem OwnL.keep {S : Nat → Prop} {w w' : World} {lo hi : Nat} {v : Value} {M : List NodeU} (h : OwnL w lo hi v M) (ho : Only S w w') (hs : ∀ k, blkL v M k → ¬ S k) : OwnL w' lo hi v M :=
  ⟨own_only h.row ho (fun k hk => hs k (.inl hk)), fun x hx => own_only (h.inn x hx) ho (fun k hk => hs k (.inr ⟨x, hx, hk⟩)), h.apart, h.top, h.low⟩
theorem OwnL.app {w w' : World} {lo hi : Nat} {v v' : Value} {M : List NodeU} {x : NodeU} (h : OwnL w lo hi v M) (hx : w.ownsRow lo 3 1 x.2 x.1.b.length (x.1.b.map (Value.int .i64))) (hap : ∀ y ∈ M, ∀ j, blk y.2 j → ¬ blk x.2 j)
    (ho : w'.ownsRow lo 57 5 v' (M.length + 1) (M.flatMap encU ++ encU x)) (hg : w.grownBy w' v.ownBlock) : OwnL w' lo w'.heap.size v' (M ++ [x]) := by
  have hO := Only.of_grown hg
  have hin : ∀ y ∈ M ++ [x], w.ownsRow lo 3 1 y.2 y.1.b.length (y.1.b.map (Value.int .i64)) := by
    intro y hy
    rcases List.mem_append.1 hy with hy | hy
    · exact h.inn y hy
    · rw [List.mem_singleton] at hy; rw [hy]; exact hx
  have hin' : ∀ y ∈ M ++ [x], w'.ownsRow lo 3 1 y.2 y.1.b.length (y.1.b.map (Value.int .i64)) := fun y hy => own_only (hin y hy) hO (fun k hk e => own_apart (hin y hy) h.row (by decide) k hk e)
  refine ⟨?_, hin', ?_, fun j hj => (ho.lt j hj).2, fun y hy j hj => ((hin' y hy).lt j hj).2⟩
  · rw [List.length_append, List.flatMap_append]
    simpa using ho
  · rw [List.pairwise_append]
    refine ⟨h.apart, by simp, fun y hy z hz => ?_⟩
    rw [List.mem_singleton] at hz
    rw [hz]
    exact hap y hy
theorem srcNode (W : World) (n : NodeD) (a : Option Addr) (m c : Nat) : Src Try.prog 5 29 (.slice (some ⟨W.heap.size, 0, none⟩) 1 1) 1 (encU (n, .slice a m c)) (W.alloc (.cells #[.int .i64 n.k, .int .i64 n.g, .int .i64 n.t, .int .i64 n.s, .slice a m c] 57)) := by
  refine Src.ofSlice _ Try.underlying29 ⟨W.heap.size, 0, none⟩ 1 1 (encU (n, .slice a m c)) rfl ?_ (fun x hx => by simp [encU] at hx; rcases hx with rfl | rfl | rfl | rfl | rfl <;> rfl)
  intro j x hj
  obtain ⟨hj1, rfl⟩ := List.getElem?_eq_some_iff.1 hj
  rw [Go.WideShapes.add_plain, Nat.zero_add]
  match j, hj1 with
  | 0, _ => exact (Var.made W #[.int .i64 n.k, .int .i64 n.g, .int .i64 n.t, .int .i64 n.s, .slice a m c] 57).cell 0
  | 1, _ => exact (Var.made W #[.int .i64 n.k, .int .i64 n.g, .int .i64 n.t, .int .i64 n.s, .slice a m c] 57).cell 1
  | 2, _ => exact (Var.made W #[.int .i64 n.k, .int .i64 n.g, .int .i64 n.t, .int .i64 n.s, .slice a m c] 57).cell 2
  | 3, _ => exact (Var.made W #[.int .i64 n.k, .int .i64 n.g, .int .i64 n.t, .int .i64 n.s, .slice a m c] 57).cell 3
  | 4, _ => exact (Var.made W #[.int .i64 n.k, .int .i64 n.g, .int .i64 n.t, .int .i64 n.s, .slice a m c] 57).cell 4
/-- While a branch is put together: the answer's variable R, the branch's variable Q, its two rows. -/
structure GrInv (w W : World) (Q : Nat) (vn vd : Value) (M : List NodeU) (ds : List ByteArray) : Prop where
  res : Var W w.heap.size #[.slice none 0 0, .slice none 0 0] 31
  var : Var W Q #[vn, vd] 31
  nod : OwnL W (w.heap.size + 1) W.heap.size vn M
  txt : W.ownsRow (w.heap.size + 1) 9 1 vd ds.length (ds.map Value.string)
  bel : Below w.heap.size w W
  far : w.heap.size < Q
theorem GrInv.new {w W W' : World} {Q : Nat} {vn vd : Value} {M : List NodeU} {ds : List ByteArray} (h : GrInv w W Q vn vd M ds) (hb : Below W.heap.size W W') : GrInv w W' Q vn vd M ds :=
  ⟨h.res.new hb, h.var.new hb, (h.nod.below hb).hi hb.size, ownsRow_below h.txt hb (Nat.le_refl _), h.bel.trans (hb.mono h.bel.size), h.far⟩
/-- A node is put behind the row, and the row into the variable. -/
theorem GrInv.node {w W W' : World} {Q : Nat} {vn vd v' : Value} {M : List NodeU} {ds : List ByteArray} {x : NodeU} (h : GrInv w W Q vn vd M ds) (hx : W.ownsRow (w.heap.size + 1) 3 1 x.2 x.1.b.length (x.1.b.map (Value.int .i64))) (hap : ∀ y ∈ M, ∀ j, blk y.2 j → ¬ blk x.2 j)
    (ho : W'.ownsRow (w.heap.size + 1) 57 5 v' (M.length + 1) (M.flatMap encU ++ encU x)) (hg : W.grownBy W' vn.ownBlock) : GrInv w (W'.setCell ⟨Q, 0, none⟩ v') Q v' vd (M ++ [x]) ds := by
  have hO := Only.of_grown hg
  have hlo : ∀ k, vn.ownBlock = some k → w.heap.size + 1 ≤ k := fun k hk => (h.nod.row.lt k hk).1
  have hv1 : Var W' Q #[vn, vd] 31 := h.var.only hO (fun e => own_ne_var h.nod.row h.var (by decide) Q e rfl)
  have hr1 : Var W' w.heap.size #[.slice none 0 0, .slice none 0 0] 31 := h.res.only hO (fun e => by have := hlo _ e; omega)
  have ht1 := own_only h.txt hO (fun k hk e => own_apart h.txt h.nod.row (by decide) k hk e)
  have hn1 := h.nod.app hx hap ho hg
  have hb1 : Below w.heap.size w W' := h.bel.grown hg h.bel.size (fun k hk => by have := hlo k hk; omega)
  have hS : Only (fun k => k = Q) W' (W'.setCell ⟨Q, 0, none⟩ v') := Only.setCell (S := fun k => k = Q) (Only.refl _ _) (p := ⟨Q, 0, none⟩) rfl _
  have hf := h.far
  have hs : (W'.setCell ⟨Q, 0, none⟩ v').heap.size = W'.heap.size := by simp [World.setCell]
  refine ⟨hr1.only hS (by omega), by simpa using hv1.set 0 v', by rw [hs]; exact hn1.keep hS (fun k hk e => hn1.ne_var hv1 k hk e), own_only ht1 hS (fun k hk e => own_ne_var ht1 hv1 (by decide) k hk e), hb1.trans (hS.below hb1.size (fun k e => by omega)), hf⟩
/-- A text is put behind the row, and the row into the variable. -/
theorem GrInv.text {w W W' : World} {Q : Nat} {vn vd v' : Value} {M : List NodeU} {ds : List ByteArray} {s : ByteArray} (h : GrInv w W Q vn vd M ds)
    (ho : W'.ownsRow (w.heap.size + 1) 9 1 v' (ds.length + 1) (ds.map Value.string ++ [.string s])) (hg : W.grownBy W' vd.ownBlock) : GrInv w (W'.setCell ⟨Q, 1, none⟩ v') Q vn v' M (ds ++ [s]) := by
  have hO := Only.of_grown hg
  have hlo : ∀ k, vd.ownBlock = some k → w.heap.size + 1 ≤ k := fun k hk => (h.txt.lt k hk).1
  have hv1 : Var W' Q #[vn, vd] 31 := h.var.only hO (fun e => own_ne_var h.txt h.var (by decide) Q e rfl)
  have hr1 : Var W' w.heap.size #[.slice none 0 0, .slice none 0 0] 31 := h.res.only hO (fun e => by have := hlo _ e; omega)
  have hn1 : OwnL W' (w.heap.size + 1) W'.heap.size vn M := (h.nod.keep hO (fun k hk e => h.nod.apart_txt h.txt k e hk)).hi hg.size
  have hb1 : Below w.heap.size w W' := h.bel.grown hg h.bel.size (fun k hk => by have := hlo k hk; omega)
  have hS : Only (fun k => k = Q) W' (W'.setCell ⟨Q, 1, none⟩ v') := Only.setCell (S := fun k => k = Q) (Only.refl _ _) (p := ⟨Q, 1, none⟩) rfl _
  have hf := h.far
  have hs : (W'.setCell ⟨Q, 1, none⟩ v').heap.size = W'.heap.size := by simp [World.setCell]
  have ht1 : W'.ownsRow (w.heap.size + 1) 9 1 v' (ds ++ [s]).length ((ds ++ [s]).map Value.string) := by rw [List.length_append, List.map_append]; exact ho
  refine ⟨hr1.only hS (by omega), by simpa using hv1.set 1 v', by rw [hs]; exact hn1.keep hS (fun k hk e => hn1.ne_var hv1 k hk e), own_only ht1 hS (fun k hk e => own_ne_var ht1 hv1 (by decide) k hk e), hb1.trans (hS.below hb1.size (fun k e => by omega)), hf⟩
theorem GrInv.varText {w W W' : World} {Q : Nat} {vn vd : Value} {M : List NodeU} {ds : List ByteArray} (h : GrInv w W Q vn vd M ds) (hg : W.grownBy W' vd.ownBlock) : Var W' Q #[vn, vd] 31 :=
  h.var.only (Only.of_grown hg) (fun e => own_ne_var h.txt h.var (by decide) Q e rfl)
theorem GrInv.varNode {w W W' : World} {Q : Nat} {vn vd : Value} {M : List NodeU} {ds : List ByteArray} (h : GrInv w W Q vn vd M ds) (hg : W.grownBy W' vn.ownBlock) : Var W' Q #[vn, vd] 31 :=
  h.var.only (Only.of_grown hg) (fun e => own_ne_var h.nod.row h.var (by decide) Q e rfl)
theorem GrInv.size {w W : World} {Q : Nat} {vn vd : Value} {M : List NodeU} {ds : List ByteArray} (h : GrInv w W Q vn vd M ds) : w.heap.size + 1 ≤ W.heap.size := by
  have := h.var.lt
  have := h.far
  omega
theorem GrInv.own {w W : World} {Q : Nat} {vn vd : Value} {M : List NodeU} {F : FsD} (h : GrInv w W Q vn vd M F.ds) (hM : M.map (·.1) = F.ns) : OwnFs W (w.heap.size + 1) W.heap.size (.agg #[vn, vd]) F :=
  ⟨_, _, rfl, ⟨M, hM, h.nod⟩, h.txt, fun j hj => (h.txt.lt j hj).2⟩
/-- The branch goes into the answer's variable. -/
theorem GrInv.done {w W : World} {Q : Nat} {vn vd : Value} {M : List NodeU} {F : FsD} (h : GrInv w W Q vn vd M F.ds) (hM : M.map (·.1) = F.ns) :
    Var ((W.setCell ⟨w.heap.size, 0, none⟩ vn).setCell ⟨w.heap.size, 1, none⟩ vd) w.heap.size #[vn, vd] 31 ∧ OwnFs ((W.setCell ⟨w.heap.size, 0, none⟩ vn).setCell ⟨w.heap.size, 1, none⟩ vd) w.heap.size ((W.setCell ⟨w.heap.size, 0, none⟩ vn).setCell ⟨w.heap.size, 1, none⟩ vd).heap.size (.agg #[vn, vd]) F ∧ Below w.heap.size w ((W.setCell ⟨w.heap.size, 0, none⟩ vn).setCell ⟨w.heap.size, 1, none⟩ vd) := by
  have hO : Only (fun k => k = w.heap.size) W ((W.setCell ⟨w.heap.size, 0, none⟩ vn).setCell ⟨w.heap.size, 1, none⟩ vd) := (Only.setCell (S := fun k => k = w.heap.size) (Only.refl _ _) (p := ⟨w.heap.size, 0, none⟩) rfl _).setCell (p := ⟨w.heap.size, 1, none⟩) rfl _
  have hv := (h.res.set 0 vn).set 1 vd
  refine ⟨by simpa using hv, ?_, h.bel.trans (hO.below h.bel.size (fun k e => by omega))⟩
  exact (((h.own hM).only hO (fun k h1 _ e => by omega)).base (by omega)).hi (by simp [World.setCell])
end Go.Proofs.Ytioecnfgliponaa
