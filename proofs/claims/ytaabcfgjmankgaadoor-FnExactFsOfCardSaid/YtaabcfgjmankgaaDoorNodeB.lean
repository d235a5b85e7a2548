/-
  Own text: a node in a variable of the call's own beside a row of numbers; a text as a row of bytes; answers of a node and a flag.
-/
import Derived.Test.YtaabcfgjmankgaaDoorNodeL
import Derived.Test.YtaabcfgjmankgaaDoorTextW
import Derived.Laws.IdiomStrings
namespace Go.Proofs.YtaabcfgjmankgaaDoor
open Go.RowKit

theorem res_row1 {P : Program} {fn : Func} {p u : Tmp} {ty : TypeId} (h : fn.results = #[.cell p ty, .tmp u]) (tmps : Array Value) (w : World) (g : Nat) (t : TypeId) (cs : Array Value) (d : TypeDesc)
    (hp : tmps.getD p undef = .pointer (some ⟨g, 0, none⟩)) (hg : Var w g cs t)
    (hu : P.underlying ty = some d) (hd : (match d with | .struct _ | .array _ _ => true | _ => false) = true) (hi : (P.info? ty).map (·.size) = some cs.size) :
    (results fn tmps).run P w = .ok (.tuple #[.agg cs, tmps.getD u undef]) w := by
  rw [results_cell_tmp h, hp]
  simp [asAddr, run_loadVar_row w g t ty cs (0, 0) d hg hu hd hi]

/-- A text turned into a row of bytes. -/
theorem bytes_rowN (s : ByteArray) (w : World) (hs : s.size ≤ 1048576) : ∃ cap W, (convert 9 45 (.string s)).run Tryd.prog w = .ok (.slice (some ⟨w.heap.size, 0, none⟩) (bytesOf s).length cap) W ∧ Rd .u8 W (some ⟨w.heap.size, 0, none⟩) (bytesOf s) ∧ Below w.heap.size w W ∧ w.heap.size < W.heap.size ∧ (bytesOf s).length ≤ cap ∧ cap ≤ maxLen := by
  have hcv := run_bytes_of_string (P := Tryd.prog) w 9 45 5 s Tryd.underlying9 Tryd.underlying45 Tryd.underlying5
  have hge := grownCap_ge w s.size 0 5
  have hle := grownCap_le_maxLen w s.size 0 5 (by unfold maxLen; omega)
  generalize hcap : grownCap w s.size 0 5 = cap at hcv hge hle
  generalize hW : w.drew.alloc (.cells (bytesRow s cap) 5 ((bytesRow s cap).size, (bytesRow s cap).size + 1)) = W at hcv
  have e1 : W.heap[w.heap.size]? = some (.cells (bytesRow s cap) 5 ((bytesRow s cap).size, (bytesRow s cap).size + 1)) := by rw [← hW]; exact heap_alloc_new w.drew _
  refine ⟨cap, W, by rw [bytesOf_len]; exact hcv, .inr ⟨w.heap.size, 0, rfl, (Array.getElem?_eq_some_iff.1 e1).1, fun i hi => ?_⟩, by rw [← hW]; exact (Below.refl _ _).drew.alloc (Nat.le_refl _) _, (Array.getElem?_eq_some_iff.1 e1).1, by rw [bytesOf_len]; exact hge, hle⟩
  rw [bytesOf_len] at hi
  have hj : i < s.data.size := hi
  rw [Nat.zero_add, cell_of_row W w.heap.size i _ _ _ e1, bytesRow_at s cap i hj]
  simp [bytesOf, List.getD, Array.getElem?_eq_getElem hj]

abbrev zeroC : Array Value := #[.int .i64 0, .int .i64 0, .int .i64 0, .int .i64 0, .slice none 0 0]
/-- What is known: the answer's variable is still empty; the node's variable holds C; the row v holds the numbers xs; nothing old was touched. -/
structure NInv (w : World) (R P lo : Nat) (C : Array Value) (W : World) (v : Value) (xs : List Int) : Prop where
  rlt : R < lo
  plt : P < lo
  ne : R ≠ P
  rge : w.heap.size ≤ R
  pge : w.heap.size ≤ P
  bel : Below w.heap.size w W
  res : Var W R zeroC 36
  node : Var W P C 36
  own : W.ownsRow lo 3 1 v xs.length (xs.map (Value.int .i64))
  siz : lo ≤ W.heap.size
theorem NInv.set {w : World} {R P lo : Nat} {C : Array Value} {W : World} {v : Value} {xs : List Int} (h : NInv w R P lo C W v xs) (j : Nat) (u : Value) : NInv w R P lo (C.setIfInBounds j u) (W.setCell ⟨P, j, none⟩ u) v xs :=
  ⟨h.rlt, h.plt, h.ne, h.rge, h.pge, h.bel.setCell (p := ⟨P, j, none⟩) h.pge u, h.res.other h.ne j u, h.node.set j u, own_set h.own h.plt j u, by simpa using h.siz⟩
theorem NInv.below {w : World} {R P lo : Nat} {C : Array Value} {W W' : World} {v : Value} {xs : List Int} (h : NInv w R P lo C W v xs) (hb : Below W.heap.size W W') : NInv w R P lo C W' v xs :=
  ⟨h.rlt, h.plt, h.ne, h.rge, h.pge, h.bel.trans (hb.mono h.bel.size), h.res.new hb, h.node.new hb, ownsRow_below h.own hb (Nat.le_refl _), Nat.le_trans h.siz hb.size⟩
theorem NInv.grown {w : World} {R P lo : Nat} {C : Array Value} {W W' : World} {v v' : Value} {xs ys : List Int} (h : NInv w R P lo C W v xs) (hg : W.grownBy W' v.ownBlock) (ho : W'.ownsRow lo 3 1 v' ys.length (ys.map (Value.int .i64))) : NInv w R P lo C W' v' ys := by
  have hlo : ∀ k, v.ownBlock = some k → lo ≤ k := fun k hk => (h.own.lt k hk).1
  have h1 := h.rlt
  have h2 := h.plt
  refine ⟨h.rlt, h.plt, h.ne, h.rge, h.pge, h.bel.grown hg h.bel.size (fun k hk => by have := hlo k hk; have := h.rge; omega), ?_, ?_, ho, Nat.le_trans h.siz hg.size⟩
  · exact h.res.only (Only.of_grown hg) (fun he => by have := hlo _ he; omega)
  · exact h.node.only (Only.of_grown hg) (fun he => by have := hlo _ he; omega)
/-- The empty node, stored into the answer's variable. -/
theorem NInv.zero {w : World} {R P lo : Nat} {C : Array Value} {W : World} {v : Value} {xs : List Int} (h : NInv w R P lo C W v xs) :
    Var (five W R (.int .i64 0) (.int .i64 0) (.int .i64 0) (.int .i64 0) (.slice none 0 0)) R zeroC 36 ∧ OwnN (five W R (.int .i64 0) (.int .i64 0) (.int .i64 0) (.int .i64 0) (.slice none 0 0)) w.heap.size (.agg zeroC) zeroN ∧ Below w.heap.size w (five W R (.int .i64 0) (.int .i64 0) (.int .i64 0) (.int .i64 0) (.slice none 0 0)) :=
  ⟨(h.res.five _ _ _ _ _).1, ⟨_, rfl, World.ownsRow_nil _ _ _ _⟩, below_five h.bel h.rge _ _ _ _ _⟩
theorem Good.leN {l : List Int} {at' : Int} {n next : Nat} (h : Good l at' n next) : next ≤ l.length ∧ n ≤ 2147483647 ∧ at' < (next : Int) ∧ 0 ≤ at' := by
  obtain ⟨p, k, hp, ⟨_, h1, _, _⟩, _, _, h2, h3⟩ := h
  exact ⟨by omega, h2, by omega, by omega⟩
end Go.Proofs.YtaabcfgjmankgaaDoor
