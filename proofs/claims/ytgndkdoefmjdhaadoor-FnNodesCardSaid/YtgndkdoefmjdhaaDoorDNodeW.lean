/-
  Own text: the nodes that the laws draw: a right one.
-/
import Derived.Test.YtgndkdoefmjdhaaDoorCurO
import Derived.Test.YtgndkdoefmjdhaaDoorNodeB
import Derived.Test.YtgndkdoefmjdhaaDoorSNodeOfW
namespace Go.Proofs.YtgndkdoefmjdhaaDoor
open Go.RowKit

theorem own_varN {w : World} {base : Nat} {e : TypeId} {size : Nat} {v : Value} {n : Nat} {xs : List Value} {P : Nat} {C : Array Value} {t : TypeId} (h : w.ownsRow base e size v n xs) (hV : Var w P C t) (hne : e ≠ t) : ¬ v.ownBlock = some P := by
  intro hk
  rcases h.2 with ⟨rfl, _⟩ | ⟨g, cap, cur, rfl, _, hg, _⟩
  · cases hk
  · cases hk
    have hV' : w.heap[g]? = some (.cells C t (0, 0)) := hV
    rw [hg] at hV'
    injection hV' with hV'
    injection hV' with _ hty _
    exact hne hty
/-- What is known while a node is drawn: the answer's variable R is still empty, the node's variable Q holds C, the row v holds the numbers ys; nothing that was there has turned but the cursor. -/
structure DInv (w : World) (P : Nat) (x : Option Addr) (cap : Nat) (l : List Int) (R Q lo : Nat) (C : Array Value) (W : World) (v : Value) (ys : List Int) : Prop where
  only : OnlyP P w W
  drw : Drw W P x cap l
  plt : P < w.heap.size
  rge : w.heap.size ≤ R
  qge : w.heap.size ≤ Q
  ne : R ≠ Q
  log : w.heap.size ≤ lo
  siz : lo ≤ W.heap.size
  res : Var W R zeroC 26
  node : Var W Q C 26
  own : W.ownsRow lo 3 1 v ys.length (ys.map (Value.int .i64))
section
variable {w : World} {P : Nat} {x : Option Addr} {cap : Nat} {l : List Int} {R Q lo : Nat} {C : Array Value} {W W' : World} {v : Value} {ys : List Int}
theorem DInv.set (h : DInv w P x cap l R Q lo C W v ys) (j : Nat) (u : Value) : DInv w P x cap l R Q lo (C.setIfInBounds j u) (W.setCell ⟨Q, j, none⟩ u) v ys :=
  have ho : Only (fun k => k = Q) W (W.setCell ⟨Q, j, none⟩ u) := Only.setCell (S := fun k => k = Q) (Only.refl _ _) (p := ⟨Q, j, none⟩) rfl u
  ⟨h.only.trans' (ho.mono fun _ _ hk => by rw [hk]; exact h.qge), h.drw.only ho (fun k hk hkq => by have := h.qge; have := h.plt; omega), h.plt, h.rge, h.qge, h.ne, h.log, by simpa using h.siz, h.res.other h.ne j u, h.node.set j u, own_only h.own ho (fun k hk hkq => own_varN h.own h.node (by decide) (by rw [hk, hkq]))⟩
theorem DInv.new (h : DInv w P x cap l R Q lo C W v ys) (hb : Below W.heap.size W W') : DInv w P x cap l R Q lo C W' v ys :=
  ⟨h.only.trans (Only.of_new hb), h.drw.far hb h.drw.lt, h.plt, h.rge, h.qge, h.ne, h.log, Nat.le_trans h.siz hb.size, h.res.new hb, h.node.new hb, ownsRow_below h.own hb (Nat.le_refl _)⟩
theorem DInv.drew (h : DInv w P x cap l R Q lo C W v ys) : DInv w P x cap l R Q lo C W.drew v ys := h.new (Below.refl _ _).drew
theorem DInv.draw (h : DInv w P x cap l R Q lo C W v ys) (ho : OnlyP P W W') (hd : Drw W' P x cap l) : DInv w P x cap l R Q lo C W' v ys :=
  ⟨h.only.trans ho, hd, h.plt, h.rge, h.qge, h.ne, h.log, Nat.le_trans h.siz ho.size, h.res.onlyP ho (by have := h.rge; have := h.plt; omega), h.node.onlyP ho (by have := h.qge; have := h.plt; omega),
    own_only h.own ho (fun k hk hkp => by have := (h.own.lt k hk).1; have := h.log; have := h.plt; omega)⟩
theorem DInv.grown {v' : Value} {zs : List Int} (h : DInv w P x cap l R Q lo C W v ys) (hg : W.grownBy W' v.ownBlock) (ho : W'.ownsRow lo 3 1 v' zs.length (zs.map (Value.int .i64))) : DInv w P x cap l R Q lo C W' v' zs := by
  have hlo : ∀ k, v.ownBlock = some k → lo ≤ k := fun k hk => (h.own.lt k hk).1
  have h1 := h.log
  have h4 := h.plt
  have hon : Only (fun k => lo ≤ k) W W' := (Only.of_grown hg).mono fun k _ hk => hlo k hk
  exact ⟨h.only.trans' (hon.mono fun k _ hk => by omega), h.drw.only hon (fun k hk hkl => by omega), h.plt, h.rge, h.qge, h.ne, h.log, Nat.le_trans h.siz hg.size, h.res.only (Only.of_grown hg) (own_varN h.own h.res (by decide)), h.node.only (Only.of_grown hg) (own_varN h.own h.node (by decide)), ho⟩
/-- The answer, stored. -/
theorem DInv.done {n : NodeD} {a : Option Addr} {c : Nat} (h : DInv w P x cap l R Q lo #[.int .i64 n.k, .int .i64 n.g, .int .i64 n.t, .int .i64 n.s, .slice a n.b.length c] W (.slice a n.b.length c) n.b) :
    Var (five W R (.int .i64 n.k) (.int .i64 n.g) (.int .i64 n.t) (.int .i64 n.s) (.slice a n.b.length c)) R #[.int .i64 n.k, .int .i64 n.g, .int .i64 n.t, .int .i64 n.s, .slice a n.b.length c] 26 ∧
    OwnN (five W R (.int .i64 n.k) (.int .i64 n.g) (.int .i64 n.t) (.int .i64 n.s) (.slice a n.b.length c)) w.heap.size (.agg #[.int .i64 n.k, .int .i64 n.g, .int .i64 n.t, .int .i64 n.s, .slice a n.b.length c]) n ∧
    Drw (five W R (.int .i64 n.k) (.int .i64 n.g) (.int .i64 n.t) (.int .i64 n.s) (.slice a n.b.length c)) P x cap l ∧
    OnlyP P w (five W R (.int .i64 n.k) (.int .i64 n.g) (.int .i64 n.t) (.int .i64 n.s) (.slice a n.b.length c)) := by
  have hb : Below R W (five W R (.int .i64 n.k) (.int .i64 n.g) (.int .i64 n.t) (.int .i64 n.s) (.slice a n.b.length c)) := below_five (Below.refl _ _) (Nat.le_refl _) _ _ _ _ _
  have h1 := h.rge
  have h2 := h.plt
  have h3 := h.log
  have hon : Only (fun k => k = R) W (five W R (.int .i64 n.k) (.int .i64 n.g) (.int .i64 n.t) (.int .i64 n.s) (.slice a n.b.length c)) :=
    Only.setCell (S := fun k => k = R) (Only.setCell (S := fun k => k = R) (Only.setCell (S := fun k => k = R) (Only.setCell (S := fun k => k = R) (Only.setCell (S := fun k => k = R) (Only.refl _ W) (p := ⟨R, 0, none⟩) rfl _) (p := ⟨R, 1, none⟩) rfl _) (p := ⟨R, 2, none⟩) rfl _) (p := ⟨R, 3, none⟩) rfl _) (p := ⟨R, 4, none⟩) rfl _
  refine ⟨(h.res.five _ _ _ _ _).1, ⟨_, rfl, ownsRow_base (own_only h.own hon (fun k hk hkr => own_varN h.own h.res (by decide) (by rw [hk, hkr]))) h3⟩, h.drw.far hb (by omega), ?_⟩
  exact h.only.trans' ⟨hb.os, hb.tape, hb.output, hb.size, fun k _ hk => hb.block k (by omega)⟩
end
/-- A row of numbers, one behind the other, is one of blocks. -/
def runL (f m : Nat) : List Int := (List.range m).map fun i => ((f + i : Nat) : Int)
theorem runL_len (f m : Nat) : (runL f m).length = m := by simp [runL]
theorem runL_succ (f m : Nat) : runL f (m + 1) = runL f m ++ [((f + m : Nat) : Int)] := by unfold runL; rw [List.range_succ, List.map_append]; rfl
theorem runL_ok {f m : Nat} (h : f + m ≤ 36) : BlkP (runL f m) := by
  refine ⟨fun x hx => ?_, fun i j hi hj hij => ?_⟩
  · simp only [runL, List.mem_map, List.mem_range] at hx
    obtain ⟨i, hi, rfl⟩ := hx
    omega
  · simp [runL]
    omega
end Go.Proofs.YtgndkdoefmjdhaaDoor
