/-
  Own text: the laws' helpers over nodes.
-/
import Derived.Test.YtaabcfgjmankgaaDoorNodeF
import Derived.Test.YtaabcfgjmankgaaDoorIntW
import Derived.Test.YtaabcfgjmankgaaDoorRowC
import Derived.Test.YtaabcfgjmankgaaDoorPutW
import Derived.Laws.ResultCell
import Derived.Deep.Cut
namespace Go.Proofs.YtaabcfgjmankgaaDoor
open Go.RowKit

theorem Tryd.infoInt : (Tryd.prog.info? 3).map (fun i => (i.zero, i.size, i.bytes)) = some (some (.int .i64 0), 1, 8) := by kernel_rfl
theorem Tryd.sizeNode : (Tryd.prog.info? 36).map (·.size) = some 5 := by kernel_rfl

theorem RdN.lay {w : World} {v : Value} {n : NodeD} (h : RdN w v n) : ∃ a c, v = .agg #[.int .i64 n.k, .int .i64 n.g, .int .i64 n.t, .int .i64 n.s, .slice a n.b.length c] := by
  obtain ⟨a, c, rfl, _⟩ := h
  exact ⟨a, c, rfl⟩
theorem OwnN.lay {w : World} {lo : Nat} {v : Value} {n : NodeD} (h : OwnN w lo v n) : ∃ a c, v = .agg #[.int .i64 n.k, .int .i64 n.g, .int .i64 n.t, .int .i64 n.s, .slice a n.b.length c] := h.shape
/-- Five cells stored, one behind the other, into a variable of five. -/
abbrev five (w : World) (P : Nat) (a b c d e : Value) : World := ((((w.setCell ⟨P, 0, none⟩ a).setCell ⟨P, 1, none⟩ b).setCell ⟨P, 2, none⟩ c).setCell ⟨P, 3, none⟩ d).setCell ⟨P, 4, none⟩ e
theorem Var.five {w : World} {P : Nat} {x0 x1 x2 x3 x4 : Value} {t : TypeId} (h : Var w P #[x0, x1, x2, x3, x4] t) (a b c d e : Value) :
    Var (five w P a b c d e) P #[a, b, c, d, e] t ∧ w.cell? ⟨P, 0, none⟩ = some x0 ∧ (w.setCell ⟨P, 0, none⟩ a).cell? ⟨P, 1, none⟩ = some x1 ∧ ((w.setCell ⟨P, 0, none⟩ a).setCell ⟨P, 1, none⟩ b).cell? ⟨P, 2, none⟩ = some x2 ∧
      (((w.setCell ⟨P, 0, none⟩ a).setCell ⟨P, 1, none⟩ b).setCell ⟨P, 2, none⟩ c).cell? ⟨P, 3, none⟩ = some x3 ∧ ((((w.setCell ⟨P, 0, none⟩ a).setCell ⟨P, 1, none⟩ b).setCell ⟨P, 2, none⟩ c).setCell ⟨P, 3, none⟩ d).cell? ⟨P, 4, none⟩ = some x4 ∧
      w.frozen? ⟨P, 0, none⟩ = false ∧ w.frozen? ⟨P, 1, none⟩ = false ∧ w.frozen? ⟨P, 2, none⟩ = false ∧ w.frozen? ⟨P, 3, none⟩ = false ∧ w.frozen? ⟨P, 4, none⟩ = false := by
  have h0 := h.set 0 a
  have h1 := h0.set 1 b
  have h2 := h1.set 2 c
  have h3 := h2.set 3 d
  have h4 := h3.set 4 e
  refine ⟨by simpa using h4, by simpa using h.cell 0, by simpa using h0.cell 1, by simpa using h1.cell 2, by simpa using h2.cell 3, by simpa using h3.cell 4, h.frozen 0, h.frozen 1, h.frozen 2, h.frozen 3, h.frozen 4⟩
theorem own_five {w : World} {base : Nat} {e' : TypeId} {size : Nat} {v : Value} {n : Nat} {xs : List Value} (h : w.ownsRow base e' size v n xs) {Q : Nat} (hQ : Q < base) (a b c d e : Value) : (five w Q a b c d e).ownsRow base e' size v n xs :=
  own_set (own_set (own_set (own_set (own_set h hQ 0 a) hQ 1 b) hQ 2 c) hQ 3 d) hQ 4 e
theorem below_five {B : Nat} {w W : World} (h : Below B w W) {Q : Nat} (hQ : B ≤ Q) (a b c d e : Value) : Below B w (five W Q a b c d e) :=
  ((((h.setCell (p := ⟨Q, 0, none⟩) hQ a).setCell (p := ⟨Q, 1, none⟩) hQ b).setCell (p := ⟨Q, 2, none⟩) hQ c).setCell (p := ⟨Q, 3, none⟩) hQ d).setCell (p := ⟨Q, 4, none⟩) hQ e
theorem flat_one (l : List Int) : l.flatMap (fun x => [Value.int .i64 x]) = l.map (Value.int .i64) := by
  induction l <;> simp_all
theorem Rd.cellI {w : World} {a : Option Addr} {l : List Int} (h : Rd .i64 w a l) (k : Nat) (hk : k < l.length) : ∃ b off, a = some ⟨b, off, none⟩ ∧ b < w.heap.size ∧ w.cell? ⟨b, off + k, none⟩ = some (.int .i64 l[k]) := by
  rcases h with rfl | ⟨b, off, rfl, h1, h2⟩
  · simp at hk
  · refine ⟨b, off, rfl, h1, ?_⟩
    rw [h2 k hk]
    simp [List.getD, hk]

set_option maxRecDepth 20000 in
set_option maxHeartbeats 1000000 in
theorem eqNodeW (v u : Value) (n : NodeD) (w : World) (hl : n.b.length ≤ 4194304) (hr : RdN w v n) (hs : RdN w u n) :
    Calls Tryd.prog 47 #[v, u] w fun e w' => e = .returned (.bool true) ∧ Below w.heap.size w w' := by
  obtain ⟨a, c, rfl, _, _, hr⟩ := hr
  obtain ⟨a', c', rfl, _, _, hs⟩ := hs
  have HR : Hid (Rd .i64 w a n.b) := hr
  have HS : Hid (Rd .i64 w a' n.b) := hs
  clear hr hs
  unfold aggN
  go_enter Tryd.func47, Tryd.ntmps47
  go_wp2_with fail
  refine (eqI _ _ _ _ n.b _ hl (HR.out.below (below2 _ _ _) (Nat.le_refl _)) (HS.out.below (below2 _ _ _) (Nat.le_refl _))).mono ?_
  rintro e w1 ⟨rfl, hb1⟩
  have hb : Below w.heap.size w w1 := (below2 w _ _).trans (hb1.mono (by simp; omega))
  go_wp2
  go_ret
  exact ⟨rfl, hb⟩
end Go.Proofs.YtaabcfgjmankgaaDoor
