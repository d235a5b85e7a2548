/-
  Own text: what the frame tells of a node that came in; a node in memory.
-/
import Derived.Test.YtioecnfgliponaaNodeMath
import Derived.Test.YtioecnfgliponaaRows
import Derived.OpenShut
import Derived.ShutString
import Derived.ChangeOld
import Derived.Below
import Derived.SliceStrings
import Derived.ChangeSame
import Derived.Lib.SmallJoins
namespace Go.Proofs.Ytioecnfgliponaa
open Go.ChangeShapes Go.WideShapes Go.ChangeAt Go.RowKit

/-- A node as a value: its numbers, and a slice of its blocks. -/
def aggN (n : NodeD) (u : Value) : Value := .agg #[.int .i64 n.k, .int .i64 n.g, .int .i64 n.t, .int .i64 n.s, u]
def RdN (w : World) (v : Value) (n : NodeD) : Prop := ∃ a c, v = aggN n (.slice a n.b.length c) ∧ n.b.length ≤ c ∧ c ≤ maxLen ∧ Rd .i64 w a n.b
def OwnN (w : World) (lo : Nat) (v : Value) (n : NodeD) : Prop := ∃ u, v = aggN n u ∧ w.ownsRow lo 3 1 u n.b.length (n.b.map (Value.int .i64))
theorem RdN.below {w w' : World} {B : Nat} {v : Value} {n : NodeD} (h : RdN w v n) (hb : Below B w w') (hB : w.heap.size ≤ B) : RdN w' v n := by
  obtain ⟨a, c, rfl, h1, h2, hr⟩ := h
  exact ⟨a, c, rfl, h1, h2, hr.below hb hB⟩
theorem OwnN.below {w w' : World} {lo : Nat} {v : Value} {n : NodeD} (h : OwnN w lo v n) (hb : Below w.heap.size w w') : OwnN w' lo v n := by
  obtain ⟨u, rfl, ho⟩ := h
  exact ⟨u, rfl, ownsRow_below ho hb (Nat.le_refl _)⟩
theorem OwnN.base {w : World} {lo lo' : Nat} {v : Value} {n : NodeD} (h : OwnN w lo v n) (hb : lo' ≤ lo) : OwnN w lo' v n := by
  obtain ⟨u, rfl, ho⟩ := h
  exact ⟨u, rfl, ownsRow_base ho hb⟩
theorem OwnN.shape {w : World} {lo : Nat} {v : Value} {n : NodeD} (h : OwnN w lo v n) : ∃ a c, v = aggN n (.slice a n.b.length c) := by
  obtain ⟨u, rfl, ho⟩ := h
  obtain ⟨a, c, rfl, _⟩ := own_rd ho
  exact ⟨a, c, rfl⟩
theorem OwnN.rd {w : World} {lo : Nat} {v : Value} {n : NodeD} (h : OwnN w lo v n) : RdN w v n := by
  obtain ⟨u, rfl, ho⟩ := h
  obtain ⟨a, c, rfl, _, hr⟩ := own_rd ho
  have hc : n.b.length ≤ c ∧ c ≤ maxLen := by
    rcases ho.2 with ⟨he, h0⟩ | ⟨g, cc, cur, he, _, _, h1, h2, _⟩
    · injection he with _ _ he3
      exact ⟨by omega, by omega⟩
    · injection he with _ _ he3
      exact ⟨by omega, by omega⟩
  exact ⟨a, c, rfl, hc.1, hc.2, hr⟩
def FitNd (n : NodeD) : Prop := n.b.length ≤ maxLen ∧ (Lit.int .i64 n.k).wf = true ∧ (Lit.int .i64 n.g).wf = true ∧ (Lit.int .i64 n.t).wf = true ∧ (Lit.int .i64 n.s).wf = true ∧ ∀ x ∈ n.b, (Lit.int .i64 x).wf = true

section
variable {H : Type} {enc : TypeId × Value → H} {w : World} {spare : Nat → Bool} {held : Bool}

theorem trod_struct5 {P : Program} {base : Nat} {t : TypeId} {f0 f1 f2 f3 f4 : Field} {fuel : Nat} {cs : List Value} {x : DataW H × List MemPlace} (ht : P.underlying t = some (.struct #[f0, f1, f2, f3, f4])) (h : DataW.trod enc P w base spare held fuel t cs = some x) :
    ∃ y0 y1 y2 y3 y4 n, x = (.agg [y0.1, y1.1, y2.1, y3.1, y4.1], y0.2 ++ (y1.2 ++ (y2.2 ++ (y3.2 ++ y4.2)))) ∧ cs.length = P.cellsOf t ∧ DataW.trod enc P w base spare held n f0.type ((cs.drop f0.offset).take (P.cellsOf f0.type)) = some y0 ∧
      DataW.trod enc P w base spare held n f1.type ((cs.drop f1.offset).take (P.cellsOf f1.type)) = some y1 ∧ DataW.trod enc P w base spare held n f2.type ((cs.drop f2.offset).take (P.cellsOf f2.type)) = some y2 ∧
      DataW.trod enc P w base spare held n f3.type ((cs.drop f3.offset).take (P.cellsOf f3.type)) = some y3 ∧ DataW.trod enc P w base spare held n f4.type ((cs.drop f4.offset).take (P.cellsOf f4.type)) = some y4 := by
  obtain ⟨xs, n, _, rfl, hl, hlen, hf⟩ := DataW.trod_struct ht h
  match xs, hlen with
  | [y0, y1, y2, y3, y4], _ => exact ⟨y0, y1, y2, y3, y4, n, by simp, hl, by simpa using hf 0 f0 rfl, by simpa using hf 1 f1 rfl, by simpa using hf 2 f2 rfl, by simpa using hf 3 f3 rfl, by simpa using hf 4 f4 rfl⟩

theorem ints_of_trod {fuel : Nat} {v : Value} {x : DataW H × List MemPlace} (h : DataW.trod enc Try.prog w 0 (fun _ => true) held fuel 53 [v] = some x) :
    ∃ (a : Option Addr) (cap : Nat) (l : List Int), v = .slice a l.length cap ∧ l.length ≤ cap ∧ cap ≤ maxLen ∧ (∀ x ∈ l, (Lit.int .i64 x).wf = true) ∧ Rd .i64 w a l := by
  rcases open_ints Try.underlying53 Try.underlying3 (by kernel_rfl) h with ⟨hcs, _⟩ | ⟨x, l, c, zs, hcs, _, hl, hm, hz, _, hcell, hwz⟩
  · simp at hcs
    exact ⟨none, 0, [], hcs, Nat.zero_le _, Nat.zero_le _, by simp, .inl rfl⟩
  · simp at hcs
    have hzl := hz
    simp at hzl
    refine ⟨some x, c, zs.take l, by rw [hcs]; simp; omega, by simp; omega, hm, fun y hy => hwz y (List.mem_of_mem_take hy), ?_⟩
    by_cases h0 : l = 0
    · left; simp [h0]
    · right
      obtain ⟨b, off, spot⟩ := x
      have hc0 := hcell 0 (by omega)
      have hspot : spot = none := by simpa [Addr.add] using World.cell?_spot hc0
      subst hspot
      refine ⟨b, off, rfl, World.block_lt_of_cell? w _ hc0, fun i hi => ?_⟩
      simp at hi
      have := hcell i (by omega)
      rw [Go.WideShapes.add_plain] at this
      rw [this]
      have hil : i < l := by omega
      simp [List.getD, show i < zs.length by omega, hil]

set_option maxRecDepth 100000 in
theorem open_Node {r : Reach} {b0 : Nat} {v : Value} {d : DataW H} {p : List MemPlace} (hv : Value.okWide Try.prog w r b0 70 v) (h : DataW.Trod enc Try.prog w 0 (fun _ => true) held 70 v d p) :
    ∃ N : NodeD, FitNd N ∧ RdN w v N := by
  obtain ⟨cs, rfl, hsz⟩ := okWide_struct Try.underlying70 hv
  have hc : Try.prog.cellsOf 70 = 5 := by kernel_rfl
  have hc0 : Try.prog.cellsOf 3 = 1 := by kernel_rfl
  have hc1 : Try.prog.cellsOf 53 = 1 := by kernel_rfl
  obtain ⟨fuel, hf⟩ := h
  obtain ⟨y0, y1, y2, y3, y4, n, _, hl, h0, h1, h2, h3, h4⟩ := trod_struct5 Try.underlying70 hf
  obtain ⟨L⟩ := cs
  have hL : L.length = 5 := by simpa [hc] using hsz
  match L, hL with
  | [c0, c1, c2, c3, c4], _ =>
    simp only [hc0, hc1, Value.cells, List.drop_zero, List.take_succ_cons, List.take_zero, List.drop_succ_cons] at h0 h1 h2 h3 h4
    obtain ⟨m0, e0, _, w0⟩ := DataW.trod_int Try.underlying3 h0
    obtain ⟨m1, e1, _, w1⟩ := DataW.trod_int Try.underlying3 h1
    obtain ⟨m2, e2, _, w2⟩ := DataW.trod_int Try.underlying3 h2
    obtain ⟨m3, e3, _, w3⟩ := DataW.trod_int Try.underlying3 h3
    obtain ⟨a, cap, l, e4, hl4, hm4, hw4, hr4⟩ := ints_of_trod h4
    simp at e0 e1 e2 e3
    subst e0 e1 e2 e3 e4
    exact ⟨⟨m0, m1, m2, m3, l⟩, ⟨Nat.le_trans hl4 hm4, w0, w1, w2, w3, hw4⟩, a, cap, rfl, hl4, hm4, hr4⟩
end
end Go.Proofs.Ytioecnfgliponaa
