/-
  Own texts, several together.
-/
import Derived.Test.YthfgfhbinggpfaaDoorBunZA
import Derived.Test.YthfgfhbinggpfaaDoorRows
import Derived.OpenShut
import Derived.ShutString
import Derived.ChangeOld
import Derived.Below
import Derived.SliceStrings
import Derived.ChangeSame
import Derived.Lib.SmallJoins
import Derived.Deep.RegionWith
import Derived.Handy
/-
  Own text, plain: nodes: which are right, what their texts are, which node a text tells.
-/
namespace Go.Proofs.YthfgfhbinggpfaaDoor
open Go.RowKit

structure NodeD where
  k : Int
  g : Int
  t : Int
  s : Int
  b : List Int
@[ext] theorem NodeD.ext' {m n : NodeD} (h1 : m.k = n.k) (h2 : m.g = n.g) (h3 : m.t = n.t) (h4 : m.s = n.s) (h5 : m.b = n.b) : m = n := by
  cases m; cases n; simp_all
def blksFor (s : Int) : Int := if s ≤ 0 then 0 else if 80 ≤ s then 5 else (s + 15) / 16
theorem blks_le (s : Int) : 0 ≤ blksFor s ∧ blksFor s ≤ 5 := by
  unfold blksFor
  split
  · omega
  · split <;> omega
/-- The numbers of a node that is not free. -/
def NumP (n : NodeD) : Prop := 1 ≤ n.k ∧ n.k ≤ 3 ∧ 0 ≤ n.g ∧ n.g ≤ 1000000 ∧ 0 ≤ n.t ∧ n.t ≤ 100000 ∧ 0 ≤ n.s ∧ n.s ≤ 80 ∧ (n.b.length : Int) = blksFor n.s
def BlkP (b : List Int) : Prop := (∀ x ∈ b, 0 ≤ x ∧ x ≤ 35) ∧ ∀ i j (hi : i < b.length) (hj : j < b.length), i < j → b[i] ≠ b[j]
def zeroN : NodeD := ⟨0, 0, 0, 0, []⟩
def NodP (n : NodeD) : Prop := n = zeroN ∨ (NumP n ∧ (n.k = 2 → n.g = 0 ∧ n.t = 0) ∧ BlkP n.b)
noncomputable def ndOk (n : NodeD) : Bool := @decide (NodP n) (Classical.propDecidable _)
theorem ndOk_yes {n : NodeD} (h : NodP n) : ndOk n = true := by unfold ndOk; exact @decide_eq_true _ (Classical.propDecidable _) h
theorem ndOk_no {n : NodeD} (h : ¬ NodP n) : ndOk n = false := by unfold ndOk; exact @decide_eq_false _ (Classical.propDecidable _) h
theorem ndOk_iff {n : NodeD} : ndOk n = true ↔ NodP n := ⟨fun h => Classical.byContradiction fun h' => absurd ((ndOk_no h').symm.trans h) (by decide), ndOk_yes⟩
theorem NodP.len {n : NodeD} (h : NodP n) : n.b.length ≤ 5 := by
  rcases h with rfl | ⟨h, _⟩
  · simp [zeroN]
  · have h1 := h.2.2.2.2.2.2.2.2; have h2 := blks_le n.s; omega
theorem NodP.kind {n : NodeD} (h : NodP n) : 0 ≤ n.k ∧ n.k ≤ 3 ∧ (n.k = 0 → n = zeroN) := by
  rcases h with rfl | ⟨h, _⟩
  · simp [zeroN]
  · exact ⟨by have := h.1; omega, h.2.1, fun h0 => by have := h.1; omega⟩

/-- The bytes of a node: its kind, and the numbers of one that is not free. -/
def numsN (n : NodeD) : List Int := n.g :: n.t :: n.s :: n.b
def ndB (n : NodeD) : List Int := if n.k = 0 then [0] else n.k :: (numsN n).flatMap putNum
noncomputable def ndText (n : NodeD) : ByteArray := if ndOk n = true then baOf (ndB n) else ⟨#[]⟩
theorem numsN_fit {n : NodeD} (h : NodP n) : ∀ x ∈ numsN n, 0 ≤ x ∧ x ≤ 2147483647 := by
  intro x hx
  unfold numsN at hx
  rcases h with rfl | ⟨h, _, h3⟩
  · simp [zeroN] at hx; omega
  · obtain ⟨h1, h2, h4, h5, h6, h7, h8, h9, _⟩ := h
    simp only [List.mem_cons] at hx
    rcases hx with rfl | rfl | rfl | hx
    · omega
    · omega
    · omega
    · have := h3.1 x hx; omega
theorem ndB_u8 {n : NodeD} (h : NodP n) : U8 (ndB n) := by
  have hk := h.kind
  intro x hx
  unfold ndB at hx
  split at hx
  · simp at hx; omega
  · rcases List.mem_cons.1 hx with rfl | hx
    · omega
    · exact flatNum_u8 _ x hx
theorem ndB_len {n : NodeD} (h : NodP n) : 1 ≤ (ndB n).length ∧ (ndB n).length ≤ 41 := by
  unfold ndB
  split
  · simp
  · have h1 := h.len
    have h2 : ((numsN n).flatMap putNum).length ≤ (numsN n).length * 5 := by
      generalize numsN n = l
      induction l with
      | nil => simp
      | cons x l ih => simp only [List.flatMap_cons, List.length_append, List.length_cons]; have := putNum_len x; omega
    have h3 : (numsN n).length = n.b.length + 3 := by simp [numsN]
    simp only [List.length_cons]
    omega
/-- The text tells the node. -/
def OfP (b : List Int) (n : NodeD) : Prop := NodP n ∧ b = ndB n
theorem nums_from {n : NodeD} (h : NodP n) (hk : n.k ≠ 0) : AtsFrom (ndB n) 1 (numsN n) (ndB n).length := by
  have h1 := ats_mid [] (numsN n) [n.k] (numsN_fit h)
  unfold ndB
  rw [if_neg hk]
  simp only [List.append_nil, List.length_cons, List.length_nil, List.singleton_append] at h1
  rw [show (n.k :: (numsN n).flatMap putNum).length = 0 + 1 + ((numsN n).flatMap putNum).length by simp; omega]
  exact h1
theorem Good.up {l : List Int} {p n next : Nat} (h : Good l (p : Int) n next) : p < next := by
  obtain ⟨p', k, hp, _, _, _, _, h3⟩ := h
  omega
theorem AtsFrom.up {b : List Int} : ∀ {xs : List Int} {a p : Nat}, AtsFrom b a xs p → a + xs.length ≤ p
  | [], a, p, h => by cases h; simp
  | x :: xs, a, p, ⟨n, nx, hg, _, hr⟩ => by
    have h1 := hr.up
    have h2 := hg.up
    simp only [List.length_cons]
    omega
theorem AtsFrom.same {b : List Int} : ∀ {xs ys : List Int} {p q : Nat}, AtsFrom b p xs q → AtsFrom b p ys q → xs = ys
  | [], [], _, _, _, _ => rfl
  | [], y :: ys, p, q, h, ⟨n, nx, hg, _, hr⟩ => by
    cases h
    exfalso
    have h1 := hg.up
    have h2 := hr.up
    omega
  | x :: xs, [], p, q, ⟨n, nx, hg, _, hr⟩, h => by
    cases h
    exfalso
    have h1 := hg.up
    have h2 := hr.up
    omega
  | x :: xs, y :: ys, p, q, ⟨n, nx, hg, hx, hr⟩, ⟨n', nx', hg', hy, hr'⟩ => by
    obtain ⟨rfl, rfl⟩ := hg.unique hg'
    rw [hx, hy, hr.same hr']
end Go.Proofs.YthfgfhbinggpfaaDoor

/-
  Own text: what the frame tells of a node that came in; a node in memory.
-/
namespace Go.Proofs.YthfgfhbinggpfaaDoor
open Go.ChangeShapes Go.WideShapes Go.ChangeAt Go.RowKit

/-- A node as a value: its numbers, and a slice of its blocks. -/
def aggN (n : NodeD) (u : Value) : Value := .agg #[.int .i64 n.k, .int .i64 n.g, .int .i64 n.t, .int .i64 n.s, u]
def RdN (w : World) (v : Value) (n : NodeD) : Prop := ∃ a c, v = aggN n (.slice a n.b.length c) ∧ n.b.length ≤ c ∧ c ≤ maxLen ∧ Rd .i64 w a n.b
def OwnN (w : World) (lo : Nat) (v : Value) (n : NodeD) : Prop := ∃ u, v = aggN n u ∧ w.ownsRow lo 3 1 u n.b.length (n.b.map (Value.int .i64))
theorem RdN.below {w w' : World} {B : Nat} {v : Value} {n : NodeD} (h : RdN w v n) (hb : Below B w w') (hB : w.heap.size ≤ B) : RdN w' v n := by
  obtain ⟨a, c, rfl, h1, h2, hr⟩ := h
  exact ⟨a, c, rfl, h1, h2, hr.below hb hB⟩
theorem OwnN.below {w w' : World} {lo : Nat} {v : Value} {n : NodeD} (h : OwnN w lo v n) (hb : Below w.heap.size w w') : OwnN w' lo v n := by
  obtain ⟨u, rfl, ho⟩ := h
  exact ⟨u, rfl, ownsRow_below ho hb (Nat.le_refl _)⟩
theorem OwnN.base {w : World} {lo lo' : Nat} {v : Value} {n : NodeD} (h : OwnN w lo v n) (hb : lo' ≤ lo) : OwnN w lo' v n := by
  obtain ⟨u, rfl, ho⟩ := h
  exact ⟨u, rfl, ownsRow_base ho hb⟩
theorem OwnN.shape {w : World} {lo : Nat} {v : Value} {n : NodeD} (h : OwnN w lo v n) : ∃ a c, v = aggN n (.slice a n.b.length c) := by
  obtain ⟨u, rfl, ho⟩ := h
  obtain ⟨a, c, rfl, _⟩ := own_rd ho
  exact ⟨a, c, rfl⟩
theorem OwnN.rd {w : World} {lo : Nat} {v : Value} {n : NodeD} (h : OwnN w lo v n) : RdN w v n := by
  obtain ⟨u, rfl, ho⟩ := h
  obtain ⟨a, c, rfl, _, hr⟩ := own_rd ho
  have hc : n.b.length ≤ c ∧ c ≤ maxLen := by
    rcases ho.2 with ⟨he, h0⟩ | ⟨g, cc, cur, he, _, _, h1, h2, _⟩
    · injection he with _ _ he3
      exact ⟨by omega, by omega⟩
    · injection he with _ _ he3
      exact ⟨by omega, by omega⟩
  exact ⟨a, c, rfl, hc.1, hc.2, hr⟩
def FitNd (n : NodeD) : Prop := n.b.length ≤ maxLen ∧ (Lit.int .i64 n.k).wf = true ∧ (Lit.int .i64 n.g).wf = true ∧ (Lit.int .i64 n.t).wf = true ∧ (Lit.int .i64 n.s).wf = true ∧ ∀ x ∈ n.b, (Lit.int .i64 x).wf = true

section
variable {H : Type} {enc : TypeId × Value → H} {w : World} {spare : Nat → Bool} {held : Bool}

theorem trod_struct5 {P : Program} {base : Nat} {t : TypeId} {f0 f1 f2 f3 f4 : Field} {fuel : Nat} {cs : List Value} {x : DataW H × List MemPlace} (ht : P.underlying t = some (.struct #[f0, f1, f2, f3, f4])) (h : DataW.trod enc P w base spare held fuel t cs = some x) :
    ∃ y0 y1 y2 y3 y4 n, x = (.agg [y0.1, y1.1, y2.1, y3.1, y4.1], y0.2 ++ (y1.2 ++ (y2.2 ++ (y3.2 ++ y4.2)))) ∧ cs.length = P.cellsOf t ∧ DataW.trod enc P w base spare held n f0.type ((cs.drop f0.offset).take (P.cellsOf f0.type)) = some y0 ∧
      DataW.trod enc P w base spare held n f1.type ((cs.drop f1.offset).take (P.cellsOf f1.type)) = some y1 ∧ DataW.trod enc P w base spare held n f2.type ((cs.drop f2.offset).take (P.cellsOf f2.type)) = some y2 ∧
      DataW.trod enc P w base spare held n f3.type ((cs.drop f3.offset).take (P.cellsOf f3.type)) = some y3 ∧ DataW.trod enc P w base spare held n f4.type ((cs.drop f4.offset).take (P.cellsOf f4.type)) = some y4 := by
  obtain ⟨xs, n, _, rfl, hl, hlen, hf⟩ := DataW.trod_struct ht h
  match xs, hlen with
  | [y0, y1, y2, y3, y4], _ => exact ⟨y0, y1, y2, y3, y4, n, by simp, hl, by simpa using hf 0 f0 rfl, by simpa using hf 1 f1 rfl, by simpa using hf 2 f2 rfl, by simpa using hf 3 f3 rfl, by simpa using hf 4 f4 rfl⟩

theorem ints_of_trod {fuel : Nat} {v : Value} {x : DataW H × List MemPlace} (h : DataW.trod enc Tryd.prog w 0 (fun _ => true) held fuel 40 [v] = some x) :
    ∃ (a : Option Addr) (cap : Nat) (l : List Int), v = .slice a l.length cap ∧ l.length ≤ cap ∧ cap ≤ maxLen ∧ (∀ x ∈ l, (Lit.int .i64 x).wf = true) ∧ Rd .i64 w a l := by
  rcases open_ints Tryd.underlying40 Tryd.underlying3 (by kernel_rfl) h with ⟨hcs, _⟩ | ⟨x, l, c, zs, hcs, _, hl, hm, hz, _, hcell, hwz⟩
  · simp at hcs
    exact ⟨none, 0, [], hcs, Nat.zero_le _, Nat.zero_le _, by simp, .inl rfl⟩
  · simp at hcs
    have hzl := hz
    simp at hzl
    refine ⟨some x, c, zs.take l, by rw [hcs]; simp; omega, by simp; omega, hm, fun y hy => hwz y (List.mem_of_mem_take hy), ?_⟩
    by_cases h0 : l = 0
    · left; simp [h0]
    · right
      obtain ⟨b, off, spot⟩ := x
      have hc0 := hcell 0 (by omega)
      have hspot : spot = none := by simpa [Addr.add] using World.cell?_spot hc0
      subst hspot
      refine ⟨b, off, rfl, World.block_lt_of_cell? w _ hc0, fun i hi => ?_⟩
      simp at hi
      have := hcell i (by omega)
      rw [Go.WideShapes.add_plain] at this
      rw [this]
      have hil : i < l := by omega
      simp [List.getD, show i < zs.length by omega, hil]

set_option maxRecDepth 100000 in
theorem open_Node {r : Reach} {b0 : Nat} {v : Value} {d : DataW H} {p : List MemPlace} (hv : Value.okWide Tryd.prog w r b0 67 v) (h : DataW.Trod enc Tryd.prog w 0 (fun _ => true) held 67 v d p) :
    ∃ N : NodeD, FitNd N ∧ RdN w v N := by
  obtain ⟨cs, rfl, hsz⟩ := okWide_struct Tryd.underlying67 hv
  have hc : Tryd.prog.cellsOf 67 = 5 := by kernel_rfl
  have hc0 : Tryd.prog.cellsOf 3 = 1 := by kernel_rfl
  have hc1 : Tryd.prog.cellsOf 40 = 1 := by kernel_rfl
  obtain ⟨fuel, hf⟩ := h
  obtain ⟨y0, y1, y2, y3, y4, n, _, hl, h0, h1, h2, h3, h4⟩ := trod_struct5 Tryd.underlying67 hf
  obtain ⟨L⟩ := cs
  have hL : L.length = 5 := by simpa [hc] using hsz
  match L, hL with
  | [c0, c1, c2, c3, c4], _ =>
    simp only [hc0, hc1, Value.cells, List.drop_zero, List.take_succ_cons, List.take_zero, List.drop_succ_cons] at h0 h1 h2 h3 h4
    obtain ⟨m0, e0, _, w0⟩ := DataW.trod_int Tryd.underlying3 h0
    obtain ⟨m1, e1, _, w1⟩ := DataW.trod_int Tryd.underlying3 h1
    obtain ⟨m2, e2, _, w2⟩ := DataW.trod_int Tryd.underlying3 h2
    obtain ⟨m3, e3, _, w3⟩ := DataW.trod_int Tryd.underlying3 h3
    obtain ⟨a, cap, l, e4, hl4, hm4, hw4, hr4⟩ := ints_of_trod h4
    simp at e0 e1 e2 e3
    subst e0 e1 e2 e3 e4
    exact ⟨⟨m0, m1, m2, m3, l⟩, ⟨Nat.le_trans hl4 hm4, w0, w1, w2, w3, hw4⟩, a, cap, rfl, hl4, hm4, hr4⟩
end
end Go.Proofs.YthfgfhbinggpfaaDoor

/-
  Own text, plain: branches: which are right, what their blocks are, which branch some blocks tell.
-/
namespace Go.Proofs.YthfgfhbinggpfaaDoor
open Go.RowKit

structure FsD where
  ns : List NodeD
  ds : List ByteArray
/-- All the blocks that nodes have, in order. -/
def allB (l : List NodeD) : List Int := l.flatMap (·.b)
theorem allB_app (l : List NodeD) (n : NodeD) : allB (l ++ [n]) = allB l ++ n.b := by simp [allB]
theorem allB_take {l : List NodeD} {k : Nat} (h : k < l.length) : allB (l.take (k + 1)) = allB (l.take k) ++ (l[k]).b := by
  rw [List.take_succ_eq_append_getElem h, allB_app]
def longB (s : Int) (k : Nat) : Int := if s - 16 * (k : Int) ≤ 16 then s - 16 * (k : Int) else 16
/-- Each of these blocks is there, with as many bytes as is left over for it. -/
def HoldTo (ds : List ByteArray) (s : Int) (b : List Int) (m : Nat) : Prop := ∀ j x, j < m → b[j]? = some x → 0 ≤ x ∧ ∃ d, ds[x.toNat]? = some d ∧ ((d.size : Nat) : Int) = longB s j
def HoldP (ds : List ByteArray) (n : NodeD) : Prop := HoldTo ds n.s n.b n.b.length
def CountP (F : FsD) : Prop := 2 ≤ F.ns.length ∧ F.ns.length ≤ 10 ∧ 1 ≤ F.ds.length ∧ F.ds.length ≤ 36
def RootP (F : FsD) : Prop := ∃ n, F.ns[0]? = some n ∧ n.k = 2
def ShapeP (F : FsD) : Prop :=
  CountP F ∧ RootP F ∧ (∀ n ∈ F.ns, NodP n) ∧ (allB F.ns).Nodup ∧ (∀ n ∈ F.ns, HoldP F.ds n) ∧ ∀ (k : Nat) (d : ByteArray), F.ds[k]? = some d → (k : Int) ∉ allB F.ns → d.size = 0
noncomputable def shOk (F : FsD) : Bool := @decide (ShapeP F) (Classical.propDecidable _)
theorem shOk_yes {F : FsD} (h : ShapeP F) : shOk F = true := by unfold shOk; exact @decide_eq_true _ (Classical.propDecidable _) h
theorem shOk_no {F : FsD} (h : ¬ ShapeP F) : shOk F = false := by unfold shOk; exact @decide_eq_false _ (Classical.propDecidable _) h
theorem shOk_iff {F : FsD} : shOk F = true ↔ ShapeP F := ⟨fun h => Classical.byContradiction fun h' => absurd ((shOk_no h').symm.trans h) (by decide), shOk_yes⟩
theorem shOk_of {F : FsD} {q : Bool} (h : q = true ↔ ShapeP F) : shOk F = q := by
  cases q
  · exact shOk_no fun h' => by have := h.2 h'; cases this
  · exact shOk_yes (h.1 rfl)

theorem NodP.blk {n : NodeD} (h : NodP n) : ∀ x ∈ n.b, 0 ≤ x ∧ x ≤ 35 := by
  rcases h with rfl | ⟨_, _, h⟩
  · simp [zeroN]
  · exact h.1
theorem NodP.nodup {n : NodeD} (h : NodP n) : n.b.Nodup := by
  rcases h with rfl | ⟨_, _, h⟩
  · simp [zeroN]
  · rw [List.nodup_iff_pairwise_ne, List.pairwise_iff_getElem]
    exact fun i j hi hj hij => h.2 i j hi hj hij
theorem NodP.size {n : NodeD} (h : NodP n) : 0 ≤ n.s ∧ n.s ≤ 80 ∧ (n.b.length : Int) = blksFor n.s := by
  rcases h with rfl | ⟨h, _⟩
  · simp [zeroN, blksFor]
  · unfold NumP at h; omega
/-- No block of a right node is empty. -/
theorem long_pos {n : NodeD} (h : NodP n) {j : Nat} (hj : j < n.b.length) : 1 ≤ longB n.s j ∧ longB n.s j ≤ 16 := by
  have h1 := h.size
  have h2 : ((j : Nat) : Int) < blksFor n.s := by omega
  unfold blksFor at h2
  unfold longB
  split at h2
  · omega
  · split at h2
    · split <;> omega
    · split <;> omega
theorem mem_allB {l : List NodeD} {x : Int} : x ∈ allB l ↔ ∃ n ∈ l, x ∈ n.b := by simp [allB]
theorem all_blk {l : List NodeD} (h : ∀ n ∈ l, NodP n) : ∀ x ∈ allB l, 0 ≤ x ∧ x ≤ 35 := by
  intro x hx
  obtain ⟨n, hn, hx⟩ := mem_allB.1 hx
  exact (h n hn).blk x hx
theorem hold_mem {ds : List ByteArray} {n : NodeD} (hp : NodP n) (h : HoldP ds n) {x : Int} (hx : x ∈ n.b) : 0 ≤ x ∧ ∃ d, ds[x.toNat]? = some d ∧ d.size ≠ 0 ∧ d.size ≤ 16 := by
  obtain ⟨j, hj, rfl⟩ := List.getElem_of_mem hx
  obtain ⟨h0, d, hd, hs⟩ := h j _ hj (List.getElem?_eq_getElem hj)
  have := long_pos hp hj
  exact ⟨h0, d, hd, by omega, by omega⟩
/-- Each block of a right branch has 16 bytes at most. -/
theorem ShapeP.small {F : FsD} (h : ShapeP F) : ∀ d ∈ F.ds, d.size ≤ 16 := by
  intro d hd
  obtain ⟨k, hk, rfl⟩ := List.getElem_of_mem hd
  obtain ⟨_, _, h1, _, h2, h3⟩ := h
  by_cases hm : (k : Int) ∈ allB F.ns
  · obtain ⟨n, hn, hx⟩ := mem_allB.1 hm
    obtain ⟨_, d, hd, _, hs⟩ := hold_mem (h1 n hn) (h2 n hn) hx
    rw [Int.toNat_natCast, List.getElem?_eq_getElem hk] at hd
    injection hd with hd
    rw [hd]; exact hs
  · have := h3 k _ (List.getElem?_eq_getElem hk) hm
    omega
/-- A block is a node's just where it is not empty. -/
theorem ShapeP.filled {F : FsD} (h : ShapeP F) {k : Nat} {d : ByteArray} (hd : F.ds[k]? = some d) : (k : Int) ∈ allB F.ns ↔ d.size ≠ 0 := by
  obtain ⟨_, _, h1, _, h2, h3⟩ := h
  constructor
  · intro hm
    obtain ⟨n, hn, hx⟩ := mem_allB.1 hm
    obtain ⟨_, d', hd', hs, _⟩ := hold_mem (h1 n hn) (h2 n hn) hx
    rw [Int.toNat_natCast, hd] at hd'
    injection hd' with hd'
    rw [hd']; exact hs
  · intro hs
    exact Classical.byContradiction fun hm => hs (h3 k d hd hm)
theorem ShapeP.there {F : FsD} (h : ShapeP F) : ∀ x ∈ allB F.ns, 0 ≤ x ∧ x.toNat < F.ds.length := by
  intro x hx
  obtain ⟨n, hn, hx⟩ := mem_allB.1 hx
  obtain ⟨h0, d, hd, _⟩ := hold_mem (h.2.2.1 n hn) (h.2.2.2.2.1 n hn) hx
  exact ⟨h0, (List.getElem?_eq_some_iff.1 hd).1⟩

/-! ### How often each block is had -/
def outP (m : Nat) (x : Int) : Bool := !(decide (0 ≤ x) && decide (x < (m : Int)))
def usedL (m : Nat) (L : List Int) : List Int := (List.range m).map (fun (k : Nat) => ((L.count (k : Int) : Nat) : Int)) ++ [((L.countP (outP m) : Nat) : Int)]
theorem usedL_len (m : Nat) (L : List Int) : (usedL m L).length = m + 1 := by simp [usedL]
theorem usedL_at {m : Nat} (L : List Int) {k : Nat} (h : k < m) : (usedL m L)[k]? = some (L.count (k : Int) : Int) := by
  unfold usedL
  rw [List.getElem?_append_left (by simpa using h)]
  simp [h]
theorem usedL_end (m : Nat) (L : List Int) : (usedL m L)[m]? = some ((L.countP (outP m) : Nat) : Int) := by
  unfold usedL
  rw [List.getElem?_append_right (by simp)]
  simp
theorem usedL_nil (m : Nat) : usedL m [] = List.replicate (m + 1) 0 := by
  apply List.ext_getElem?
  intro k
  by_cases h : k < m
  · rw [usedL_at _ h]; simp [show k < m + 1 by omega]
  · by_cases h2 : k = m
    · subst h2; rw [usedL_end]; simp
    · rw [List.getElem?_eq_none (by rw [usedL_len]; omega), List.getElem?_eq_none (by simp; omega)]
theorem usedL_in {m : Nat} (L : List Int) {x : Int} (h0 : 0 ≤ x) (h1 : x < m) : (usedL m L).set x.toNat ((L.count x : Int) + 1) = usedL m (L ++ [x]) := by
  apply List.ext_getElem?
  intro k
  by_cases h : k < m
  · rw [usedL_at _ h, List.getElem?_set]
    by_cases e : x.toNat = k
    · subst e
      rw [if_pos rfl, if_pos (by rw [usedL_len]; omega)]
      rw [Int.toNat_of_nonneg h0]
      simp [List.count_append]
    · rw [if_neg e, usedL_at _ h]
      have : ¬ x = (k : Int) := by omega
      simp [List.count_append, this]
  · rw [List.getElem?_set_ne (by omega)]
    by_cases h2 : k = m
    · subst h2; rw [usedL_end, usedL_end]
      have : outP k x = false := by unfold outP; simp [h0, h1]
      rw [List.countP_append, List.countP_cons, this]
      simp
    · rw [List.getElem?_eq_none (by rw [usedL_len]; omega), List.getElem?_eq_none (by rw [usedL_len]; omega)]
theorem usedL_out {m : Nat} (L : List Int) {x : Int} (h : ¬ (0 ≤ x ∧ x < m)) : (usedL m L).set m (((L.countP (outP m) : Nat) : Int) + 1) = usedL m (L ++ [x]) := by
  apply List.ext_getElem?
  intro k
  by_cases hk : k < m
  · rw [usedL_at _ hk, List.getElem?_set_ne (by omega), usedL_at _ hk]
    have : ¬ x = (k : Int) := by omega
    simp [List.count_append, this]
  · by_cases h2 : k = m
    · subst h2
      rw [usedL_end, List.getElem?_set_self (by rw [usedL_len]; omega)]
      have hp : outP k x = true := by
        unfold outP
        rw [Bool.not_eq_true', Bool.and_eq_false_iff]
        by_cases h9 : 0 ≤ x
        · right; exact decide_eq_false fun h8 => h ⟨h9, h8⟩
        · left; exact decide_eq_false h9
      rw [List.countP_append, List.countP_cons, if_pos hp]
      simp
    · rw [List.getElem?_eq_none (by simp [usedL_len]; omega), List.getElem?_eq_none (by rw [usedL_len]; omega)]
theorem count_le (L : List Int) (x : Int) : L.count x ≤ L.length := List.count_le_length

/-! ### Blocks as bits -/
def memB (L : List Int) (k : Nat) : Nat := if (k : Int) ∈ L then 1 else 0
theorem memB_le (L : List Int) (k : Nat) : memB L k ≤ 1 := by unfold memB; split <;> omega
theorem memB_yes {L : List Int} {k : Nat} : memB L k = 1 ↔ (k : Int) ∈ L := by unfold memB; split <;> simp_all
theorem memB_no {L : List Int} {k : Nat} : memB L k = 0 ↔ (k : Int) ∉ L := by unfold memB; split <;> simp_all
def byteAt (L : List Int) (q : Nat) : Nat := memB L (8 * q) + 2 * memB L (8 * q + 1) + 4 * memB L (8 * q + 2) + 8 * memB L (8 * q + 3) + 16 * memB L (8 * q + 4) + 32 * memB L (8 * q + 5) + 64 * memB L (8 * q + 6) + 128 * memB L (8 * q + 7)
theorem byteAt_lt (L : List Int) (q : Nat) : byteAt L q < 256 := by
  unfold byteAt
  have h0 := memB_le L (8 * q); have h1 := memB_le L (8 * q + 1); have h2 := memB_le L (8 * q + 2); have h3 := memB_le L (8 * q + 3)
  have h4 := memB_le L (8 * q + 4); have h5 := memB_le L (8 * q + 5); have h6 := memB_le L (8 * q + 6); have h7 := memB_le L (8 * q + 7)
  omega
theorem byteAt_bit (L : List Int) (q r : Nat) (hr : r < 8) : byteAt L q / 2 ^ r % 2 = memB L (8 * q + r) := by
  unfold byteAt
  have h0 := memB_le L (8 * q); have h1 := memB_le L (8 * q + 1); have h2 := memB_le L (8 * q + 2); have h3 := memB_le L (8 * q + 3)
  have h4 := memB_le L (8 * q + 4); have h5 := memB_le L (8 * q + 5); have h6 := memB_le L (8 * q + 6); have h7 := memB_le L (8 * q + 7)
  match r, hr with
  | 0, _ => simp; omega
  | 1, _ => simp; omega
  | 2, _ => simp; omega
  | 3, _ => simp; omega
  | 4, _ => simp; omega
  | 5, _ => simp; omega
  | 6, _ => simp; omega
  | 7, _ => simp; omega
theorem byteAt_add (L : List Int) (q r : Nat) (hr : r < 8) (h : (((8 * q + r : Nat) : Int)) ∉ L) : byteAt (L ++ [((8 * q + r : Nat) : Int)]) q = byteAt L q + 2 ^ r := by
  have e : ∀ j, j < 8 → memB (L ++ [((8 * q + r : Nat) : Int)]) (8 * q + j) = if j = r then 1 else memB L (8 * q + j) := by
    intro j _
    by_cases hj : j = r
    · subst hj; rw [if_pos rfl]; exact memB_yes.2 (by simp)
    · rw [if_neg hj]
      unfold memB
      have : ¬ ((8 * q + j : Nat) : Int) = ((8 * q + r : Nat) : Int) := by omega
      simp only [List.mem_append, List.mem_singleton, this, or_false]
  have h9 : memB L (8 * q + r) = 0 := memB_no.2 h
  have e0 := e 0 (by omega); have e1 := e 1 (by omega); have e2 := e 2 (by omega); have e3 := e 3 (by omega)
  have e4 := e 4 (by omega); have e5 := e 5 (by omega); have e6 := e 6 (by omega); have e7 := e 7 (by omega)
  rw [Nat.add_zero] at e0
  unfold byteAt
  rw [e0, e1, e2, e3, e4, e5, e6, e7]
  match r, hr with
  | 0, _ => simp at h9 ⊢; omega
  | 1, _ => simp at h9 ⊢; omega
  | 2, _ => simp at h9 ⊢; omega
  | 3, _ => simp at h9 ⊢; omega
  | 4, _ => simp at h9 ⊢; omega
  | 5, _ => simp at h9 ⊢; omega
  | 6, _ => simp at h9 ⊢; omega
  | 7, _ => simp at h9 ⊢; omega
theorem byteAt_same {L M : List Int} {q : Nat} (h : ∀ k, 8 * q ≤ k → k < 8 * q + 8 → ((k : Int) ∈ L ↔ (k : Int) ∈ M)) : byteAt L q = byteAt M q := by
  have e : ∀ j, j < 8 → memB L (8 * q + j) = memB M (8 * q + j) := by
    intro j hj
    unfold memB
    simp only [h (8 * q + j) (by omega) (by omega)]
  have e0 := e 0 (by omega)
  rw [Nat.add_zero] at e0
  unfold byteAt
  rw [e0, e 1 (by omega), e 2 (by omega), e 3 (by omega), e 4 (by omega), e 5 (by omega), e 6 (by omega), e 7 (by omega)]
theorem byteAt_mem {L M : List Int} {q : Nat} (h : byteAt L q = byteAt M q) : ∀ k, 8 * q ≤ k → k < 8 * q + 8 → ((k : Int) ∈ L ↔ (k : Int) ∈ M) := by
  intro k h1 h2
  have e1 := byteAt_bit L q (k - 8 * q) (by omega)
  have e2 := byteAt_bit M q (k - 8 * q) (by omega)
  rw [h, e2, show 8 * q + (k - 8 * q) = k by omega] at e1
  rw [← memB_yes, ← memB_yes, e1]
theorem byteAt_other (L : List Int) {q k : Nat} (h : k / 8 ≠ q) : byteAt (L ++ [(k : Int)]) q = byteAt L q := by
  refine byteAt_same fun j h1 h2 => ?_
  have : ¬ (j : Int) = (k : Int) := by omega
  simp [this]
/-- The bytes of so many blocks. -/
def bitsB (L : List Int) (m : Nat) : List Int := (List.range m).map fun q => (byteAt L q : Int)
theorem bitsB_len (L : List Int) (m : Nat) : (bitsB L m).length = m := by simp [bitsB]
theorem bitsB_at (L : List Int) {m q : Nat} (h : q < m) : (bitsB L m)[q]? = some (byteAt L q : Int) := by simp [bitsB, h]
theorem bitsB_u8 (L : List Int) (m : Nat) : U8 (bitsB L m) := by
  intro x hx
  simp only [bitsB, List.mem_map, List.mem_range] at hx
  obtain ⟨q, _, rfl⟩ := hx
  have := byteAt_lt L q
  omega
theorem bitsB_nil (m : Nat) : bitsB [] m = List.replicate m 0 := by
  apply List.ext_getElem?
  intro k
  by_cases h : k < m
  · rw [bitsB_at _ h]; simp [h, byteAt, memB]
  · rw [List.getElem?_eq_none (by rw [bitsB_len]; omega), List.getElem?_eq_none (by simp; omega)]
theorem bitsB_add (L : List Int) {m k : Nat} (hk : k / 8 < m) (h : (k : Int) ∉ L) : (bitsB L m).set (k / 8) ((byteAt L (k / 8) + 2 ^ (k % 8) : Nat) : Int) = bitsB (L ++ [(k : Int)]) m := by
  apply List.ext_getElem?
  intro q
  by_cases hq : q < m
  · rw [bitsB_at _ hq, List.getElem?_set]
    by_cases e : k / 8 = q
    · rw [if_pos e, if_pos (by rw [bitsB_len]; omega)]
      have h2 : k = 8 * (k / 8) + k % 8 := by omega
      have h3 := byteAt_add L (k / 8) (k % 8) (by omega) (by rw [← h2]; exact h)
      rw [← h2] at h3
      rw [← e, h3]
    · rw [if_neg e, bitsB_at _ hq, byteAt_other L e]
  · rw [List.getElem?_eq_none (by rw [List.length_set, bitsB_len]; omega), List.getElem?_eq_none (by rw [bitsB_len]; omega)]
theorem bitsB_same {L M : List Int} {m : Nat} : bitsB L m = bitsB M m ↔ ∀ k, k < 8 * m → ((k : Int) ∈ L ↔ (k : Int) ∈ M) := by
  constructor
  · intro h k hk
    have h1 := bitsB_at L (m := m) (q := k / 8) (by omega)
    have h2 := bitsB_at M (m := m) (q := k / 8) (by omega)
    rw [h, h2] at h1
    injection h1 with h1
    exact byteAt_mem (q := k / 8) (by omega) k (by omega) (by omega)
  · intro h
    apply List.ext_getElem?
    intro q
    by_cases hq : q < m
    · rw [bitsB_at _ hq, bitsB_at _ hq, byteAt_same (L := L) (M := M) fun k h1 h2 => h k (by omega)]
    · rw [List.getElem?_eq_none (by rw [bitsB_len]; omega), List.getElem?_eq_none (by rw [bitsB_len]; omega)]
/-- The places of texts that are not empty. -/
def fillL : List ByteArray → Nat → List Int
  | _, 0 => []
  | ds, k + 1 => fillL ds k ++ (if (ds[k]?.map (·.size)).getD 0 = 0 then [] else [(k : Int)])
theorem fillL_mem (ds : List ByteArray) (m : Nat) (x : Int) : x ∈ fillL ds m ↔ ∃ k : Nat, x = k ∧ k < m ∧ ∃ d, ds[k]? = some d ∧ d.size ≠ 0 := by
  induction m with
  | zero => simp [fillL]
  | succ m ih =>
    unfold fillL
    rw [List.mem_append, ih]
    constructor
    · rintro (⟨k, h1, h2, h3⟩ | h)
      · exact ⟨k, h1, by omega, h3⟩
      · split at h
        · simp at h
        · simp at h
          rename_i h5
          cases hd : ds[m]? with
          | none => simp [hd] at h5
          | some d => rw [hd] at h5; exact ⟨m, h, by omega, d, hd, h5⟩
    · rintro ⟨k, h1, h2, d, h3, h4⟩
      by_cases e : k = m
      · right
        subst e
        rw [h3]
        simp [h4, h1]
      · left; exact ⟨k, h1, by omega, d, h3, h4⟩
/-- What the program asks at the end: the blocks that nodes have are those that are filled. -/
theorem shape_bits {F : FsD} (hc : CountP F) (hr : RootP F) (h1 : ∀ n ∈ F.ns, NodP n) (h2 : (allB F.ns).Nodup) (h3 : ∀ n ∈ F.ns, HoldP F.ds n) : bitsB (allB F.ns) 5 = bitsB (fillL F.ds F.ds.length) 5 ↔ ShapeP F := by
  rw [bitsB_same]
  constructor
  · intro h
    refine ⟨hc, hr, h1, h2, h3, fun k d hd hm => ?_⟩
    have hk := (List.getElem?_eq_some_iff.1 hd).1
    have := h k (by unfold CountP at hc; omega)
    refine Classical.byContradiction fun hs => hm (this.2 ((fillL_mem _ _ _).2 ⟨k, rfl, hk, d, hd, hs⟩))
  · intro h k _
    constructor
    · intro hm
      have hk := (h.there _ hm).2
      rw [Int.toNat_natCast] at hk
      exact (fillL_mem _ _ _).2 ⟨k, rfl, hk, _, List.getElem?_eq_getElem hk, (h.filled (List.getElem?_eq_getElem hk)).1 hm⟩
    · intro hm
      obtain ⟨j, hj, _, d, hd, hs⟩ := (fillL_mem _ _ _).1 hm
      obtain rfl : k = j := by omega
      exact (h.filled hd).2 hs
theorem shape_fill {F : FsD} (h : ShapeP F) (m : Nat) (hm : m ≤ 5) : bitsB (allB F.ns) m = bitsB (fillL F.ds F.ds.length) m := by
  have := (shape_bits h.1 h.2.1 h.2.2.1 h.2.2.2.1 h.2.2.2.2.1).2 h
  rw [bitsB_same] at this ⊢
  exact fun k hk => this k (by omega)

/-! ### The blocks of a branch -/
def fsHead (F : FsD) : List Int := [66, 65, 83, 78] ++ (putNum F.ns.length ++ putNum F.ds.length)
noncomputable def fsBl (F : FsD) : List ByteArray := if shOk F = true then baOf (fsHead F) :: baOf (bitsB (allB F.ns) ((F.ds.length + 7) / 8)) :: (F.ns.map ndText ++ F.ds) else []
theorem fsBl_len {F : FsD} (h : ShapeP F) : (fsBl F).length = 2 + F.ns.length + F.ds.length := by
  unfold fsBl; rw [if_pos (shOk_yes h)]; simp; omega
theorem fsBl_no {F : FsD} (h : shOk F = false) : fsBl F = [] := by unfold fsBl; rw [h]; rfl
noncomputable def diffL (x y : List ByteArray) : Nat → List (Int × ByteArray)
  | 0 => []
  | k + 1 => diffL x y k ++ (match x[k]?, y[k]? with
    | some a, some b => if a = b then [] else [((k : Int), b)]
    | _, _ => [])
noncomputable def diffF (A B : FsD) : List (Int × ByteArray) := if (fsBl A).length = (fsBl B).length then diffL (fsBl A) (fsBl B) (fsBl A).length else []
def freeL (ds : List ByteArray) : Nat → Nat
  | 0 => 0
  | k + 1 => freeL ds k + (if (ds[k]?.map (·.size)).getD 0 = 0 then 1 else 0)
def newF (n d : Nat) : FsD := ⟨List.replicate n zeroN |>.set 0 ⟨2, 0, 0, 0, []⟩, List.replicate d ⟨#[]⟩⟩
def zeroF : FsD := ⟨[], []⟩
end Go.Proofs.YthfgfhbinggpfaaDoor

/-
  Own text: the laws' helpers over rows of texts: alike, marked, still marked.
-/
namespace Go.Proofs.YthfgfhbinggpfaaDoor
open Go.RowKit

theorem str_cons (d : UInt8) (l : List UInt8) : (⟨#[d]⟩ ++ ⟨l.toArray⟩ : ByteArray) = ⟨(d :: l).toArray⟩ := by
  have := ByteArray.mk_append_mk (x := [d]) (y := l)
  simpa using this
theorem ret_str {a b : List UInt8} (h : a = b) : Ending.returned (.string ⟨a.toArray⟩) = .returned (.string ⟨b.toArray⟩) := by rw [h]

set_option maxRecDepth 20000 in
set_option maxHeartbeats 400000 in
theorem eqS (a c : Option Addr) (ca cc : Nat) (l : List ByteArray) (w : World) (hl : l.length ≤ 4194304) (hr : RdS w a l) (hs : RdS w c l) :
    Calls Tryd.prog 29 #[.slice a l.length ca, .slice c l.length cc] w fun e w' => e = .returned (.bool true) ∧ Below w.heap.size w w' := by
  have HCS : Hid (∀ k (h : k < l.length), ∃ b off, a = some ⟨b, off, none⟩ ∧ b < w.heap.size ∧ w.cell? ⟨b, off + k, none⟩ = some (.string l[k])) := by
    intro k hk
    rcases hr with rfl | ⟨b, off, rfl, hlt, hc⟩
    · simp at hk
    · exact ⟨b, off, rfl, hlt, hc k hk⟩
  have HDS : Hid (∀ k (h : k < l.length), ∃ b off, c = some ⟨b, off, none⟩ ∧ b < w.heap.size ∧ w.cell? ⟨b, off + k, none⟩ = some (.string l[k])) := by
    intro k hk
    rcases hs with rfl | ⟨b, off, rfl, hlt, hc⟩
    · simp at hk
    · exact ⟨b, off, rfl, hlt, hc k hk⟩
  clear hr hs
  go_enter Tryd.func29, Tryd.ntmps29
  go_wp2
  go_loopw [5] (fun i wr => ∃ k : Nat, k ≤ l.length ∧ i = .int .i64 k ∧ Below w.heap.size w wr) (fun i _ => l.length - (intOf i).toNat)
  case atStart => exact ⟨0, Nat.zero_le _, rfl, Below.refl _ _⟩
  case round =>
    obtain ⟨k, hk, rfl, hbel⟩ := hrel
    by_cases hlt : k < l.length
    · obtain ⟨b, off, rfl, hblt, hcell⟩ := HCS.out k hlt
      obtain ⟨d, off2, rfl, hdlt, hcell2⟩ := HDS.out k hlt
      have hcr : wr.cell? ⟨b, off + k, none⟩ = some (.string l[k]) := (hbel.cell hblt).trans hcell
      have hdr : wr.cell? ⟨d, off2 + k, none⟩ = some (.string l[k]) := (hbel.cell hdlt).trans hcell2
      generalize l[k] = z at *
      clear hcell hcell2
      go_wp2
      go_region
      all_goals (go_wp2)
      all_goals go_roundw
      case rel => exact ⟨k + 1, by omega, by go_num, hbel.drew⟩
      case measure => simp [intOf]; omega
    · go_wp2
      go_ret
      exact ⟨rfl, hbel⟩

end Go.Proofs.YthfgfhbinggpfaaDoor

/-
  Own text: the laws' helper that looks whether a row of texts still bears its marks.
-/
namespace Go.Proofs.YthfgfhbinggpfaaDoor
open Go.RowKit

end Go.Proofs.YthfgfhbinggpfaaDoor

/-
  Own text: the laws' marks on rows of texts and of writes, with what they leave alone; whether they are still there.
-/
namespace Go.Proofs.YthfgfhbinggpfaaDoor
open Go.RowKit

/-- The blocks of a row. -/
def blk (v : Value) (j : Nat) : Prop := v.ownBlock = some j

end Go.Proofs.YthfgfhbinggpfaaDoor

/-
  Own text: the laws' helpers over rows of texts, as the helpers over greater things ask for them: how great, a copy that is owned, still marked.
-/
namespace Go.Proofs.YthfgfhbinggpfaaDoor
open Go.RowKit

theorem Tryd.infoTxt : (Tryd.prog.info? 9).map (fun i => (i.zero, i.size, i.bytes)) = some (some (.string ⟨#[]⟩), 1, 16) := by kernel_rfl

/-- The cell of a row of texts that can be read. -/
theorem RdS.cellT {w : World} {a : Option Addr} {l : List ByteArray} (h : RdS w a l) (k : Nat) (hk : k < l.length) : ∃ b off, a = some ⟨b, off, none⟩ ∧ b < w.heap.size ∧ w.cell? ⟨b, off + k, none⟩ = some (.string l[k]) := by
  rcases h with rfl | ⟨b, off, rfl, hlt, hc⟩
  · simp at hk
  · exact ⟨b, off, rfl, hlt, hc k hk⟩
/-- How great texts are. -/
def szT (l : List ByteArray) : Nat := (l.map fun s => 1 + s.size).sum
theorem szT_take {l : List ByteArray} {k : Nat} (h : k < l.length) : szT (l.take (k + 1)) = szT (l.take k) + 1 + (l[k]).size := by
  unfold szT
  rw [List.take_succ_eq_append_getElem h, List.map_append, List.sum_append]
  simp
  omega
theorem szT_len (l : List ByteArray) : l.length ≤ szT l := by
  unfold szT
  induction l with
  | nil => simp
  | cons x l ih => simp; omega
theorem szP_len (l : List PutD) : l.length ≤ szP l := by
  unfold szP
  induction l with
  | nil => simp
  | cons x l ih => simp; omega

set_option maxRecDepth 20000 in
set_option maxHeartbeats 400000 in
theorem szStrs (a : Option Addr) (cap : Nat) (l : List ByteArray) (left : Int) (w : World) (h0 : 0 ≤ left) (h1 : left ≤ 1048576) (hl : l.length ≤ maxLen) (hz : ∀ s ∈ l, s.size ≤ maxLen) (hr : RdS w a l) :
    Calls Tryd.prog 19 #[.slice a l.length cap, .int .i64 left] w fun e w' => ∃ r : Int, e = .returned (.int .i64 r) ∧ (0 ≤ r → r + szT l = left) ∧ -1 ≤ r ∧ r ≤ 1048576 ∧ Below w.heap.size w w' := by
  have HCS : Hid (∀ k (hk : k < l.length), ∃ b off, a = some ⟨b, off, none⟩ ∧ b < w.heap.size ∧ w.cell? ⟨b, off + k, none⟩ = some (.string l[k])) := fun k hk => hr.cellT k hk
  have HZ : Hid (∀ s ∈ l, s.size ≤ maxLen) := hz
  have hm : l.length ≤ 9223372036854775807 := by unfold maxLen at hl; omega
  clear hr hz hl
  by_cases hbig : left < l.length
  · have hneg : left - (l.length : Int) < 0 := by omega
    go_enter Tryd.func19, Tryd.ntmps19
    go_wp2
    go_ret
    exact ⟨-1, rfl, fun h => by omega, by omega, by omega, Below.refl _ _⟩
  · have hneg : ¬ left - (l.length : Int) < 0 := by omega
    go_enter Tryd.func19, Tryd.ntmps19
    go_wp2
    go_loopw [1, 5] (fun x i wr => ∃ (m : Int) (k : Nat), x = .int .i64 m ∧ 0 ≤ m ∧ m ≤ 1048576 ∧ k ≤ l.length ∧ i = .int .i64 k ∧ wr = w ∧ Hid (m + ((l.length : Int) - k) + (szT (l.take k) : Int) = left)) (fun _ i _ => l.length - (intOf i).toNat)
    case atStart => exact ⟨left - (l.length : Int), 0, by go_num, by omega, by omega, Nat.zero_le _, rfl, rfl, by show _ = _; simp [szT]⟩
    case round =>
      obtain ⟨m, k, rfl, hm0, hm1, hk, rfl, hwr, HA⟩ := hrel
      subst hwr
      by_cases hlt : k < l.length
      · obtain ⟨b, off, rfl, hblt, hcell⟩ := HCS.out k hlt
        have HS : Hid (szT (l.take (k + 1)) = szT (l.take k) + 1 + (l[k]).size) := szT_take hlt
        have hyz : (l[k]).size ≤ 9223372036854775807 := by have := HZ.out l[k] (List.getElem_mem hlt); unfold maxLen at this; omega
        generalize l[k] = y at *
        by_cases hm2 : m - (y.size : Int) < 0
        · go_wp2
          go_ret
          exact ⟨-1, rfl, fun h => by omega, by omega, by omega, Below.refl _ _⟩
        · go_wp2
          go_roundw
          case rel => exact ⟨m - (y.size : Int), k + 1, by go_num, by omega, by omega, by omega, by go_num, by trivial, by show _ = _; rw [HS.out]; have := HA.out; omega⟩
          case measure => simp [intOf]; omega
      · obtain rfl : k = l.length := by omega
        have HE : Hid (m + szT l = left) := by have := HA.out; rw [List.take_length] at this; show _ = _; omega
        go_wp2
        go_ret
        exact ⟨m, rfl, fun _ => HE.out, by omega, by omega, Below.refl _ _⟩
theorem made_txt (n : Nat) : (madeCells #[Value.string ⟨#[]⟩] n).toList = (List.replicate n (⟨#[]⟩ : ByteArray)).map Value.string := by
  apply List.ext_getElem
  · simp [size_madeCells]
  · intro i h1 h2
    simp [madeCells, Nat.mod_one]

set_option maxRecDepth 20000 in
set_option maxHeartbeats 400000 in
theorem toStrs (a : Option Addr) (cap : Nat) (l : List ByteArray) (w : World) (hl : l.length ≤ 1048576) (hr : RdS w a l) :
    Calls Tryd.prog 23 #[.slice a l.length cap] w fun e w' => ∃ v, e = .returned v ∧ w'.ownsRow w.heap.size 9 1 v l.length (l.map Value.string) ∧ Below w.heap.size w w' := by
  obtain ⟨i0, hi, hz0, hz1, hz2⟩ := info_parts Tryd.infoTxt
  have HCS : Hid (∀ k (hk : k < l.length), ∃ b off, a = some ⟨b, off, none⟩ ∧ b < w.heap.size ∧ w.cell? ⟨b, off + k, none⟩ = some (.string l[k])) := fun k hk => hr.cellT k hk
  clear hr
  go_enter Tryd.func23, Tryd.ntmps23
  go_wp2_with (at_make; refine wpList_make_full _ rfl _ _ 23 rfl w.heap.size 9 i0 (.string ⟨#[]⟩) 1 Tryd.underlying23 hi hz0 hz1 _ _ _ _ l.length rfl rfl rfl rfl (by rw [hz2]; omega) (by unfold maxLen; omega) (Nat.le_refl _) ?_)
  intro w1 hown hgrow
  have hown1 : w1.ownsRow w.heap.size 9 1 (.slice (some ⟨w.heap.size, 0, none⟩) l.length l.length) l.length ((fillF ⟨#[]⟩ l 0).map Value.string) := by
    rw [fillF_zero, ← made_txt]
    exact hown
  clear hown
  go_wp2
  go_loopw [4] (fun i wr => ∃ k : Nat, k ≤ l.length ∧ i = .int .i64 k ∧ wr.ownsRow w.heap.size 9 1 (.slice (some ⟨w.heap.size, 0, none⟩) l.length l.length) l.length ((fillF ⟨#[]⟩ l k).map Value.string) ∧ Below w.heap.size w wr) (fun i _ => l.length - (intOf i).toNat)
  case atStart => exact ⟨0, Nat.zero_le _, rfl, hown1, (Below.refl _ _).grown hgrow (Nat.le_refl _) (fun k h => by simp at h)⟩
  case round =>
    obtain ⟨k, hk, rfl, ho, hbel⟩ := hrel
    by_cases hlt : k < l.length
    · obtain ⟨b, off, rfl, hblt, hcell⟩ := HCS.out k hlt
      have hcr : wr.cell? ⟨b, off + k, none⟩ = some (.string l[k]) := (hbel.cell hblt).trans hcell
      have hfz := ho.frozenAt k
      have hce : wr.cell? ⟨w.heap.size, k, none⟩ = some (.string ((fillF ⟨#[]⟩ l k).getD k ⟨#[]⟩)) := by
        rw [ho.cellAt k (by omega)]
        have := fillF_len (⟨#[]⟩ : ByteArray) l k hk
        simp [List.getD, show k < (fillF ⟨#[]⟩ l k).length by omega]
      generalize (fillF ⟨#[]⟩ l k).getD k ⟨#[]⟩ = old at hce
      have hst := (ho.stored k (.string l[k])).1
      rw [← List.map_set, fillF_set _ l k hlt] at hst
      clear hown1 hgrow hcell
      generalize l[k] = y at *
      go_wp2
      go_roundw
      case rel => exact ⟨k + 1, by omega, by go_num, hst, hbel.setCell (Nat.le_refl _) _⟩
      case measure => simp [intOf]; omega
    · obtain rfl : k = l.length := by omega
      go_wp2
      go_ret
      rw [fillF_all] at ho
      exact ⟨_, rfl, ho, hbel⟩

end Go.Proofs.YthfgfhbinggpfaaDoor

/-
  Own text: rows of nodes and branches in memory: what can be read, what is owned; what the frame tells of a branch that came in.
-/
namespace Go.Proofs.YthfgfhbinggpfaaDoor
open Go.ChangeShapes Go.WideShapes Go.ChangeAt Go.RowKit

def RdU (w : World) (u : Value) (b : List Int) : Prop := ∃ a c, u = .slice a b.length c ∧ b.length ≤ c ∧ c ≤ maxLen ∧ Rd .i64 w a b
theorem RdU.node {w : World} {u : Value} {n : NodeD} (h : RdU w u n.b) : RdN w (aggN n u) n := by
  obtain ⟨a, c, rfl, h⟩ := h
  exact ⟨a, c, rfl, h⟩
theorem RdU.below {w w' : World} {B : Nat} {u : Value} {b : List Int} (h : RdU w u b) (hb : Below B w w') (hB : w.heap.size ≤ B) : RdU w' u b := by
  obtain ⟨a, c, rfl, h1, h2, hr⟩ := h
  exact ⟨a, c, rfl, h1, h2, hr.below hb hB⟩
theorem RdU.own {w : World} {lo : Nat} {u : Value} {b : List Int} (h : w.ownsRow lo 3 1 u b.length (b.map (Value.int .i64))) : RdU w u b := by
  have h1 : OwnN w lo (aggN ⟨0, 0, 0, 0, b⟩ u) ⟨0, 0, 0, 0, b⟩ := ⟨u, rfl, h⟩
  obtain ⟨a, c, he, h2⟩ := h1.rd
  unfold aggN at he
  simp at he
  exact ⟨a, c, he, h2⟩
/-- A node, and the slice of its blocks. -/
abbrev NodeU := NodeD × Value
def encU (x : NodeU) : List Value := [.int .i64 x.1.k, .int .i64 x.1.g, .int .i64 x.1.t, .int .i64 x.1.s, x.2]
theorem encU_len (x : NodeU) : (encU x).length = 5 := rfl
def RdNs (w : World) (a : Option Addr) (ns : List NodeD) : Prop := ∃ L : List NodeU, L.map (·.1) = ns ∧ RdF encU 5 w a L ∧ ∀ x ∈ L, RdU w x.2 x.1.b
theorem RdNs.below {B : Nat} {w w' : World} {a : Option Addr} {ns : List NodeD} (h : RdNs w a ns) (hb : Below B w w') (hB : w.heap.size ≤ B) : RdNs w' a ns := by
  obtain ⟨L, h1, h2, h3⟩ := h
  exact ⟨L, h1, h2.below hb hB, fun x hx => (h3 x hx).below hb hB⟩
/-- The cells of one node of a row. -/
def NodeAt (w : World) (b off : Nat) (n : NodeD) (u : Value) : Prop :=
  w.cell? ⟨b, off, none⟩ = some (.int .i64 n.k) ∧ w.cell? ⟨b, off + 1, none⟩ = some (.int .i64 n.g) ∧ w.cell? ⟨b, off + 2, none⟩ = some (.int .i64 n.t) ∧ w.cell? ⟨b, off + 3, none⟩ = some (.int .i64 n.s) ∧ w.cell? ⟨b, off + 4, none⟩ = some u
theorem RdNs.at {w : World} {a : Option Addr} {ns : List NodeD} (h : RdNs w a ns) (k : Nat) (hk : k < ns.length) : ∃ b off u, a = some ⟨b, off, none⟩ ∧ b < w.heap.size ∧ RdU w u ns[k].b ∧ NodeAt w b (off + k * 5) ns[k] u := by
  obtain ⟨L, rfl, h2, h3⟩ := h
  have hk' : k < L.length := by simpa using hk
  obtain ⟨b, off, rfl, hb, hc⟩ := h2.at k hk'
  have c0 := hc 0 (by omega)
  have c1 := hc 1 (by omega)
  have c2 := hc 2 (by omega)
  have c3 := hc 3 (by omega)
  have c4 := hc 4 (by omega)
  refine ⟨b, off, (L[k]).2, rfl, hb, ?_, ?_⟩
  · rw [List.getElem_map]; exact h3 _ (List.getElem_mem hk')
  · rw [List.getElem_map]
    exact ⟨c0, c1, c2, c3, c4⟩
def RdFs (w : World) (v : Value) (F : FsD) : Prop :=
  ∃ a ca b cb, v = .agg #[.slice a F.ns.length ca, .slice b F.ds.length cb] ∧ (F.ns.length ≤ ca ∧ ca ≤ maxLen ∧ F.ds.length ≤ cb ∧ cb ≤ maxLen) ∧ RdNs w a F.ns ∧ RdS w b F.ds
theorem RdFs.below {B : Nat} {w w' : World} {v : Value} {F : FsD} (h : RdFs w v F) (hb : Below B w w') (hB : w.heap.size ≤ B) : RdFs w' v F := by
  obtain ⟨a, ca, b, cb, rfl, hc, h1, h2⟩ := h
  exact ⟨a, ca, b, cb, rfl, hc, h1.below hb hB, h2.below hb hB⟩
theorem RdFs.lay {w : World} {v : Value} {F : FsD} (h : RdFs w v F) : ∃ a ca b cb, v = .agg #[.slice a F.ns.length ca, .slice b F.ds.length cb] := by
  obtain ⟨a, ca, b, cb, rfl, _⟩ := h
  exact ⟨a, ca, b, cb, rfl⟩

/-- A row of nodes of the call's own, the rows of their blocks too: all between lo and hi, no two the same. -/
structure OwnL (w : World) (lo hi : Nat) (v : Value) (M : List NodeU) : Prop where
  row : w.ownsRow lo 44 5 v M.length (M.flatMap encU)
  inn : ∀ x ∈ M, w.ownsRow lo 3 1 x.2 x.1.b.length (x.1.b.map (Value.int .i64))
  apart : M.Pairwise fun x y => ∀ j, blk x.2 j → ¬ blk y.2 j
  top : ∀ j, blk v j → j < hi
  low : ∀ x ∈ M, ∀ j, blk x.2 j → j < hi
def OwnNs (w : World) (lo hi : Nat) (v : Value) (ns : List NodeD) : Prop := ∃ M : List NodeU, M.map (·.1) = ns ∧ OwnL w lo hi v M
theorem OwnL.only {S : Nat → Prop} {w w' : World} {lo hi : Nat} {v : Value} {M : List NodeU} (h : OwnL w lo hi v M) (ho : Only S w w') (hs : ∀ k, lo ≤ k → k < hi → ¬ S k) : OwnL w' lo hi v M :=
  ⟨own_only h.row ho (fun k hk => hs k (h.row.lt k hk).1 (h.top k hk)), fun x hx => own_only (h.inn x hx) ho (fun k hk => hs k ((h.inn x hx).lt k hk).1 (h.low x hx k hk)), h.apart, h.top, h.low⟩
theorem OwnL.below {w w' : World} {lo hi : Nat} {v : Value} {M : List NodeU} (h : OwnL w lo hi v M) (hb : Below w.heap.size w w') : OwnL w' lo hi v M :=
  ⟨ownsRow_below h.row hb (Nat.le_refl _), fun x hx => ownsRow_below (h.inn x hx) hb (Nat.le_refl _), h.apart, h.top, h.low⟩
theorem OwnL.base {w : World} {lo lo' hi : Nat} {v : Value} {M : List NodeU} (h : OwnL w lo hi v M) (hl : lo' ≤ lo) : OwnL w lo' hi v M :=
  ⟨ownsRow_base h.row hl, fun x hx => ownsRow_base (h.inn x hx) hl, h.apart, h.top, h.low⟩
theorem OwnL.hi {w : World} {lo hi hi' : Nat} {v : Value} {M : List NodeU} (h : OwnL w lo hi v M) (hl : hi ≤ hi') : OwnL w lo hi' v M :=
  ⟨h.row, h.inn, h.apart, fun j hj => Nat.lt_of_lt_of_le (h.top j hj) hl, fun x hx j hj => Nat.lt_of_lt_of_le (h.low x hx j hj) hl⟩
theorem own_caps {w : World} {base : Nat} {e : TypeId} {size n n' c : Nat} {a : Option Addr} {xs : List Value} (h : w.ownsRow base e size (.slice a n' c) n xs) : n ≤ c ∧ c ≤ maxLen := by
  rcases h.2 with ⟨he, h0⟩ | ⟨g, cc, cur, he, _, _, h1, h2, _⟩
  · injection he with _ _ he3
    exact ⟨by omega, by omega⟩
  · injection he with _ _ he3
    exact ⟨by omega, by omega⟩
theorem OwnL.rd {w : World} {lo hi : Nat} {v : Value} {M : List NodeU} (h : OwnL w lo hi v M) : ∃ a c, v = .slice a M.length c ∧ M.length ≤ c ∧ c ≤ maxLen ∧ RdF encU 5 w a M ∧ ∀ x ∈ M, RdU w x.2 x.1.b := by
  obtain ⟨a, c, rfl, h1, h2⟩ := own_rdF encU_len h.row rfl
  exact ⟨a, c, rfl, h1, (own_caps h.row).2, h2, fun x hx => RdU.own (h.inn x hx)⟩
theorem OwnNs.rd {w : World} {lo hi : Nat} {v : Value} {ns : List NodeD} (h : OwnNs w lo hi v ns) : ∃ a c, v = .slice a ns.length c ∧ ns.length ≤ c ∧ c ≤ maxLen ∧ RdNs w a ns := by
  obtain ⟨M, rfl, h⟩ := h
  obtain ⟨a, c, rfl, h1, h2, h3, h4⟩ := h.rd
  exact ⟨a, c, by simp, by simpa using h1, h2, M, rfl, h3, h4⟩
theorem OwnNs.only {S : Nat → Prop} {w w' : World} {lo hi : Nat} {v : Value} {ns : List NodeD} (h : OwnNs w lo hi v ns) (ho : Only S w w') (hs : ∀ k, lo ≤ k → k < hi → ¬ S k) : OwnNs w' lo hi v ns := by
  obtain ⟨M, h0, h1⟩ := h
  exact ⟨M, h0, h1.only ho hs⟩
theorem OwnNs.below {w w' : World} {lo hi : Nat} {v : Value} {ns : List NodeD} (h : OwnNs w lo hi v ns) (hb : Below w.heap.size w w') : OwnNs w' lo hi v ns := by
  obtain ⟨M, h0, h1⟩ := h
  exact ⟨M, h0, h1.below hb⟩
theorem OwnNs.hi {w : World} {lo hi hi' : Nat} {v : Value} {ns : List NodeD} (h : OwnNs w lo hi v ns) (hl : hi ≤ hi') : OwnNs w lo hi' v ns := by
  obtain ⟨M, h0, h1⟩ := h
  exact ⟨M, h0, h1.hi hl⟩
def OwnFs (w : World) (lo hi : Nat) (v : Value) (F : FsD) : Prop :=
  ∃ v1 v2, v = .agg #[v1, v2] ∧ OwnNs w lo hi v1 F.ns ∧ w.ownsRow lo 9 1 v2 F.ds.length (F.ds.map Value.string) ∧ ∀ j, blk v2 j → j < hi
theorem OwnFs.rd {w : World} {lo hi : Nat} {v : Value} {F : FsD} (h : OwnFs w lo hi v F) : RdFs w v F := by
  obtain ⟨v1, v2, rfl, h1, h2, _⟩ := h
  obtain ⟨a, ca, rfl, k1, k2, r1⟩ := h1.rd
  obtain ⟨b, cb, rfl, _, r2⟩ := own_rdS h2
  exact ⟨a, ca, b, cb, rfl, ⟨k1, k2, own_caps h2⟩, r1, r2⟩
theorem OwnFs.lay {w : World} {lo hi : Nat} {v : Value} {F : FsD} (h : OwnFs w lo hi v F) : ∃ a ca b cb, v = .agg #[.slice a F.ns.length ca, .slice b F.ds.length cb] := h.rd.lay
theorem OwnFs.below {w w' : World} {lo hi : Nat} {v : Value} {F : FsD} (h : OwnFs w lo hi v F) (hb : Below w.heap.size w w') : OwnFs w' lo hi v F := by
  obtain ⟨v1, v2, rfl, ⟨M, h0, h1⟩, h2, h3⟩ := h
  exact ⟨v1, v2, rfl, ⟨M, h0, h1.below hb⟩, ownsRow_below h2 hb (Nat.le_refl _), h3⟩
theorem OwnFs.only {S : Nat → Prop} {w w' : World} {lo hi : Nat} {v : Value} {F : FsD} (h : OwnFs w lo hi v F) (ho : Only S w w') (hs : ∀ k, lo ≤ k → k < hi → ¬ S k) : OwnFs w' lo hi v F := by
  obtain ⟨v1, v2, rfl, ⟨M, h0, h1⟩, h2, h3⟩ := h
  exact ⟨v1, v2, rfl, ⟨M, h0, h1.only ho hs⟩, own_only h2 ho (fun k hk => hs k (h2.lt k hk).1 (h3 k hk)), h3⟩
theorem OwnFs.base {w : World} {lo lo' hi : Nat} {v : Value} {F : FsD} (h : OwnFs w lo hi v F) (hl : lo' ≤ lo) : OwnFs w lo' hi v F := by
  obtain ⟨v1, v2, rfl, ⟨M, h0, h1⟩, h2, h3⟩ := h
  exact ⟨v1, v2, rfl, ⟨M, h0, h1.base hl⟩, ownsRow_base h2 hl, h3⟩
theorem OwnFs.hi {w : World} {lo hi hi' : Nat} {v : Value} {F : FsD} (h : OwnFs w lo hi v F) (hl : hi ≤ hi') : OwnFs w lo hi' v F := by
  obtain ⟨v1, v2, rfl, ⟨M, h0, h1⟩, h2, h3⟩ := h
  exact ⟨v1, v2, rfl, ⟨M, h0, h1.hi hl⟩, h2, fun j hj => Nat.lt_of_lt_of_le (h3 j hj) hl⟩

/-- How great a branch is. -/
def szN (l : List NodeD) : Nat := (l.map fun n => 1 + n.b.length).sum
theorem szN_take {l : List NodeD} {k : Nat} (h : k < l.length) : szN (l.take (k + 1)) = szN (l.take k) + 1 + (l[k]).b.length := by
  unfold szN
  rw [List.take_succ_eq_append_getElem h, List.map_append, List.sum_append]
  simp
  omega
theorem szN_len (l : List NodeD) : l.length ≤ szN l := by
  induction l with
  | nil => simp [szN]
  | cons x l ih => simp only [szN, List.map_cons, List.sum_cons, List.length_cons] at ih ⊢; omega
theorem szN_mem {l : List NodeD} {n : NodeD} (h : n ∈ l) : n.b.length ≤ szN l := by
  induction l with
  | nil => cases h
  | cons x l ih =>
    simp only [szN, List.map_cons, List.sum_cons] at ih ⊢
    rcases List.mem_cons.1 h with rfl | h
    · omega
    · have := ih h; omega
theorem szT_memF {l : List ByteArray} {s : ByteArray} (h : s ∈ l) : s.size ≤ szT l := by
  induction l with
  | nil => cases h
  | cons x l ih =>
    simp only [szT, List.map_cons, List.sum_cons] at ih ⊢
    rcases List.mem_cons.1 h with rfl | h
    · omega
    · have := ih h; omega
def szF (F : FsD) : Nat := szN F.ns + szT F.ds
def SmF (F : FsD) : Prop := F.ns.length ≤ 1048576 ∧ (∀ n ∈ F.ns, n.b.length ≤ 1048576) ∧ F.ds.length ≤ 1048576 ∧ ∀ s ∈ F.ds, s.size ≤ 1048576
theorem smF_sz {F : FsD} (h : szF F ≤ 1048576) : SmF F := by
  unfold szF at h
  exact ⟨by have := szN_len F.ns; omega, fun n hn => by have := szN_mem hn; omega, by have := szT_len F.ds; omega, fun s hs => by have := szT_memF hs; omega⟩
def FitF (F : FsD) : Prop := F.ns.length ≤ maxLen ∧ F.ds.length ≤ maxLen ∧ (∀ n ∈ F.ns, FitNd n) ∧ ∀ s ∈ F.ds, s.size ≤ maxLen

section
variable {H : Type} {enc : TypeId × Value → H} {w : World} {held : Bool}

set_option maxRecDepth 20000 in
theorem node_of_trod {fuel : Nat} {cs : List Value} {x : DataW H × List MemPlace} (h : DataW.trod enc Tryd.prog w 0 (fun _ => true) held fuel 67 cs = some x) :
    ∃ y : NodeU, cs = encU y ∧ FitNd y.1 ∧ RdU w y.2 y.1.b := by
  have hc : Tryd.prog.cellsOf 67 = 5 := by kernel_rfl
  have hc0 : Tryd.prog.cellsOf 3 = 1 := by kernel_rfl
  have hc1 : Tryd.prog.cellsOf 40 = 1 := by kernel_rfl
  obtain ⟨y0, y1, y2, y3, y4, n, _, hl, h0, h1, h2, h3, h4⟩ := trod_struct5 Tryd.underlying67 h
  rw [hc] at hl
  match cs, hl with
  | [c0, c1, c2, c3, c4], _ =>
    simp only [hc0, hc1, List.drop_zero, List.take_succ_cons, List.take_zero, List.drop_succ_cons] at h0 h1 h2 h3 h4
    obtain ⟨m0, e0, _, w0⟩ := DataW.trod_int Tryd.underlying3 h0
    obtain ⟨m1, e1, _, w1⟩ := DataW.trod_int Tryd.underlying3 h1
    obtain ⟨m2, e2, _, w2⟩ := DataW.trod_int Tryd.underlying3 h2
    obtain ⟨m3, e3, _, w3⟩ := DataW.trod_int Tryd.underlying3 h3
    obtain ⟨a, cap, l, e4, hl4, hm4, hw4, hr4⟩ := ints_of_trod h4
    simp at e0 e1 e2 e3
    subst e0 e1 e2 e3 e4
    exact ⟨(⟨m0, m1, m2, m3, l⟩, .slice a l.length cap), rfl, ⟨Nat.le_trans hl4 hm4, w0, w1, w2, w3, hw4⟩, a, cap, rfl, hl4, hm4, hr4⟩

theorem nodes_of_trod {fuel : Nat} {v : Value} {x : DataW H × List MemPlace} (h : DataW.trod enc Tryd.prog w 0 (fun _ => true) held fuel 22 [v] = some x) :
    ∃ (a : Option Addr) (cap : Nat) (l : List NodeD), v = .slice a l.length cap ∧ l.length ≤ cap ∧ cap ≤ maxLen ∧ (∀ n ∈ l, FitNd n) ∧ RdNs w a l := by
  have hc : Tryd.prog.cellsOf 67 = 5 := by kernel_rfl
  rcases DataW.trod_slice Tryd.underlying22 h with ⟨hv, _⟩ | ⟨a, len, cap, elems, rest, n, _, hv, _, _, hl, hm, hlen, hel, _, _⟩
  · simp at hv
    exact ⟨none, 0, [], hv, Nat.zero_le _, Nat.zero_le _, by simp, [], rfl, .inl rfl, by simp⟩
  · simp at hv
    rw [hc] at hel
    have each : ∀ i, i < len → ∃ y : NodeU, w.cells? 0 (a.add (i * 5)) 5 = some (encU y) ∧ FitNd y.1 ∧ RdU w y.2 y.1.b := by
      intro i hi
      have h1 := hel i hi
      rw [List.getElem?_eq_getElem (by omega)] at h1
      obtain ⟨cs, hcs, ht⟩ := Option.bind_eq_some_iff.1 h1
      obtain ⟨y, rfl, h2⟩ := node_of_trod ht
      exact ⟨y, hcs, h2⟩
    let g : Nat → NodeU := fun i => if hi : i < len then Classical.choose (each i hi) else (zeroN, .slice none 0 0)
    have hg : ∀ i (hi : i < len), w.cells? 0 (a.add (i * 5)) 5 = some (encU (g i)) ∧ FitNd (g i).1 ∧ RdU w (g i).2 (g i).1.b := by
      intro i hi
      have := Classical.choose_spec (each i hi)
      simp only [g, hi, dif_pos]
      exact this
    refine ⟨some a, cap, ((List.range len).map g).map (·.1), by simp [hv], by simp; omega, hm, ?_, (List.range len).map g, rfl, ?_, ?_⟩
    · intro n hn
      obtain ⟨y, hy, rfl⟩ := List.mem_map.1 hn
      obtain ⟨i, hi, rfl⟩ := List.mem_map.1 hy
      exact (hg i (List.mem_range.1 hi)).2.1
    · by_cases h0 : len = 0
      · left; simp [h0]
      · right
        obtain ⟨b, off, spot⟩ := a
        have hc0 := (World.cells?_some (hg 0 (by omega)).1).2.2 0 (by omega)
        have hspot : spot = none := by
          have := World.cell?_spot (hc0.trans (by rfl))
          simpa [Addr.add] using this
        subst hspot
        have hcell : ∀ i (hi : i < len) j, j < 5 → w.cell? ⟨b, off + i * 5 + j, none⟩ = (encU (g i))[j]? := by
          intro i hi j hj
          have := (World.cells?_some (hg i hi).1).2.2 j (by omega)
          rw [Go.WideShapes.add_plain, Go.WideShapes.add_plain] at this
          exact this
        refine ⟨b, off, rfl, World.block_lt_of_cell? w ⟨b, off + 0 * 5 + 0, none⟩ ((hcell 0 (by omega) 0 (by omega)).trans (by rfl)), fun i hi j hj => ?_⟩
        simp at hi
        rw [hcell i hi j hj]
        simp
    · intro y hy
      obtain ⟨i, hi, rfl⟩ := List.mem_map.1 hy
      exact (hg i (List.mem_range.1 hi)).2.2

set_option maxRecDepth 20000 in
theorem open_Fs {r : Reach} {b0 : Nat} {v : Value} {d : DataW H} {p : List MemPlace} (hv : Value.okWide Tryd.prog w r b0 25 v) (h : DataW.Trod enc Tryd.prog w 0 (fun _ => true) held 25 v d p) :
    ∃ F : FsD, FitF F ∧ RdFs w v F := by
  obtain ⟨v0, v1, y0, y1, n, rfl, _, _, h0, h1⟩ := Go.Joins.open_agg2 Tryd.underlying25 (by kernel_rfl) (by kernel_rfl) hv h
  obtain ⟨b, cb, lp, rfl, hlp, hmp, hfp, hrp⟩ := nodes_of_trod h0
  have hS : ∃ (a : Option Addr) (ca : Nat) (ls : List ByteArray), v1 = .slice a ls.length ca ∧ ls.length ≤ ca ∧ ca ≤ maxLen ∧ (∀ s ∈ ls, s.size ≤ maxLen) ∧ RdS w a ls := by
    rcases open_strings Tryd.underlying23 Tryd.underlying9 (by kernel_rfl) h1 with ⟨hcs, _⟩ | ⟨x, l, c, zs, hcs, _, hl, hm, hz, _, hcell, hwz⟩
    · simp at hcs
      exact ⟨none, 0, [], hcs, Nat.zero_le _, Nat.zero_le _, by simp, .inl rfl⟩
    · simp at hcs
      simp at hz
      refine ⟨some x, c, zs.take l, by rw [hcs]; simp; omega, by simp; omega, hm, fun s hs => hwz s (List.mem_of_mem_take hs), ?_⟩
      by_cases h0 : l = 0
      · left; simp [h0]
      · right
        obtain ⟨b, off, spot⟩ := x
        have hc0 := hcell 0 (by omega)
        have hspot : spot = none := by simpa [Addr.add] using World.cell?_spot hc0
        subst hspot
        refine ⟨b, off, rfl, World.block_lt_of_cell? w _ hc0, fun i hi => ?_⟩
        simp at hi
        have := hcell i (by omega)
        rw [Go.WideShapes.add_plain] at this
        rw [this]
        simp [List.getD, show i < zs.length by omega]
  obtain ⟨a, ca, ls, rfl, hls, hms, hfs, hrs⟩ := hS
  exact ⟨⟨lp, ls⟩, ⟨Nat.le_trans hlp hmp, Nat.le_trans hls hms, hfp, hfs⟩, ⟨b, cb, a, ca, rfl, ⟨hlp, hmp, hls, hms⟩, hrp, hrs⟩⟩
end
end Go.Proofs.YthfgfhbinggpfaaDoor

/-
  Own text: the laws' helpers over rows of numbers: alike, marks, whether they are still there.
-/
namespace Go.Proofs.YthfgfhbinggpfaaDoor
open Go.RowKit

set_option maxHeartbeats 400000 in
theorem eqI (a c : Option Addr) (ca cc : Nat) (l : List Int) (w : World) (hl : l.length ≤ 4194304) (hr : Rd .i64 w a l) (hs : Rd .i64 w c l) :
    Calls Tryd.prog 78 #[.slice a l.length ca, .slice c l.length cc] w fun e w' => e = .returned (.bool true) ∧ Below w.heap.size w w' := by
  have HCS : Hid (∀ k, k < l.length → ∃ b off, a = some ⟨b, off, none⟩ ∧ b < w.heap.size ∧ w.cell? ⟨b, off + k, none⟩ = some (.int .i64 (l.getD k 0))) := by
    intro k hk
    rcases hr with rfl | ⟨b, off, rfl, hlt, hc⟩
    · simp at hk
    · exact ⟨b, off, rfl, hlt, hc k hk⟩
  have HDS : Hid (∀ k, k < l.length → ∃ b off, c = some ⟨b, off, none⟩ ∧ b < w.heap.size ∧ w.cell? ⟨b, off + k, none⟩ = some (.int .i64 (l.getD k 0))) := by
    intro k hk
    rcases hs with rfl | ⟨b, off, rfl, hlt, hc⟩
    · simp at hk
    · exact ⟨b, off, rfl, hlt, hc k hk⟩
  clear hr hs
  go_enter Tryd.func78, Tryd.ntmps78
  go_wp2
  go_loopw [5] (fun i wr => ∃ k : Nat, k ≤ l.length ∧ i = .int .i64 k ∧ Below w.heap.size w wr) (fun i _ => l.length - (intOf i).toNat)
  case atStart => exact ⟨0, Nat.zero_le _, rfl, Below.refl _ _⟩
  case round =>
    obtain ⟨k, hk, rfl, hbel⟩ := hrel
    by_cases hlt : k < l.length
    · obtain ⟨b, off, rfl, hblt, hcell⟩ := HCS.out k hlt
      obtain ⟨d, off2, rfl, hdlt, hcell2⟩ := HDS.out k hlt
      have hcr : wr.cell? ⟨b, off + k, none⟩ = some (.int .i64 (l.getD k 0)) := (hbel.cell hblt).trans hcell
      have hdr : wr.cell? ⟨d, off2 + k, none⟩ = some (.int .i64 (l.getD k 0)) := (hbel.cell hdlt).trans hcell2
      generalize l.getD k 0 = z at *
      clear hcell hcell2
      go_wp2
      go_region
      all_goals (go_wp2)
      all_goals go_roundw
      case rel => exact ⟨k + 1, by omega, by go_num, hbel.drew⟩
      case measure => simp [intOf]; omega
    · go_wp2
      go_ret
      exact ⟨rfl, hbel⟩

def marksI (k n : Nat) : List Int := (List.range n).map fun i => ((k + i : Nat) : Int)
def markToI (l : List Int) (k i : Nat) : List Int := marksI k i ++ l.drop i
theorem marksI_len (k n : Nat) : (marksI k n).length = n := by simp [marksI]
theorem markToI_zero (l : List Int) (k : Nat) : markToI l k 0 = l := by simp [markToI, marksI]
theorem markToI_all (l : List Int) (k : Nat) : markToI l k l.length = marksI k l.length := by simp [markToI]
theorem markToI_len (l : List Int) (k i : Nat) (h : i ≤ l.length) : (markToI l k i).length = l.length := by simp [markToI, marksI_len]; omega
theorem markToI_set (l : List Int) (k i : Nat) (h : i < l.length) : (markToI l k i).set i ((k + i : Nat) : Int) = markToI l k (i + 1) := by
  unfold markToI
  rw [List.set_append_right _ _ (by rw [marksI_len]; exact Nat.le_refl _), marksI_len, Nat.sub_self]
  have e : marksI k (i + 1) = marksI k i ++ [((k + i : Nat) : Int)] := by unfold marksI; rw [List.range_succ, List.map_append]; rfl
  rw [e, List.append_assoc, List.drop_eq_getElem_cons h]; rfl
theorem marksI_at (k n i : Nat) (h : i < n) : (marksI k n).getD i 0 = ((k + i : Nat) : Int) := by simp [marksI, List.getD, h]

end Go.Proofs.YthfgfhbinggpfaaDoor
