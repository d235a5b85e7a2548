/-
  Own text: rows of nodes and branches in memory: what can be read, what is owned; what the frame tells of a branch that came in.
-/
import Derived.Test.YtioecnfgliponaaNodeF
import Derived.Test.YtioecnfgliponaaFsMath
import Derived.Test.YtioecnfgliponaaRowC
import Derived.Test.YtioecnfgliponaaTxtW
namespace Go.Proofs.Ytioecnfgliponaa
open Go.ChangeShapes Go.WideShapes Go.ChangeAt Go.RowKit

def RdU (w : World) (u : Value) (b : List Int) : Prop := ∃ a c, u = .slice a b.length c ∧ b.length ≤ c ∧ c ≤ maxLen ∧ Rd .i64 w a b
theorem RdU.node {w : World} {u : Value} {n : NodeD} (h : RdU w u n.b) : RdN w (aggN n u) n := by
  obtain ⟨a, c, rfl, h⟩ := h
  exact ⟨a, c, rfl, h⟩
theorem RdU.below {w w' : World} {B : Nat} {u : Value} {b : List Int} (h : RdU w u b) (hb : Below B w w') (hB : w.heap.size ≤ B) : RdU w' u b := by
  obtain ⟨a, c, rfl, h1, h2, hr⟩ := h
  exact ⟨a, c, rfl, h1, h2, hr.below hb hB⟩
theorem RdU.own {w : World} {lo : Nat} {u : Value} {b : List Int} (h : w.ownsRow lo 3 1 u b.length (b.map (Value.int .i64))) : RdU w u b := by
  have h1 : OwnN w lo (aggN ⟨0, 0, 0, 0, b⟩ u) ⟨0, 0, 0, 0, b⟩ := ⟨u, rfl, h⟩
  obtain ⟨a, c, he, h2⟩ := h1.rd
  unfold aggN at he
  simp at he
  exact ⟨a, c, he, h2⟩
/-- A node, and the slice of its blocks. -/
abbrev NodeU := NodeD × Value
def encU (x : NodeU) : List Value := [.int .i64 x.1.k, .int .i64 x.1.g, .int .i64 x.1.t, .int .i64 x.1.s, x.2]
theorem encU_len (x : NodeU) : (encU x).length = 5 := rfl
def RdNs (w : World) (a : Option Addr) (ns : List NodeD) : Prop := ∃ L : List NodeU, L.map (·.1) = ns ∧ RdF encU 5 w a L ∧ ∀ x ∈ L, RdU w x.2 x.1.b
theorem RdNs.below {B : Nat} {w w' : World} {a : Option Addr} {ns : List NodeD} (h : RdNs w a ns) (hb : Below B w w') (hB : w.heap.size ≤ B) : RdNs w' a ns := by
  obtain ⟨L, h1, h2, h3⟩ := h
  exact ⟨L, h1, h2.below hb hB, fun x hx => (h3 x hx).below hb hB⟩
/-- The cells of one node of a row. -/
def NodeAt (w : World) (b off : Nat) (n : NodeD) (u : Value) : Prop :=
  w.cell? ⟨b, off, none⟩ = some (.int .i64 n.k) ∧ w.cell? ⟨b, off + 1, none⟩ = some (.int .i64 n.g) ∧ w.cell? ⟨b, off + 2, none⟩ = some (.int .i64 n.t) ∧ w.cell? ⟨b, off + 3, none⟩ = some (.int .i64 n.s) ∧ w.cell? ⟨b, off + 4, none⟩ = some u
theorem RdNs.at {w : World} {a : Option Addr} {ns : List NodeD} (h : RdNs w a ns) (k : Nat) (hk : k < ns.length) : ∃ b off u, a = some ⟨b, off, none⟩ ∧ b < w.heap.size ∧ RdU w u ns[k].b ∧ NodeAt w b (off + k * 5) ns[k] u := by
  obtain ⟨L, rfl, h2, h3⟩ := h
  have hk' : k < L.length := by simpa using hk
  obtain ⟨b, off, rfl, hb, hc⟩ := h2.at k hk'
  have c0 := hc 0 (by omega)
  have c1 := hc 1 (by omega)
  have c2 := hc 2 (by omega)
  have c3 := hc 3 (by omega)
  have c4 := hc 4 (by omega)
  refine ⟨b, off, (L[k]).2, rfl, hb, ?_, ?_⟩
  · rw [List.getElem_map]; exact h3 _ (List.getElem_mem hk')
  · rw [List.getElem_map]
    exact ⟨c0, c1, c2, c3, c4⟩
def RdFs (w : World) (v : Value) (F : FsD) : Prop :=
  ∃ a ca b cb, v = .agg #[.slice a F.ns.length ca, .slice b F.ds.length cb] ∧ (F.ns.length ≤ ca ∧ ca ≤ maxLen ∧ F.ds.length ≤ cb ∧ cb ≤ maxLen) ∧ RdNs w a F.ns ∧ RdS w b F.ds
theorem RdFs.below {B : Nat} {w w' : World} {v : Value} {F : FsD} (h : RdFs w v F) (hb : Below B w w') (hB : w.heap.size ≤ B) : RdFs w' v F := by
  obtain ⟨a, ca, b, cb, rfl, hc, h1, h2⟩ := h
  exact ⟨a, ca, b, cb, rfl, hc, h1.below hb hB, h2.below hb hB⟩
theorem RdFs.lay {w : World} {v : Value} {F : FsD} (h : RdFs w v F) : ∃ a ca b cb, v = .agg #[.slice a F.ns.length ca, .slice b F.ds.length cb] := by
  obtain ⟨a, ca, b, cb, rfl, _⟩ := h
  exact ⟨a, ca, b, cb, rfl⟩

/-- A row of nodes of the call's own, the rows of their blocks too: all between lo and hi, no two the same. -/
structure OwnL (w : World) (lo hi : Nat) (v : Value) (M : List NodeU) : Prop where
  row : w.ownsRow lo 57 5 v M.length (M.flatMap encU)
  inn : ∀ x ∈ M, w.ownsRow lo 3 1 x.2 x.1.b.length (x.1.b.map (Value.int .i64))
  apart : M.Pairwise fun x y => ∀ j, blk x.2 j → ¬ blk y.2 j
  top : ∀ j, blk v j → j < hi
  low : ∀ x ∈ M, ∀ j, blk x.2 j → j < hi
def OwnNs (w : World) (lo hi : Nat) (v : Value) (ns : List NodeD) : Prop := ∃ M : List NodeU, M.map (·.1) = ns ∧ OwnL w lo hi v M
theorem OwnL.only {S : Nat → Prop} {w w' : World} {lo hi : Nat} {v : Value} {M : List NodeU} (h : OwnL w lo hi v M) (ho : Only S w w') (hs : ∀ k, lo ≤ k → k < hi → ¬ S k) : OwnL w' lo hi v M :=
  ⟨own_only h.row ho (fun k hk => hs k (h.row.lt k hk).1 (h.top k hk)), fun x hx => own_only (h.inn x hx) ho (fun k hk => hs k ((h.inn x hx).lt k hk).1 (h.low x hx k hk)), h.apart, h.top, h.low⟩
theorem OwnL.below {w w' : World} {lo hi : Nat} {v : Value} {M : List NodeU} (h : OwnL w lo hi v M) (hb : Below w.heap.size w w') : OwnL w' lo hi v M :=
  ⟨ownsRow_below h.row hb (Nat.le_refl _), fun x hx => ownsRow_below (h.inn x hx) hb (Nat.le_refl _), h.apart, h.top, h.low⟩
theorem OwnL.base {w : World} {lo lo' hi : Nat} {v : Value} {M : List NodeU} (h : OwnL w lo hi v M) (hl : lo' ≤ lo) : OwnL w lo' hi v M :=
  ⟨ownsRow_base h.row hl, fun x hx => ownsRow_base (h.inn x hx) hl, h.apart, h.top, h.low⟩
theorem OwnL.hi {w : World} {lo hi hi' : Nat} {v : Value} {M : List NodeU} (h : OwnL w lo hi v M) (hl : hi ≤ hi') : OwnL w lo hi' v M :=
  ⟨h.row, h.inn, h.apart, fun j hj => Nat.lt_of_lt_of_le (h.top j hj) hl, fun x hx j hj => Nat.lt_of_lt_of_le (h.low x hx j hj) hl⟩
theorem own_caps {w : World} {base : Nat} {e : TypeId} {size n n' c : Nat} {a : Option Addr} {xs : List Value} (h : w.ownsRow base e size (.slice a n' c) n xs) : n ≤ c ∧ c ≤ maxLen := by
  rcases h.2 with ⟨he, h0⟩ | ⟨g, cc, cur, he, _, _, h1, h2, _⟩
  · injection he with _ _ he3
    exact ⟨by omega, by omega⟩
  · injection he with _ _ he3
    exact ⟨by omega, by omega⟩
theorem OwnL.rd {w : World} {lo hi : Nat} {v : Value} {M : List NodeU} (h : OwnL w lo hi v M) : ∃ a c, v = .slice a M.length c ∧ M.length ≤ c ∧ c ≤ maxLen ∧ RdF encU 5 w a M ∧ ∀ x ∈ M, RdU w x.2 x.1.b := by
  obtain ⟨a, c, rfl, h1, h2⟩ := own_rdF encU_len h.row rfl
  exact ⟨a, c, rfl, h1, (own_caps h.row).2, h2, fun x hx => RdU.own (h.inn x hx)⟩
theorem OwnNs.rd {w : World} {lo hi : Nat} {v : Value} {ns : List NodeD} (h : OwnNs w lo hi v ns) : ∃ a c, v = .slice a ns.length c ∧ ns.length ≤ c ∧ c ≤ maxLen ∧ RdNs w a ns := by
  obtain ⟨M, rfl, h⟩ := h
  obtain ⟨a, c, rfl, h1, h2, h3, h4⟩ := h.rd
  exact ⟨a, c, by simp, by simpa using h1, h2, M, rfl, h3, h4⟩
theorem OwnNs.only {S : Nat → Prop} {w w' : World} {lo hi : Nat} {v : Value} {ns : List NodeD} (h : OwnNs w lo hi v ns) (ho : Only S w w') (hs : ∀ k, lo ≤ k → k < hi → ¬ S k) : OwnNs w' lo hi v ns := by
  obtain ⟨M, h0, h1⟩ := h
  exact ⟨M, h0, h1.only ho hs⟩
theorem OwnNs.below {w w' : World} {lo hi : Nat} {v : Value} {ns : List NodeD} (h : OwnNs w lo hi v ns) (hb : Below w.heap.size w w') : OwnNs w' lo hi v ns := by
  obtain ⟨M, h0, h1⟩ := h
  exact ⟨M, h0, h1.below hb⟩
theorem OwnNs.hi {w : World} {lo hi hi' : Nat} {v : Value} {ns : List NodeD} (h : OwnNs w lo hi v ns) (hl : hi ≤ hi') : OwnNs w lo hi' v ns := by
  obtain ⟨M, h0, h1⟩ := h
  exact ⟨M, h0, h1.hi hl⟩
def OwnFs (w : World) (lo hi : Nat) (v : Value) (F : FsD) : Prop :=
  ∃ v1 v2, v = .agg #[v1, v2] ∧ OwnNs w lo hi v1 F.ns ∧ w.ownsRow lo 9 1 v2 F.ds.length (F.ds.map Value.string) ∧ ∀ j, blk v2 j → j < hi
theorem OwnFs.rd {w : World} {lo hi : Nat} {v : Value} {F : FsD} (h : OwnFs w lo hi v F) : RdFs w v F := by
  obtain ⟨v1, v2, rfl, h1, h2, _⟩ := h
  obtain ⟨a, ca, rfl, k1, k2, r1⟩ := h1.rd
  obtain ⟨b, cb, rfl, _, r2⟩ := own_rdS h2
  exact ⟨a, ca, b, cb, rfl, ⟨k1, k2, own_caps h2⟩, r1, r2⟩
theorem OwnFs.lay {w : World} {lo hi : Nat} {v : Value} {F : FsD} (h : OwnFs w lo hi v F) : ∃ a ca b cb, v = .agg #[.slice a F.ns.length ca, .slice b F.ds.length cb] := h.rd.lay
theorem OwnFs.below {w w' : World} {lo hi : Nat} {v : Value} {F : FsD} (h : OwnFs w lo hi v F) (hb : Below w.heap.size w w') : OwnFs w' lo hi v F := by
  obtain ⟨v1, v2, rfl, ⟨M, h0, h1⟩, h2, h3⟩ := h
  exact ⟨v1, v2, rfl, ⟨M, h0, h1.below hb⟩, ownsRow_below h2 hb (Nat.le_refl _), h3⟩
theorem OwnFs.only {S : Nat → Prop} {w w' : World} {lo hi : Nat} {v : Value} {F : FsD} (h : OwnFs w lo hi v F) (ho : Only S w w') (hs : ∀ k, lo ≤ k → k < hi → ¬ S k) : OwnFs w' lo hi v F := by
  obtain ⟨v1, v2, rfl, ⟨M, h0, h1⟩, h2, h3⟩ := h
  exact ⟨v1, v2, rfl, ⟨M, h0, h1.only ho hs⟩, own_only h2 ho (fun k hk => hs k (h2.lt k hk).1 (h3 k hk)), h3⟩
theorem OwnFs.base {w : World} {lo lo' hi : Nat} {v : Value} {F : FsD} (h : OwnFs w lo hi v F) (hl : lo' ≤ lo) : OwnFs w lo' hi v F := by
  obtain ⟨v1, v2, rfl, ⟨M, h0, h1⟩, h2, h3⟩ := h
  exact ⟨v1, v2, rfl, ⟨M, h0, h1.base hl⟩, ownsRow_base h2 hl, h3⟩
theorem OwnFs.hi {w : World} {lo hi hi' : Nat} {v : Value} {F : FsD} (h : OwnFs w lo hi v F) (hl : hi ≤ hi') : OwnFs w lo hi' v F := by
  obtain ⟨v1, v2, rfl, ⟨M, h0, h1⟩, h2, h3⟩ := h
  exact ⟨v1, v2, rfl, ⟨M, h0, h1.hi hl⟩, h2, fun j hj => Nat.lt_of_lt_of_le (h3 j hj) hl⟩

/-- How great a branch is. -/
def szN (l : List NodeD) : Nat := (l.map fun n => 1 + n.b.length).sum
theorem szN_take {l : List NodeD} {k : Nat} (h : k < l.length) : szN (l.take (k + 1)) = szN (l.take k) + 1 + (l[k]).b.length := by
  unfold szN
  rw [List.take_succ_eq_append_getElem h, List.map_append, List.sum_append]
  simp
  omega
theorem szN_len (l : List NodeD) : l.length ≤ szN l := by
  induction l with
  | nil => simp [szN]
  | cons x l ih => simp only [szN, List.map_cons, List.sum_cons, List.length_cons] at ih ⊢; omega
theorem szN_mem {l : List NodeD} {n : NodeD} (h : n ∈ l) : n.b.length ≤ szN l := by
  induction l with
  | nil => cases h
  | cons x l ih =>
    simp only [szN, List.map_cons, List.sum_cons] at ih ⊢
    rcases List.mem_cons.1 h with rfl | h
    · omega
    · have := ih h; omega
theorem szT_memF {l : List ByteArray} {s : ByteArray} (h : s ∈ l) : s.size ≤ szT l := by
  induction l with
  | nil => cases h
  | cons x l ih =>
    simp only [szT, List.map_cons, List.sum_cons] at ih ⊢
    rcases List.mem_cons.1 h with rfl | h
    · omega
    · have := ih h; omega
def szF (F : FsD) : Nat := szN F.ns + szT F.ds
def SmF (F : FsD) : Prop := F.ns.length ≤ 1048576 ∧ (∀ n ∈ F.ns, n.b.length ≤ 1048576) ∧ F.ds.length ≤ 1048576 ∧ ∀ s ∈ F.ds, s.size ≤ 1048576
theorem smF_sz {F : FsD} (h : szF F ≤ 1048576) : SmF F := by
  unfold szF at h
  exact ⟨by have := szN_len F.ns; omega, fun n hn => by have := szN_mem hn; omega, by have := szT_len F.ds; omega, fun s hs => by have := szT_memF hs; omega⟩
def FitF (F : FsD) : Prop := F.ns.length ≤ maxLen ∧ F.ds.length ≤ maxLen ∧ (∀ n ∈ F.ns, FitNd n) ∧ ∀ s ∈ F.ds, s.size ≤ maxLen

section
variable {H : Type} {enc : TypeId × Value → H} {w : World} {held : Bool}

set_option maxRecDepth 20000 in
theorem node_of_trod {fuel : Nat} {cs : List Value} {x : DataW H × List MemPlace} (h : DataW.trod enc Try.prog w 0 (fun _ => true) held fuel 70 cs = some x) :
    ∃ y : NodeU, cs = encU y ∧ FitNd y.1 ∧ RdU w y.2 y.1.b := by
  have hc : Try.prog.cellsOf 70 = 5 := by kernel_rfl
  have hc0 : Try.prog.cellsOf 3 = 1 := by kernel_rfl
  have hc1 : Try.prog.cellsOf 53 = 1 := by kernel_rfl
  obtain ⟨y0, y1, y2, y3, y4, n, _, hl, h0, h1, h2, h3, h4⟩ := trod_struct5 Try.underlying70 h
  rw [hc] at hl
  match cs, hl with
  | [c0, c1, c2, c3, c4], _ =>
    simp only [hc0, hc1, List.drop_zero, List.take_succ_cons, List.take_zero, List.drop_succ_cons] at h0 h1 h2 h3 h4
    obtain ⟨m0, e0, _, w0⟩ := DataW.trod_int Try.underlying3 h0
    obtain ⟨m1, e1, _, w1⟩ := DataW.trod_int Try.underlying3 h1
    obtain ⟨m2, e2, _, w2⟩ := DataW.trod_int Try.underlying3 h2
    obtain ⟨m3, e3, _, w3⟩ := DataW.trod_int Try.underlying3 h3
    obtain ⟨a, cap, l, e4, hl4, hm4, hw4, hr4⟩ := ints_of_trod h4
    simp at e0 e1 e2 e3
    subst e0 e1 e2 e3 e4
    exact ⟨(⟨m0, m1, m2, m3, l⟩, .slice a l.length cap), rfl, ⟨Nat.le_trans hl4 hm4, w0, w1, w2, w3, hw4⟩, a, cap, rfl, hl4, hm4, hr4⟩

theorem nodes_of_trod {fuel : Nat} {v : Value} {x : DataW H × List MemPlace} (h : DataW.trod enc Try.prog w 0 (fun _ => true) held fuel 22 [v] = some x) :
    ∃ (a : Option Addr) (cap : Nat) (l : List NodeD), v = .slice a l.length cap ∧ l.length ≤ cap ∧ cap ≤ maxLen ∧ (∀ n ∈ l, FitNd n) ∧ RdNs w a l := by
  have hc : Try.prog.cellsOf 70 = 5 := by kernel_rfl
  rcases DataW.trod_slice Try.underlying22 h with ⟨hv, _⟩ | ⟨a, len, cap, elems, rest, n, _, hv, _, _, hl, hm, hlen, hel, _, _⟩
  · simp at hv
    exact ⟨none, 0, [], hv, Nat.zero_le _, Nat.zero_le _, by simp, [], rfl, .inl rfl, by simp⟩
  · simp at hv
    rw [hc] at hel
    have each : ∀ i, i < len → ∃ y : NodeU, w.cells? 0 (a.add (i * 5)) 5 = some (encU y) ∧ FitNd y.1 ∧ RdU w y.2 y.1.b := by
      intro i hi
      have h1 := hel i hi
      rw [List.getElem?_eq_getElem (by omega)] at h1
      obtain ⟨cs, hcs, ht⟩ := Option.bind_eq_some_iff.1 h1
      obtain ⟨y, rfl, h2⟩ := node_of_trod ht
      exact ⟨y, hcs, h2⟩
    let g : Nat → NodeU := fun i => if hi : i < len then Classical.choose (each i hi) else (zeroN, .slice none 0 0)
    have hg : ∀ i (hi : i < len), w.cells? 0 (a.add (i * 5)) 5 = some (encU (g i)) ∧ FitNd (g i).1 ∧ RdU w (g i).2 (g i).1.b := by
      intro i hi
      have := Classical.choose_spec (each i hi)
      simp only [g, hi, dif_pos]
      exact this
    refine ⟨some a, cap, ((List.range len).map g).map (·.1), by simp [hv], by simp; omega, hm, ?_, (List.range len).map g, rfl, ?_, ?_⟩
    · intro n hn
      obtain ⟨y, hy, rfl⟩ := List.mem_map.1 hn
      obtain ⟨i, hi, rfl⟩ := List.mem_map.1 hy
      exact (hg i (List.mem_range.1 hi)).2.1
    · by_cases h0 : len = 0
      · left; simp [h0]
      · right
        obtain ⟨b, off, spot⟩ := a
        have hc0 := (World.cells?_some (hg 0 (by omega)).1).2.2 0 (by omega)
        have hspot : spot = none := by
          have := World.cell?_spot (hc0.trans (by rfl))
          simpa [Addr.add] using this
        subst hspot
        have hcell : ∀ i (hi : i < len) j, j < 5 → w.cell? ⟨b, off + i * 5 + j, none⟩ = (encU (g i))[j]? := by
          intro i hi j hj
          have := (World.cells?_some (hg i hi).1).2.2 j (by omega)
          rw [Go.WideShapes.add_plain, Go.WideShapes.add_plain] at this
          exact this
        refine ⟨b, off, rfl, World.block_lt_of_cell? w ⟨b, off + 0 * 5 + 0, none⟩ ((hcell 0 (by omega) 0 (by omega)).trans (by rfl)), fun i hi j hj => ?_⟩
        simp at hi
        rw [hcell i hi j hj]
        simp
    · intro y hy
      obtain ⟨i, hi, rfl⟩ := List.mem_map.1 hy
      exact (hg i (List.mem_range.1 hi)).2.2

set_option maxRecDepth 20000 in
theorem open_Fs {r : Reach} {b0 : Nat} {v : Value} {d : DataW H} {p : List MemPlace} (hv : Value.okWide Try.prog w r b0 25 v) (h : DataW.Trod enc Try.prog w 0 (fun _ => true) held 25 v d p) :
    ∃ F : FsD, FitF F ∧ RdFs w v F := by
  obtain ⟨v0, v1, y0, y1, n, rfl, _, _, h0, h1⟩ := Go.Joins.open_agg2 Try.underlying25 (by kernel_rfl) (by kernel_rfl) hv h
  obtain ⟨b, cb, lp, rfl, hlp, hmp, hfp, hrp⟩ := nodes_of_trod h0
  have hS : ∃ (a : Option Addr) (ca : Nat) (ls : List ByteArray), v1 = .slice a ls.length ca ∧ ls.length ≤ ca ∧ ca ≤ maxLen ∧ (∀ s ∈ ls, s.size ≤ maxLen) ∧ RdS w a ls := by
    rcases open_strings Try.underlying23 Try.underlying9 (by kernel_rfl) h1 with ⟨hcs, _⟩ | ⟨x, l, c, zs, hcs, _, hl, hm, hz, _, hcell, hwz⟩
    · simp at hcs
      exact ⟨none, 0, [], hcs, Nat.zero_le _, Nat.zero_le _, by simp, .inl rfl⟩
    · simp at hcs
      simp at hz
      refine ⟨some x, c, zs.take l, by rw [hcs]; simp; omega, by simp; omega, hm, fun s hs => hwz s (List.mem_of_mem_take hs), ?_⟩
      by_cases h0 : l = 0
      · left; simp [h0]
      · right
        obtain ⟨b, off, spot⟩ := x
        have hc0 := hcell 0 (by omega)
        have hspot : spot = none := by simpa [Addr.add] using World.cell?_spot hc0
        subst hspot
        refine ⟨b, off, rfl, World.block_lt_of_cell? w _ hc0, fun i hi => ?_⟩
        simp at hi
        have := hcell i (by omega)
        rw [Go.WideShapes.add_plain] at this
        rw [this]
        simp [List.getD, show i < zs.length by omega]
  obtain ⟨a, ca, ls, rfl, hls, hms, hfs, hrs⟩ := hS
  exact ⟨⟨lp, ls⟩, ⟨Nat.le_trans hlp hmp, Nat.le_trans hls hms, hfp, hfs⟩, ⟨b, cb, a, ca, rfl, ⟨hlp, hmp, hls, hms⟩, hrp, hrs⟩⟩
end
end Go.Proofs.Ytioecnfgliponaa
