/-
  Own text, plain: rows of small structs that hold no row themselves: what can be read, what is owned; what a step leaves alone. Nothing of the program.
-/
import Derived.Test.YtmnngfaelanbcaaStrBase
import Derived.Deep.AppendSrc
namespace Go.Proofs.Ytmnngfaelanbcaa
open Go.RowKit

/-- Nothing that was there has turned but blocks in S. -/
structure Only (S : Nat → Prop) (w w' : World) : Prop where
  os : w'.os = w.os
  tape : w'.tape = w.tape
  output : w'.output = w.output
  size : w.heap.size ≤ w'.heap.size
  block : ∀ k, k < w.heap.size → ¬ S k → w'.heap[k]? = w.heap[k]?

theorem Only.refl (S : Nat → Prop) (w : World) : Only S w w := ⟨rfl, rfl, rfl, Nat.le_refl _, fun _ _ _ => rfl⟩
theorem Only.trans {S : Nat → Prop} {a b c : World} (h : Only S a b) (k : Only S b c) : Only S a c :=
  ⟨k.os.trans h.os, k.tape.trans h.tape, k.output.trans h.output, Nat.le_trans h.size k.size, fun i hi hs => (k.block i (Nat.lt_of_lt_of_le hi h.size) hs).trans (h.block i hi hs)⟩
theorem Only.mono {S T : Nat → Prop} {w w' : World} (h : Only S w w') (hst : ∀ k, k < w.heap.size → S k → T k) : Only T w w' :=
  ⟨h.os, h.tape, h.output, h.size, fun k hk hn => h.block k hk (fun hs => hn (hst k hk hs))⟩
theorem Only.of_below {B : Nat} {w w' : World} (h : Below B w w') : Only (fun k => B ≤ k) w w' :=
  ⟨h.os, h.tape, h.output, h.size, fun k _ hn => h.block k (by omega)⟩
/-- What makes new memory alone turns nothing. -/
theorem Only.of_new {S : Nat → Prop} {w w' : World} (h : Below w.heap.size w w') : Only S w w' :=
  ⟨h.os, h.tape, h.output, h.size, fun k hk _ => h.block k hk⟩
theorem Only.below {S : Nat → Prop} {B : Nat} {w w' : World} (h : Only S w w') (hB : B ≤ w.heap.size) (hs : ∀ k, S k → B ≤ k) : Below B w w' :=
  ⟨h.os, h.tape, h.output, h.size, fun k hk => h.block k (by omega) (fun e => by have := hs k e; omega)⟩
theorem Only.of_grown {w w' : World} {row : Option Nat} (h : w.grownBy w' row) : Only (fun k => row = some k) w w' :=
  ⟨h.os, h.tape, h.output, h.size, fun k hk hn => h.block k hk (fun e => hn e.symm)⟩
theorem Only.setCell {S : Nat → Prop} {a w : World} (h : Only S a w) {p : Addr} (hp : S p.block) (u : Value) : Only S a (w.setCell p u) :=
  h.trans ⟨rfl, rfl, rfl, by simp [World.setCell], fun k _ hn => Below.heap_setCell _ _ _ _ (fun e => hn (e ▸ hp))⟩
theorem Only.cell {S : Nat → Prop} {w w' : World} (h : Only S w w') {p : Addr} (hlt : p.block < w.heap.size) (hp : ¬ S p.block) : w'.cell? p = w.cell? p := World.cell?_of_block (w := w) (h.block p.block hlt hp)

theorem own_only {S : Nat → Prop} {w w' : World} {base : Nat} {e : TypeId} {size : Nat} {v : Value} {n : Nat} {xs : List Value} (h : w.ownsRow base e size v n xs) (ho : Only S w w') (hs : ∀ k, v.ownBlock = some k → ¬ S k) : w'.ownsRow base e size v n xs := by
  refine ⟨h.1, ?_⟩
  rcases h.2 with hn | ⟨g, cap, cur, rfl, hb', hgg, rest⟩
  · exact .inl hn
  · refine .inr ⟨g, cap, cur, rfl, hb', ?_, rest⟩
    rw [ho.block g (Array.getElem?_eq_some_iff.1 hgg).1 (hs g rfl)]
    exact hgg
/-- Rows of two makes lie apart. -/
theorem own_apart {w : World} {base base' : Nat} {e e' : TypeId} {size size' : Nat} {v v' : Value} {n n' : Nat} {xs xs' : List Value} (h : w.ownsRow base e size v n xs) (h' : w.ownsRow base' e' size' v' n' xs') (hne : e ≠ e') : ∀ k, v.ownBlock = some k → ¬ v'.ownBlock = some k := by
  intro k hk hk'
  rcases h.2 with ⟨rfl, _⟩ | ⟨g, cap, cur, rfl, _, hg, _⟩
  · cases hk
  · rcases h'.2 with ⟨rfl, _⟩ | ⟨g', cap', cur', rfl, _, hg', _⟩
    · cases hk'
    · cases hk
      cases hk'
      rw [hg] at hg'
      cases hg'
      exact hne rfl

/-! ### Rows of small structs -/
section
variable {α : Type} (enc : α → List Value) (sz : Nat)

/-- The structs l lie from the address a on. -/
def RdF (w : World) (a : Option Addr) (l : List α) : Prop :=
  l = [] ∨ ∃ b off, a = some ⟨b, off, none⟩ ∧ b < w.heap.size ∧ ∀ i (h : i < l.length) j, j < sz → w.cell? ⟨b, off + i * sz + j, none⟩ = (enc l[i])[j]?
variable {enc sz}
theorem RdF.below {B : Nat} {w w' : World} {a : Option Addr} {l : List α} (h : RdF enc sz w a l) (hb : Below B w w') (hB : w.heap.size ≤ B) : RdF enc sz w' a l := by
  rcases h with h | ⟨b, off, ha, hlt, hc⟩
  · exact .inl h
  · exact .inr ⟨b, off, ha, by have := hb.size; omega, fun i hi j hj => (hb.cell (by exact Nat.lt_of_lt_of_le hlt hB)).trans (hc i hi j hj)⟩
theorem RdF.at {w : World} {a : Option Addr} {l : List α} (h : RdF enc sz w a l) (k : Nat) (hk : k < l.length) : ∃ b off, a = some ⟨b, off, none⟩ ∧ b < w.heap.size ∧ ∀ j, j < sz → w.cell? ⟨b, off + k * sz + j, none⟩ = (enc l[k])[j]? := by
  rcases h with rfl | ⟨b, off, rfl, hlt, hc⟩
  · simp at hk
  · exact ⟨b, off, rfl, hlt, hc k hk⟩
theorem flat_len_c (hsz : ∀ x, (enc x).length = sz) (l : List α) : (l.flatMap enc).length = l.length * sz := by
  induction l with
  | nil => simp
  | cons x l ih => rw [List.flatMap_cons, List.length_append, ih, hsz, List.length_cons, Nat.add_mul]; omega
theorem flat_get (hsz : ∀ x, (enc x).length = sz) : ∀ (l : List α) (i : Nat) (h : i < l.length) (j : Nat), j < sz → (l.flatMap enc)[i * sz + j]? = (enc l[i])[j]?
  | x :: l, 0, _, j, hj => by
    rw [List.flatMap_cons, List.getElem?_append_left (by rw [hsz]; omega)]
    simp
  | x :: l, i + 1, h, j, hj => by
    rw [List.flatMap_cons, List.getElem?_append_right (by rw [hsz, Nat.add_mul]; omega), hsz]
    have := flat_get hsz l i (by simpa using h) j hj
    rw [show (i + 1) * sz + j - sz = i * sz + j by rw [Nat.add_mul]; omega, this]
    simp
theorem flat_set (hsz : ∀ x, (enc x).length = sz) : ∀ (l : List α) (i : Nat) (h : i < l.length) (j : Nat) (y : α) (u : Value), j < sz → enc y = (enc l[i]).set j u → (l.flatMap enc).set (i * sz + j) u = (l.set i y).flatMap enc
  | x :: l, 0, _, j, y, u, hj, he => by
    rw [List.flatMap_cons, List.set_append_left _ _ (by rw [hsz]; omega)]
    simp at he ⊢
    exact he.symm
  | x :: l, i + 1, h, j, y, u, hj, he => by
    rw [List.flatMap_cons, List.set_append_right _ _ (by rw [hsz, Nat.add_mul]; omega), hsz, show (i + 1) * sz + j - sz = i * sz + j by rw [Nat.add_mul]; omega]
    rw [flat_set hsz l i (by simpa using h) j y u hj (by simpa using he)]
    simp
/-- A value that owns a row of such structs is a slice that reads as these. -/
theorem own_rdF (hsz : ∀ x, (enc x).length = sz) {w : World} {base : Nat} {e : TypeId} {v : Value} {n : Nat} {l : List α} (h : w.ownsRow base e sz v n (l.flatMap enc)) (hn : l.length = n) :
    ∃ a cap, v = .slice a n cap ∧ n ≤ cap ∧ RdF enc sz w a l := by
  rcases h.2 with ⟨rfl, h0⟩ | ⟨g, cap, cur, rfl, _, _, hc, _⟩
  · subst h0
    obtain rfl : l = [] := List.eq_nil_of_length_eq_zero hn
    exact ⟨none, 0, rfl, Nat.le_refl _, .inl rfl⟩
  · refine ⟨some ⟨g, 0, none⟩, cap, rfl, hc, .inr ⟨g, 0, rfl, (h.lt g rfl).2, fun i hi j hj => ?_⟩⟩
    rw [Nat.zero_add, h.cellAt (i * sz + j) (by
      have : (i + 1) * sz ≤ n * sz := Nat.mul_le_mul_right _ (by omega)
      rw [Nat.add_mul] at this; omega)]
    exact flat_get hsz l i hi j hj
end

/-! ### A struct variable of the call's own -/
/-- The cells C lie in block P, all of them its own. -/
def Var (w : World) (P : Nat) (C : Array Value) (t : TypeId) : Prop := w.heap[P]? = some (.cells C t (0, 0))
theorem Var.cell {w : World} {P : Nat} {C : Array Value} {t : TypeId} (h : Var w P C t) (j : Nat) : w.cell? ⟨P, j, none⟩ = C[j]? := cell_of_row w P j _ _ _ h
theorem Var.lt {w : World} {P : Nat} {C : Array Value} {t : TypeId} (h : Var w P C t) : P < w.heap.size := (Array.getElem?_eq_some_iff.1 h).1
theorem Var.frozen {w : World} {P : Nat} {C : Array Value} {t : TypeId} (h : Var w P C t) (j : Nat) : w.frozen? ⟨P, j, none⟩ = false := by
  have h' : w.heap[P]? = some (.cells C t (0, 0)) := h
  simp [World.frozen?, h']
theorem Var.set {w : World} {P : Nat} {C : Array Value} {t : TypeId} (h : Var w P C t) (j : Nat) (u : Value) : Var (w.setCell ⟨P, j, none⟩ u) P (C.setIfInBounds j u) t := heap_setCell_same w P j C t u h
theorem Var.other {w : World} {P Q : Nat} {C : Array Value} {t : TypeId} (h : Var w P C t) (hne : P ≠ Q) (j : Nat) (u : Value) : Var (w.setCell ⟨Q, j, none⟩ u) P C t := by
  show (w.setCell ⟨Q, j, none⟩ u).heap[P]? = _
  rw [Below.heap_setCell _ _ _ _ hne]
  exact h
theorem Var.below {B : Nat} {w w' : World} {P : Nat} {C : Array Value} {t : TypeId} (h : Var w P C t) (hb : Below B w w') (hP : P < B) : Var w' P C t := by
  show w'.heap[P]? = _
  rw [hb.block P hP]
  exact h
theorem Var.new {w w' : World} {P : Nat} {C : Array Value} {t : TypeId} (h : Var w P C t) (hb : Below w.heap.size w w') : Var w' P C t := h.below hb h.lt
theorem Var.alloc {w : World} {P : Nat} {C : Array Value} {t : TypeId} (h : Var w P C t) (o : Obj) : Var (w.alloc o) P C t := h.new ((Below.refl _ _).alloc (Nat.le_refl _) o)
theorem Var.only {S : Nat → Prop} {w w' : World} {P : Nat} {C : Array Value} {t : TypeId} (h : Var w P C t) (ho : Only S w w') (hP : ¬ S P) : Var w' P C t := by
  show w'.heap[P]? = _
  rw [ho.block P h.lt hP]
  exact h
theorem Var.made (w : World) (C : Array Value) (t : TypeId) : Var (w.alloc (.cells C t)) w.heap.size C t := heap_alloc_new w _
theorem Var.made2 (w : World) (a : Obj) (C : Array Value) (t : TypeId) : Var ((w.alloc a).alloc (.cells C t)) (w.heap.size + 1) C t := by
  have h := Var.made (w.alloc a) C t
  rwa [show (w.alloc a).heap.size = w.heap.size + 1 by simp] at h
theorem Var.made3 (w : World) (a b : Obj) (C : Array Value) (t : TypeId) : Var (((w.alloc a).alloc b).alloc (.cells C t)) (w.heap.size + 1 + 1) C t := by
  have h := Var.made2 (w.alloc a) b C t
  rwa [show (w.alloc a).heap.size = w.heap.size + 1 by simp] at h

theorem own_set {w : World} {base : Nat} {e : TypeId} {size : Nat} {v : Value} {n : Nat} {xs : List Value} (h : w.ownsRow base e size v n xs) {Q : Nat} (hQ : Q < base) (j : Nat) (u : Value) : (w.setCell ⟨Q, j, none⟩ u).ownsRow base e size v n xs :=
  own_only (S := fun k => k = Q) h (Only.setCell (S := fun k => k = Q) (Only.refl _ _) (p := ⟨Q, j, none⟩) rfl u) (fun k hk => by have := (h.lt k hk).1; omega)

theorem below3 (w : World) (a b c : Obj) : Below w.heap.size w (((w.alloc a).alloc b).alloc c) :=
  (((Below.refl _ _).alloc (Nat.le_refl _) a).alloc (by simp) b).alloc (by simp; omega) c
theorem below2 (w : World) (a b : Obj) : Below w.heap.size w ((w.alloc a).alloc b) :=
  ((Below.refl _ _).alloc (Nat.le_refl _) a).alloc (by simp) b
theorem below1 (w : World) (a : Obj) : Below w.heap.size w (w.alloc a) := (Below.refl _ _).alloc (Nat.le_refl _) a
end Go.Proofs.Ytmnngfaelanbcaa
