/-
  Own text: rows of texts that are put together while a branch's variable stands beside them.
-/
import Derived.Test.YtaabcfgjmankgaaDoorBunR
import Derived.Test.YtaabcfgjmankgaaDoorAppSrc
import Derived.Test.YtaabcfgjmankgaaDoorSNodeTW
namespace Go.Proofs.YtaabcfgjmankgaaDoor
open Go.RowKit

theorem srcOne {P : Program} {t e e' : TypeId} (ht : P.underlying t = some (.slice e')) (W : World) (u : Value) (h1 : u.oneCell' = true) : Src P 1 t (.slice (some ⟨W.heap.size, 0, none⟩) 1 1) 1 [u] (W.alloc (.cells #[u] e)) := by
  refine Src.ofSlice _ ht ⟨W.heap.size, 0, none⟩ 1 1 [u] rfl ?_ (fun x hx => by simp at hx; subst hx; exact h1)
  intro j x hj
  obtain ⟨hj1, rfl⟩ := List.getElem?_eq_some_iff.1 hj
  simp at hj1
  subst hj1
  rw [Go.WideShapes.add_plain]
  exact (Var.made W #[u] e).cell 0
theorem srcTxt {w : World} {a : Option Addr} {l : List ByteArray} (cap : Nat) (h : RdS w a l) : Src Tryd.prog 1 22 (.slice a l.length cap) l.length (l.map Value.string) w := by
  rcases h with rfl | ⟨b, off, rfl, hlt, hc⟩
  · cases a with
    | none => exact Src.ofNil w Tryd.underlying22 cap
    | some x => exact Src.ofSlice w Tryd.underlying22 x 0 cap [] rfl (fun j u h => by simp at h) (fun u hu => by simp at hu)
  · refine Src.ofSlice w Tryd.underlying22 ⟨b, off, none⟩ l.length cap _ (by simp) ?_ (fun u hu => by obtain ⟨_, _, rfl⟩ := List.mem_map.1 hu; rfl)
    intro j u hj
    rw [List.getElem?_map] at hj
    obtain ⟨y, hy, rfl⟩ := Option.map_eq_some_iff.1 hj
    obtain ⟨hj', rfl⟩ := List.getElem?_eq_some_iff.1 hy
    rw [Go.WideShapes.add_plain]
    exact hc j hj'
theorem own_one {W : World} {lo : Nat} (h : lo ≤ W.heap.size) (u : Value) (e : TypeId) : (W.alloc (.cells #[u] e)).ownsRow lo e 1 (.slice (some ⟨W.heap.size, 0, none⟩) 1 1) 1 [u] :=
  ⟨rfl, .inr ⟨W.heap.size, 1, #[u], rfl, h, heap_alloc_new W _, Nat.le_refl _, by unfold maxLen; omega, rfl, rfl⟩⟩

/-- A branch's variable, and a row of texts of the call's own. -/
structure BkInv (w W : World) (C : Array Value) (v : Value) (L : List ByteArray) : Prop where
  var : Var W w.heap.size C 26
  row : W.ownsRow (w.heap.size + 1) 9 1 v L.length (L.map Value.string)
  bel : Below w.heap.size w W
theorem BkInv.new {w W W' : World} {C : Array Value} {v : Value} {L : List ByteArray} (h : BkInv w W C v L) (hb : Below W.heap.size W W') : BkInv w W' C v L :=
  ⟨h.var.new hb, ownsRow_below h.row hb (Nat.le_refl _), h.bel.trans (hb.mono h.bel.size)⟩
theorem BkInv.lt {w W : World} {C : Array Value} {v : Value} {L : List ByteArray} (h : BkInv w W C v L) : w.heap.size + 1 ≤ W.heap.size := h.var.lt
theorem BkInv.app {w W W' : World} {C : Array Value} {v v' : Value} {L M : List ByteArray} (h : BkInv w W C v L) (ho : W'.ownsRow (w.heap.size + 1) 9 1 v' (L.length + M.length) (L.map Value.string ++ M.map Value.string)) (hg : W.grownBy W' v.ownBlock) : BkInv w W' C v' (L ++ M) := by
  refine ⟨h.var.only (Only.of_grown hg) (fun hj => by have := (h.row.lt _ hj).1; omega), ?_, h.bel.grown hg h.bel.size (fun j hj => by have := (h.row.lt j hj).1; omega)⟩
  rw [List.length_append, List.map_append]
  exact ho
theorem BkInv.made {w W : World} {C : Array Value} (hv : Var W w.heap.size C 26) (hb : Below w.heap.size w W) (s : ByteArray) : BkInv w (W.alloc (.cells #[.string s] 9)) C (.slice (some ⟨W.heap.size, 0, none⟩) 1 1) [s] :=
  ⟨hv.alloc _, own_one hv.lt _ _, hb.alloc hb.size _⟩
/-- The blocks that are had, of the first ones. -/
def hadL (L : List Int) : Nat → List Int
  | 0 => []
  | k + 1 => hadL L k ++ (if (k : Int) ∈ L then [(k : Int)] else [])
theorem hadL_mem (L : List Int) (m : Nat) (x : Int) : x ∈ hadL L m ↔ ∃ k : Nat, x = k ∧ k < m ∧ (k : Int) ∈ L := by
  induction m with
  | zero => simp [hadL]
  | succ m ih =>
    unfold hadL
    rw [List.mem_append, ih]
    constructor
    · rintro (⟨k, h1, h2, h3⟩ | h)
      · exact ⟨k, h1, by omega, h3⟩
      · split at h
        · rename_i hm
          simp at h
          exact ⟨m, h, by omega, hm⟩
        · simp at h
    · rintro ⟨k, h1, h2, h3⟩
      by_cases e : k = m
      · right
        subst e
        rw [if_pos h3]
        simp [h1]
      · left; exact ⟨k, h1, by omega, h3⟩
theorem had_all {F : FsD} (h : ShapeP F) (m : Nat) : bitsB (hadL (allB F.ns) F.ds.length) m = bitsB (allB F.ns) m := by
  rw [bitsB_same]
  intro k _
  rw [hadL_mem]
  constructor
  · rintro ⟨j, hj, _, hm⟩
    rw [hj]; exact hm
  · intro hm
    have := (h.there _ hm).2
    rw [Int.toNat_natCast] at this
    exact ⟨k, rfl, this, hm⟩
theorem fsHead_len {F : FsD} (_ : ShapeP F) : (fsHead F).length ≤ 14 ∧ 0 < (fsHead F).length := by
  unfold fsHead
  have h1 := putNum_len F.ns.length
  have h2 := putNum_len F.ds.length
  simp only [List.length_append, List.length_cons, List.length_nil]
  omega
theorem fsHead_u8 (F : FsD) : U8 (fsHead F) := by
  unfold fsHead
  intro x hx
  rcases List.mem_append.1 hx with hx | hx
  · simp at hx; omega
  · rcases List.mem_append.1 hx with hx | hx
    · exact putNum_u8 _ x hx
    · exact putNum_u8 _ x hx
end Go.Proofs.YtaabcfgjmankgaaDoor
