/-
  Own text: what the frame tells of a row of entries that came in; rows of entries as answers.
-/
import Derived.Test.YtogpgocldgdeaaaDoorEntW
import Derived.OpenShut
import Derived.ShutString
import Derived.ChangeOld
import Derived.Below
import Derived.SliceStrings
import Derived.ChangeSame
import Derived.Lib.SmallJoins
namespace Go.Proofs.YtogpgocldgdeaaaDoor
open Go.ChangeShapes Go.WideShapes Go.ChangeAt Go.RowKit

def FitEn (l : List EntD) : Prop := l.length ≤ maxLen ∧ ∀ p ∈ l, p.1.size ≤ maxLen
theorem szEn_len (l : List EntD) : l.length ≤ szEn l := by
  induction l with
  | nil => simp [szEn]
  | cons x l ih => simp only [szEn, List.map_cons, List.sum_cons, List.length_cons] at ih ⊢; omega
theorem szEn_mem {l : List EntD} {n : EntD} (h : n ∈ l) : n.1.size ≤ szEn l := by
  induction l with
  | nil => cases h
  | cons x l ih =>
    simp only [szEn, List.map_cons, List.sum_cons] at ih ⊢
    rcases List.mem_cons.1 h with rfl | h
    · omega
    · have := ih h; omega
def RdEn (w : World) (v : Value) (l : List EntD) : Prop := ∃ a c, v = .slice a l.length c ∧ l.length ≤ c ∧ RdF encN 2 w a l
def OwnEn (w : World) (lo hi : Nat) (v : Value) (l : List EntD) : Prop := w.ownsRow lo 32 2 v l.length (l.flatMap encN) ∧ ∀ j, blk v j → j < hi
theorem OwnEn.rd {w : World} {lo hi : Nat} {v : Value} {l : List EntD} (h : OwnEn w lo hi v l) : RdEn w v l := by
  obtain ⟨a, c, rfl, hc, hr⟩ := own_rdF encN_len h.1 rfl
  exact ⟨a, c, rfl, hc, hr⟩
theorem OwnEn.below {w w' : World} {lo hi : Nat} {v : Value} {l : List EntD} (h : OwnEn w lo hi v l) (hb : Below w.heap.size w w') : OwnEn w' lo hi v l := ⟨ownsRow_below h.1 hb (Nat.le_refl _), h.2⟩
theorem OwnEn.only {S : Nat → Prop} {w w' : World} {lo hi : Nat} {v : Value} {l : List EntD} (h : OwnEn w lo hi v l) (ho : Only S w w') (hs : ∀ k, lo ≤ k → k < hi → ¬ S k) : OwnEn w' lo hi v l := ⟨own_only h.1 ho (fun k hk => hs k (h.1.lt k hk).1 (h.2 k hk)), h.2⟩
theorem OwnEn.of {w : World} {lo : Nat} {v : Value} {l : List EntD} (h : w.ownsRow lo 32 2 v l.length (l.flatMap encN)) : OwnEn w lo w.heap.size v l := ⟨h, fun j hj => (h.lt j hj).2⟩
theorem RdEn.below {w w' : World} {v : Value} {l : List EntD} (h : RdEn w v l) (hb : Below w.heap.size w w') : RdEn w' v l := by
  obtain ⟨a, c, rfl, hc, hr⟩ := h
  exact ⟨a, c, rfl, hc, hr.below hb (Nat.le_refl _)⟩
theorem eqEnX (v u : Value) (l : List EntD) (w : World) (hl : l.length ≤ 4194304) (hr : RdEn w v l) (hs : RdEn w u l) : Calls Tryd.prog 15 #[v, u] w fun e w' => e = .returned (.bool true) ∧ Below w.heap.size w w' := by
  obtain ⟨a, c, rfl, _, hr⟩ := hr
  obtain ⟨a', c', rfl, _, hs⟩ := hs
  exact eqEnts _ _ _ _ l w hl hr hs
theorem markEnX (v : Value) (lo hi k : Nat) (l : List EntD) (w : World) (hl : l.length ≤ 4194304) (hk : k ≤ 67108864) (_ : hi ≤ w.heap.size) (ho : OwnEn w lo hi v l) : Calls Tryd.prog 16 #[v, .int .i64 k] w fun e w' => e = .returned (.int .i64 ((k + 2 * l.length : Nat) : Int)) ∧ OwnEn w' lo hi v (marksEn k l.length) ∧ Only (fun j => lo ≤ j ∧ j < hi) w w' := by
  refine (markEnts v l.length k lo l w (by omega) (by omega) rfl ho.1).mono ?_
  rintro e w' ⟨rfl, h1, h2⟩
  refine ⟨rfl, ⟨by rw [marksEn_len]; exact h1, ho.2⟩, h2.mono fun j _ hj => ⟨(ho.1.lt j hj).1, ho.2 j hj⟩⟩
theorem heldEnX (v : Value) (lo hi k : Nat) (l : List EntD) (w : World) (hl : l.length ≤ 4194304) (hk : k ≤ 67108864) (ho : OwnEn w lo hi v (marksEn k l.length)) : Calls Tryd.prog 17 #[v, .int .i64 k] w fun e w' => e = .returned (.int .i64 ((k + 2 * l.length : Nat) : Int)) ∧ Below w.heap.size w w' := by
  obtain ⟨a, c, rfl, _, hr⟩ := ho.rd
  rw [marksEn_len]
  exact heldEnts a c l.length k w (by omega) (by omega) hr

section
variable {H : Type} {enc : TypeId × Value → H} {w : World} {spare : Nat → Bool} {held : Bool}

end
end Go.Proofs.YtogpgocldgdeaaaDoor
