/-
  Own text, plain: entries of a directory: found, added, dropped, as text; the order of names.
-/
import Derived.Test.YtogpgocldgdeaaaDoorEntF
import Derived.Test.YtogpgocldgdeaaaDoorTextW
namespace Go.Proofs.YtogpgocldgdeaaaDoor
open Go.RowKit

def ltB (a b : ByteArray) : Bool := Op.bytesLess a.toList b.toList
theorem bl_irrefl : ∀ l : List UInt8, Op.bytesLess l l = false
  | [] => rfl
  | a :: l => by unfold Op.bytesLess; rw [bl_irrefl l]; simp
theorem bl_total : ∀ a b : List UInt8, Op.bytesLess a b = true ∨ a = b ∨ Op.bytesLess b a = true
  | [], [] => .inr (.inl rfl)
  | [], _ :: _ => .inl rfl
  | _ :: _, [] => .inr (.inr rfl)
  | x :: a, y :: b => by
    unfold Op.bytesLess
    have h := bl_total a b
    rcases Nat.lt_trichotomy x.toNat y.toNat with h1 | h1 | h1
    · left
      simp [show x < y from UInt8.lt_iff_toNat_lt.2 h1]
    · have e : x = y := UInt8.toNat_inj.1 h1
      subst e
      rcases h with h | h | h
      · left; simp [h]
      · right; left; rw [h]
      · right; right; simp [h]
    · right; right
      simp [show y < x from UInt8.lt_iff_toNat_lt.2 h1]
theorem bl_trans : ∀ a b c : List UInt8, Op.bytesLess a b = true → Op.bytesLess b c = true → Op.bytesLess a c = true
  | [], [], _, h, _ => by cases h
  | [], _ :: _, [], _, h => by cases h
  | [], _ :: _, _ :: _, _, _ => rfl
  | _ :: _, [], _, h, _ => by cases h
  | _ :: _, _ :: _, [], _, h => by cases h
  | x :: a, y :: b, z :: c, h1, h2 => by
    unfold Op.bytesLess at *
    simp only [Bool.or_eq_true, Bool.and_eq_true, decide_eq_true_eq, beq_iff_eq] at *
    rcases h1 with h1 | ⟨rfl, h1⟩
    · rcases h2 with h2 | ⟨rfl, h2⟩
      · left; exact UInt8.lt_trans h1 h2
      · left; exact h1
    · rcases h2 with h2 | ⟨rfl, h2⟩
      · left; exact h2
      · right; exact ⟨rfl, bl_trans a b c h1 h2⟩
theorem ltB_irrefl (a : ByteArray) : ltB a a = false := bl_irrefl _
theorem ltB_trans {a b c : ByteArray} (h1 : ltB a b = true) (h2 : ltB b c = true) : ltB a c = true := bl_trans _ _ _ h1 h2

/-- The node of the first entry of that name, or -1. -/
def enFind (l : List EntD) (s : ByteArray) : Int := if h : l.findIdx (fun x => decide (x.1 = s)) < l.length then (l[l.findIdx (fun x => decide (x.1 = s))]).2 else -1
theorem enIdx_at {l : List EntD} {s : ByteArray} {k : Nat} (hk : k < l.length) (h0 : (l[k]).1 = s) (h : ∀ j (hj : j < l.length), j < k → (l[j]).1 ≠ s) : l.findIdx (fun x => decide (x.1 = s)) = k := by
  rw [List.findIdx_eq hk]
  refine ⟨by simp [h0], fun j hj => ?_⟩
  simpa using h j (by omega) hj
theorem enIdx_none {l : List EntD} {s : ByteArray} (h : ∀ j (hj : j < l.length), (l[j]).1 ≠ s) : ¬ l.findIdx (fun x => decide (x.1 = s)) < l.length := by
  intro hlt
  have := List.findIdx_getElem (p := fun x : EntD => decide (x.1 = s)) (xs := l) (w := hlt)
  exact h _ hlt (by simpa using this)
theorem enFind_at {l : List EntD} {s : ByteArray} {k : Nat} (hk : k < l.length) (h0 : (l[k]).1 = s) (h : ∀ j (hj : j < l.length), j < k → (l[j]).1 ≠ s) : enFind l s = (l[k]).2 := by
  have e := enIdx_at hk h0 h
  unfold enFind
  rw [dif_pos (by rw [e]; exact hk)]
  simp only [e]
theorem enFind_none {l : List EntD} {s : ByteArray} (h : ∀ j (hj : j < l.length), (l[j]).1 ≠ s) : enFind l s = -1 := by
  unfold enFind
  rw [dif_neg (enIdx_none h)]
/-- Where a name goes: ahead of the first one that is greater. -/
def enAt (l : List EntD) (s : ByteArray) : Nat := l.findIdx (fun e => ltB s e.1)
def enAdded (l : List EntD) (s : ByteArray) (n : Int) : List EntD := l.take (enAt l s) ++ (s, n) :: l.drop (enAt l s)
def enDropped (l : List EntD) (s : ByteArray) : List EntD := if l.findIdx (fun x => decide (x.1 = s)) < l.length then l.eraseIdx (l.findIdx (fun x => decide (x.1 = s))) else l
def enHas (l : List EntD) (s : ByteArray) : Bool := decide (l.findIdx (fun x => decide (x.1 = s)) < l.length)
/-- Its text's bytes. -/
def enText (l : List EntD) : List Int := l.flatMap fun e => putText e.1 ++ putNum e.2
end Go.Proofs.YtogpgocldgdeaaaDoor
