/-
  Own text, plain: disks as lists: right ones, what is read, written, flushed, what falls.
-/
import Derived.Test.YtioecnfgliponaaPutW
namespace Go.Proofs.Ytioecnfgliponaa

def txOk (s : ByteArray) : Bool := decide (s.size ≤ 90)
def putOk (n : Nat) (p : PutD) : Bool := (decide (0 ≤ p.1) && decide (p.1 ≤ (n : Int) - 1)) && decide (p.2.size ≤ 90)
/-- A right disk. -/
def dkOk (d : List ByteArray × List PutD) : Bool := decide (d.1.length ≤ 120) && decide (d.2.length ≤ 400) && d.1.all txOk && d.2.all (putOk d.1.length)
/-- Writes put into sectors, in order. -/
def putIn (s : List ByteArray) (l : List PutD) : List ByteArray := l.foldl (fun s p => s.set p.1.toNat p.2) s
def dkFlush (d : List ByteArray × List PutD) : List ByteArray × List PutD := if dkOk d = true then (putIn d.1 d.2, []) else d
/-- The writes that are kept. -/
def keepL : List PutD → List Bool → List PutD
  | [], _ => []
  | _ :: _, [] => []
  | p :: l, k :: ks => if k then p :: keepL l ks else keepL l ks
def dkFall (d : List ByteArray × List PutD) (ks : List Bool) : List ByteArray × List PutD := if dkOk d = true then (putIn d.1 (keepL d.2 ks), []) else d
/-- The last write at a place. -/
def lastAt (l : List PutD) (at' : Int) : Option ByteArray := (l.reverse.find? fun p => decide (p.1 = at')).map (·.2)
def dkRead (d : List ByteArray × List PutD) (at' : Int) : Option ByteArray :=
  if dkOk d = true ∧ 0 ≤ at' ∧ at' ≤ (d.1.length : Int) - 1 then some ((lastAt d.2 at').getD (d.1.getD at'.toNat ⟨#[]⟩)) else none
def dkWrite (d : List ByteArray × List PutD) (at' : Int) (s : ByteArray) : Option (List ByteArray × List PutD) :=
  if dkOk d = true ∧ dkOk (d.1, d.2 ++ [(at', s)]) = true then some (d.1, d.2 ++ [(at', s)]) else none

theorem dkOk_iff {d : List ByteArray × List PutD} : dkOk d = true ↔ d.1.length ≤ 120 ∧ d.2.length ≤ 400 ∧ (∀ s ∈ d.1, s.size ≤ 90) ∧ ∀ p ∈ d.2, 0 ≤ p.1 ∧ p.1 < (d.1.length : Int) ∧ p.2.size ≤ 90 := by
  simp only [dkOk, putOk, txOk, Bool.and_eq_true, decide_eq_true_eq, List.all_eq_true]
  constructor
  · rintro ⟨⟨⟨h1, h2⟩, h3⟩, h4⟩
    exact ⟨h1, h2, h3, fun p hp => ⟨(h4 p hp).1.1, by have := (h4 p hp).1.2; omega, (h4 p hp).2⟩⟩
  · rintro ⟨h1, h2, h3, h4⟩
    exact ⟨⟨⟨h1, h2⟩, h3⟩, fun p hp => ⟨⟨(h4 p hp).1, by have := (h4 p hp).2.1; omega⟩, (h4 p hp).2.2⟩⟩
theorem putIn_len (s : List ByteArray) (l : List PutD) : (putIn s l).length = s.length := by
  unfold putIn
  induction l generalizing s with
  | nil => rfl
  | cons p l ih => rw [List.foldl_cons, ih]; simp
theorem putIn_small {s : List ByteArray} {l : List PutD} (hs : ∀ x ∈ s, x.size ≤ 90) (hl : ∀ p ∈ l, p.2.size ≤ 90) : ∀ x ∈ putIn s l, x.size ≤ 90 := by
  unfold putIn
  induction l generalizing s with
  | nil => exact hs
  | cons p l ih =>
    rw [List.foldl_cons]
    refine ih ?_ (fun q hq => hl q (by simp [hq]))
    intro x hx
    rcases List.mem_or_eq_of_mem_set hx with h | h
    · exact hs x h
    · rw [h]; exact hl p (by simp)
theorem putIn_app (s : List ByteArray) (l m : List PutD) : putIn s (l ++ m) = putIn (putIn s l) m := by simp [putIn]
theorem keepL_mem {l : List PutD} : ∀ {ks : List Bool} {p : PutD}, p ∈ keepL l ks → p ∈ l := by
  induction l with
  | nil => intro ks p h; simp [keepL] at h
  | cons q l ih =>
    intro ks p h
    cases ks with
    | nil => simp [keepL] at h
    | cons k ks =>
      rw [keepL] at h
      split at h
      · rcases List.mem_cons.1 h with rfl | h
        · simp
        · exact List.mem_cons_of_mem _ (ih h)
      · exact List.mem_cons_of_mem _ (ih h)
theorem flush_ok {d : List ByteArray × List PutD} (h : dkOk d = true) : dkOk (dkFlush d) = true ∧ (dkFlush d).2 = [] := by
  have hd := dkOk_iff.1 h
  unfold dkFlush
  rw [if_pos h]
  refine ⟨dkOk_iff.2 ⟨by rw [putIn_len]; exact hd.1, by simp, ?_, by simp⟩, rfl⟩
  exact putIn_small hd.2.2.1 (fun p hp => (hd.2.2.2 p hp).2.2)
theorem fall_none {s : List ByteArray} (ks : List Bool) : dkFall (s, []) ks = (s, []) := by
  unfold dkFall
  split
  · rfl
  · rfl
theorem flush_none {s : List ByteArray} : dkFlush (s, []) = (s, []) := by
  unfold dkFlush
  split
  · rfl
  · rfl
theorem lastAt_app (l : List PutD) (at' : Int) (s : ByteArray) : lastAt (l ++ [(at', s)]) at' = some s := by simp [lastAt]
theorem read_written {d e : List ByteArray × List PutD} {at' : Int} {s : ByteArray} (h : dkWrite d at' s = some e) : dkRead e at' = some s ∧ dkOk e = true := by
  unfold dkWrite at h
  split at h
  · rename_i hk
    obtain rfl := Option.some.inj h
    have hp := (dkOk_iff.1 hk.2).2.2.2 (at', s) (by simp)
    refine ⟨?_, hk.2⟩
    unfold dkRead
    rw [if_pos ⟨hk.2, hp.1, by have := hp.2.1; simp at this ⊢; omega⟩, lastAt_app]
    rfl
  · cases h
theorem read_flushed {d e : List ByteArray × List PutD} {at' : Int} {s : ByteArray} (h : dkWrite d at' s = some e) : dkRead (dkFlush e) at' = some s := by
  have hr := read_written h
  unfold dkWrite at h
  split at h
  · rename_i hk
    obtain rfl := Option.some.inj h
    have hp := (dkOk_iff.1 hk.2).2.2.2 (at', s) (by simp)
    simp only at hp
    have hf := flush_ok hk.2
    unfold dkRead
    have hlen : (dkFlush (d.1, d.2 ++ [(at', s)])).1.length = d.1.length := by
      unfold dkFlush; rw [if_pos hk.2]; exact putIn_len _ _
    rw [if_pos ⟨hf.1, hp.1, by rw [hlen]; omega⟩, hf.2]
    have e1 : (dkFlush (d.1, d.2 ++ [(at', s)])).1 = (putIn d.1 d.2).set at'.toNat s := by
      unfold dkFlush; rw [if_pos hk.2]
      show putIn d.1 (d.2 ++ [(at', s)]) = _
      rw [putIn_app]
      rfl
    rw [e1]
    have hb : at'.toNat < (putIn d.1 d.2).length := by rw [putIn_len]; omega
    simp [lastAt, List.getD, hb]
  · cases h
end Go.Proofs.Ytioecnfgliponaa
