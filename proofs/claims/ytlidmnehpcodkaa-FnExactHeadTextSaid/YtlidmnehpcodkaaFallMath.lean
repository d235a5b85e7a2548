/-
  Own text, plain: what FnFallen says of a fall: with all kept it is flushed, with none it is as it was, and each sector is as it was or as one of the pending writes made it.
-/
import Derived.Test.YtlidmnehpcodkaaDiskMath
namespace Go.Proofs.Ytlidmnehpcodkaa

theorem keepL_all (l : List PutD) : keepL l (List.replicate l.length true) = l := by
  induction l with
  | nil => rfl
  | cons p l ih => rw [List.length_cons, List.replicate_succ, keepL, if_pos rfl, ih]
theorem fall_all (d : List ByteArray × List PutD) : dkFall d (List.replicate d.2.length true) = dkFlush d := by
  unfold dkFall dkFlush
  rw [keepL_all]
theorem keepL_nil (l : List PutD) : keepL l [] = [] := by cases l <;> rfl
theorem fall_nil {d : List ByteArray × List PutD} (h : dkOk d = true) : dkFall d [] = (d.1, []) := by
  unfold dkFall
  rw [if_pos h, keepL_nil]
  rfl
theorem fall_len {d : List ByteArray × List PutD} (h : dkOk d = true) (ks : List Bool) : (dkFall d ks).1.length = d.1.length ∧ (dkFall d ks).2 = [] := by
  unfold dkFall
  rw [if_pos h]
  exact ⟨putIn_len _ _, rfl⟩
/-- A sector behind writes is as it was, or as one of them made it. -/
theorem putIn_at (l : List PutD) : ∀ (s : List ByteArray) (i : Nat), i < s.length → (putIn s l).getD i ⟨#[]⟩ = s.getD i ⟨#[]⟩ ∨ ∃ p ∈ l, p.1.toNat = i ∧ p.2 = (putIn s l).getD i ⟨#[]⟩ := by
  induction l with
  | nil => intro s i _; exact .inl rfl
  | cons p l ih =>
    intro s i hi
    have e : putIn s (p :: l) = putIn (s.set p.1.toNat p.2) l := rfl
    rcases ih (s.set p.1.toNat p.2) i (by simpa using hi) with h | ⟨q, hq, h1, h2⟩
    · by_cases hp : p.1.toNat = i
      · right
        refine ⟨p, by simp, hp, ?_⟩
        rw [e, h, hp]
        simp [List.getD, hi]
      · left
        rw [e, h]
        simp [List.getD, List.getElem?_set_ne hp]
    · right
      exact ⟨q, by simp [hq], h1, by rw [e]; exact h2⟩
/-- What the law's inner loop finds: a pending write that made the sector. -/
def madeIt (l : List PutD) (i : Nat) (x : ByteArray) : Bool := l.any fun p => decide (p.1 = (i : Int)) && (p.2.toList == x.toList)
theorem fallen_at {d : List ByteArray × List PutD} (h : dkOk d = true) (ks : List Bool) {i : Nat} (hi : i < d.1.length) :
    (((dkFall d ks).1.getD i ⟨#[]⟩).toList == (d.1.getD i ⟨#[]⟩).toList || madeIt d.2 i ((dkFall d ks).1.getD i ⟨#[]⟩)) = true := by
  have e : (dkFall d ks).1 = putIn d.1 (keepL d.2 ks) := by unfold dkFall; rw [if_pos h]
  rw [e]
  rcases putIn_at (keepL d.2 ks) d.1 i hi with h1 | ⟨p, hp, h1, h2⟩
  · rw [h1]; simp
  · have hm := keepL_mem hp
    have h0 := (dkOk_iff.1 h).2.2.2 p hm
    rw [Bool.or_eq_true]
    right
    unfold madeIt
    rw [List.any_eq_true]
    refine ⟨p, hm, ?_⟩
    rw [← h2]
    simp
    omega
theorem none_ok {d : List ByteArray × List PutD} (h : dkOk d = true) : dkOk (d.1, ([] : List PutD)) = true := by
  have hd := dkOk_iff.1 h
  exact dkOk_iff.2 ⟨hd.1, by simp, hd.2.2.1, by simp⟩
theorem read_fallen {d : List ByteArray × List PutD} (h : dkOk d = true) {i : Nat} (hi : i < d.1.length) : dkRead (dkFall d []) (i : Int) = some (d.1.getD i ⟨#[]⟩) := by
  rw [fall_nil h]
  unfold dkRead
  rw [if_pos ⟨none_ok h, by omega, by show (i : Int) ≤ (d.1.length : Int) - 1; omega⟩]
  simp [lastAt]
theorem fall_bad {d : List ByteArray × List PutD} (h : dkOk d = false) (ks : List Bool) : dkFall d ks = d := by
  unfold dkFall
  rw [if_neg (by simp [h])]
theorem madeIt_succ {l : List PutD} {i : Nat} {x : ByteArray} {m : Nat} (hm : m < l.length) :
    madeIt (l.take (m + 1)) i x = (madeIt (l.take m) i x || (decide ((l.getD m (0, ⟨#[]⟩)).1 = (i : Int)) && ((l.getD m (0, ⟨#[]⟩)).2.toList == x.toList))) := by
  unfold madeIt
  rw [List.take_succ_eq_append_getElem hm, List.any_append]
  simp [List.getD, hm]
end Go.Proofs.Ytlidmnehpcodkaa
