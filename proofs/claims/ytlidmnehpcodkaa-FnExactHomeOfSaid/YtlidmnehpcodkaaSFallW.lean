/-
  Own text: a fall of the power, as the other program does it.
-/
import Derived.Test.YtlidmnehpcodkaaSFlushW
namespace Go.Proofs.Ytlidmnehpcodkaa
open Go.RowKit

def encB (b : Bool) : List Value := [.bool b]
theorem encB_len (b : Bool) : (encB b).length = 1 := rfl
theorem keepL_take : ∀ (l : List PutD) (ks : List Bool) (k : Nat) (h : k < l.length) (h' : k < ks.length), keepL (l.take (k + 1)) ks = keepL (l.take k) ks ++ (if ks[k] then [l[k]] else [])
  | p :: l, c :: ks, 0, _, _ => by cases c <;> simp [keepL]
  | p :: l, c :: ks, k + 1, h, h' => by
    have ih := keepL_take l ks k (by simpa using h) (by simpa using h')
    cases c
    · simp only [List.take_succ_cons, keepL]
      simpa using ih
    · simp only [List.take_succ_cons, keepL, if_true]
      rw [ih]
      simp
theorem keepL_short : ∀ (l : List PutD) (ks : List Bool) (k : Nat), (l.length ≤ k ∨ ks.length ≤ k) → keepL (l.take k) ks = keepL l ks
  | [], ks, k, _ => by simp
  | p :: l, [], k, _ => by cases k <;> simp [keepL]
  | p :: l, c :: ks, 0, h => by simp at h
  | p :: l, c :: ks, k + 1, h => by
    have ih := keepL_short l ks k (by simpa using h)
    simp only [List.take_succ_cons, keepL]
    rw [ih]

/-! ### For the laws' walks -/
theorem OwnD.notVar {w : World} {lo : Nat} {v : Value} {d : DiskD} {P : Nat} {C : Array Value} {t : TypeId} (h : OwnD w lo v d) (hV : Var w P C t) (h1 : 9 ≠ t) (h2 : 59 ≠ t) : ¬ blkD v P := by
  obtain ⟨v1, v2, rfl, o1, o2⟩ := h
  rintro ⟨x, y, e, hk⟩
  cases e
  rcases hk with hk | hk
  · exact own_var o1 hV h1 hk
  · exact own_var o2 hV h2 hk
theorem len_of_sz1 {d : DiskD} (h : szD d ≤ 1048576) : d.1.length ≤ 4194303 ∧ d.2.length ≤ 4194303 := by
  have h1 := szT_len d.1
  have h2 := szP_len d.2
  unfold szD at h
  omega
theorem len_flush {d : DiskD} (h : d.1.length ≤ 4194303 ∧ d.2.length ≤ 4194303) : (dkFlush d).1.length ≤ 4194304 ∧ (dkFlush d).2.length ≤ 4194304 := by
  unfold dkFlush
  split
  · exact ⟨by show (putIn d.1 d.2).length ≤ _; rw [putIn_len]; omega, by simp⟩
  · omega
theorem len_fall {d : DiskD} {ks : List Bool} (h : d.1.length ≤ 4194303 ∧ d.2.length ≤ 4194303) : (dkFall d ks).1.length ≤ 4194304 ∧ (dkFall d ks).2.length ≤ 4194304 := by
  unfold dkFall
  split
  · exact ⟨by show (putIn d.1 _).length ≤ _; rw [putIn_len]; omega, by simp⟩
  · omega
theorem len_write {d : DiskD} {at' : Int} {s : ByteArray} (h : d.1.length ≤ 4194303 ∧ d.2.length ≤ 4194303) : (wrD d at' s).1.length ≤ 4194304 ∧ (wrD d at' s).2.length ≤ 4194304 := by
  unfold wrD dkWrite
  split
  · exact ⟨by show d.1.length ≤ _; omega, by show (d.2 ++ [(at', s)]).length ≤ _; simp; omega⟩
  · exact ⟨by show d.1.length ≤ _; omega, by show d.2.length ≤ _; omega⟩
end Go.Proofs.Ytlidmnehpcodkaa
