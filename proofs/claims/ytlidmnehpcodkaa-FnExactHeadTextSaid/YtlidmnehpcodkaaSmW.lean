/-
  Own text: texts that are not too long to be copied.
-/
import Derived.Test.YtlidmnehpcodkaaDiskMath
import Derived.Test.YtlidmnehpcodkaaDiskW
namespace Go.Proofs.Ytlidmnehpcodkaa
open Go.RowKit

def SmL (l : List ByteArray) : Prop := ∀ s ∈ l, s.size ≤ 281474976710656
def SmP (l : List PutD) : Prop := ∀ p ∈ l, p.2.size ≤ 281474976710656
/-- No text in it is too long to be copied. -/
def SmD (d : DiskD) : Prop := SmL d.1 ∧ SmP d.2
theorem SmL.set {l : List ByteArray} (h : SmL l) (k : Nat) {s : ByteArray} (hs : s.size ≤ 91) : SmL (l.set k s) := by
  intro x hx
  rcases List.mem_or_eq_of_mem_set hx with hx | rfl
  · exact h x hx
  · omega
theorem smL_rep (n : Nat) : SmL (List.replicate n ⟨#[]⟩) := by
  intro x hx
  rw [(List.mem_replicate.1 hx).2]
  decide
theorem smP_rep (n : Nat) : SmP (List.replicate n (0, ⟨#[]⟩)) := by
  intro x hx
  rw [(List.mem_replicate.1 hx).2]
  decide
theorem smP_nil : SmP [] := fun _ h => by cases h
theorem SmP.app {l : List PutD} (h : SmP l) (n : Int) {s : ByteArray} (hs : s.size ≤ 91) : SmP (l ++ [(n, s)]) := by
  intro x hx
  rcases List.mem_append.1 hx with hx | hx
  · exact h x hx
  · obtain rfl : x = (n, s) := by simpa using hx
    show s.size ≤ _
    omega
theorem smD_ok {d : DiskD} (h : dkOk d = true) : SmD d := by
  obtain ⟨_, _, h1, h2⟩ := dkOk_iff.1 h
  exact ⟨fun s hs => by have := h1 s hs; omega, fun p hp => by have := (h2 p hp).2.2; omega⟩
theorem szT_mem {l : List ByteArray} {s : ByteArray} (h : s ∈ l) : s.size ≤ szT l := by
  induction l with
  | nil => cases h
  | cons x l ih =>
    have e : szT (x :: l) = 1 + x.size + szT l := by simp [szT]
    rcases List.mem_cons.1 h with rfl | h
    · omega
    · have := ih h; omega
theorem szP_mem {l : List PutD} {p : PutD} (h : p ∈ l) : p.2.size ≤ szP l := by
  induction l with
  | nil => cases h
  | cons x l ih =>
    have e : szP (x :: l) = 1 + x.2.size + szP l := by simp [szP]
    rcases List.mem_cons.1 h with rfl | h
    · omega
    · have := ih h; omega
theorem smD_sz {d : DiskD} (h : szD d ≤ 1048576) : SmD d := by
  have e : szD d = szT d.1 + szP d.2 := rfl
  exact ⟨fun s hs => by have := szT_mem hs; omega, fun p hp => by have := szP_mem hp; omega⟩
end Go.Proofs.Ytlidmnehpcodkaa
