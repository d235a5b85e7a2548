/-
  Own text: how great a branch is behind a change of a node.
-/
import Derived.Test.YtbameedfnicnhaaDataMath
import Derived.Test.YtbameedfnicnhaaFsF
namespace Go.Proofs.Ytbameedfnicnhaa
open Go.RowKit

theorem szN_le {l : List NodeD} {m : Nat} (h : ∀ n ∈ l, n.b.length ≤ m) : szN l ≤ l.length * (1 + m) := by
  induction l with
  | nil => simp [szN]
  | cons x l ih =>
    have h1 := h x (by simp)
    have h2 := ih fun n hn => h n (by simp [hn])
    simp only [szN, List.map_cons, List.sum_cons, List.length_cons] at h2 ⊢
    rw [Nat.add_mul]
    omega
theorem szT_le {l : List ByteArray} {m : Nat} (h : ∀ s ∈ l, s.size ≤ m) : szT l ≤ l.length * (1 + m) := by
  induction l with
  | nil => simp [szT]
  | cons x l ih =>
    have h1 := h x (by simp)
    have h2 := ih fun n hn => h n (by simp [hn])
    simp only [szT, List.map_cons, List.sum_cons, List.length_cons] at h2 ⊢
    rw [Nat.add_mul]
    omega
theorem szF_few {F : FsD} (h1 : F.ns.length ≤ 10) (h2 : F.ds.length ≤ 36) (h3 : ∀ n ∈ F.ns, n.b.length ≤ 1000) (h4 : ∀ s ∈ F.ds, s.size ≤ 1000) : szF F ≤ 1048576 := by
  have a := szN_le h3
  have b := szT_le h4
  have c : F.ns.length * (1 + 1000) ≤ 10 * 1001 := Nat.mul_le_mul_right _ h1
  have d : F.ds.length * (1 + 1000) ≤ 36 * 1001 := Nat.mul_le_mul_right _ h2
  unfold szF
  omega
theorem shape_ns {F : FsD} (h : ShapeP F) : F.ns.length ≤ 10 ∧ F.ds.length ≤ 36 ∧ (∀ n ∈ F.ns, n.b.length ≤ 5) ∧ ∀ s ∈ F.ds, s.size ≤ 16 :=
  ⟨h.1.2.1, h.1.2.2.2, fun n hn => (h.2.2.1 n hn).len, h.small⟩
theorem dpD_sz {F : FsD} {i : Int} (h : szF F ≤ 1048576) : szF (dpD F i) ≤ 1048576 := by
  unfold dpD
  split
  · rename_i ho
    have hd : DpP F i := Classical.byContradiction fun hn => absurd ((dpOk_no hn).symm.trans ho) (by decide)
    obtain ⟨h1, h2, h3, h4⟩ := shape_ns hd.1.1
    refine szF_few (by simpa using h1) (by show (clrN _ _ _).length ≤ _; rw [clrN_len]; exact h2) (fun n hn => ?_) ?_
    · rcases List.mem_or_eq_of_mem_set hn with hn | rfl
      · have := h3 n hn; omega
      · simp [zeroN]
    · exact clrN_small (fun s hs => by have := h4 s hs; omega) _
  · exact h
theorem mdD_sz {F : FsD} {kind : Int} (h : szF F ≤ 1048576) : szF (mdD F kind) ≤ 1048576 := by
  unfold mdD
  split
  · rename_i ho
    have hd : MdP F kind := Classical.byContradiction fun hn => absurd ((mdOk_no hn).symm.trans ho) (by decide)
    obtain ⟨h1, h2, h3, h4⟩ := shape_ns hd.1
    refine szF_few (by simpa using h1) h2 (fun n hn => ?_) (fun s hs => by have := h4 s hs; omega)
    rcases List.mem_or_eq_of_mem_set hn with hn | rfl
    · have := h3 n hn; omega
    · simp
  · exact h
theorem wrD_sz {F : FsD} {i : Int} {d : ByteArray} (h : szF F ≤ 1048576) : szF (wrD F i d) ≤ 1048576 := by
  unfold wrD
  split
  · rename_i ho
    have hd : WrP F i d := Classical.byContradiction fun hn => absurd ((wrOk_no hn).symm.trans ho) (by decide)
    obtain ⟨h1, h2, h3, h4⟩ := shape_ns hd.1.1
    have h5 : needN d ≤ 5 := by have := hd.2.1; unfold needN; omega
    refine szF_few (by simpa [wrF] using h1) (by show (heldDs F i d).length ≤ _; unfold heldDs; rw [clrN_len, putN_len]; exact h2) (fun n hn => ?_) ?_
    · rcases List.mem_or_eq_of_mem_set hn with hn | rfl
      · have := h3 n hn; omega
      · simp [wrN]; omega
    · exact clrN_small (putN_small (by omega) (fun s hs => by have := h4 s hs; omega) _) _
  · exact h
end Go.Proofs.Ytbameedfnicnhaa
