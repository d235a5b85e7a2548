/-
  Own text: what the laws of names and paths lean on: within is an order; a path above and its last name make the path.
-/
import Derived.Test.YtkligbeneiidaaaPDrawW
import Derived.Test.YtkligbeneiidaaaWithinW
namespace Go.Proofs.Ytkligbeneiidaaa
open Go.RowKit

theorem bigW (x : Option Addr) (n cap : Nat) (w : World) : Calls Try.prog 14 #[.slice x n cap] w fun e w' => e = .returned (.bool (decide ((1048576 : Int) < (n : Int)))) ∧ w' = w := by
  go_enter Try.func14, Try.ntmps14
  go_wp2
  go_ret
  exact ⟨rfl, rfl⟩

theorem wthn_self {p : List UInt8} (h : ptOk p = true) : wthn p p = true := by simp [wthn, h]
theorem wthn_root {p : List UInt8} (h : ptOk p = true) : wthn p [47] = true := by simp [wthn, h, ptOk_root, nms_root]
theorem abv_pt {p : List UInt8} (h : ptOk p = true) : ptOk (abv p) = true ∧ nms (abv p) = (nms p).dropLast := by
  have hall := nms_all p
  have hd : (nms p).dropLast.all nmOk = true := by
    rw [List.all_eq_true]
    intro y hy
    exact List.all_eq_true.1 hall.2 y (List.dropLast_subset _ hy)
  have h4 : (nms p).dropLast.length ≤ 4 := by simp; omega
  unfold abv
  rw [if_pos h]
  exact nms_ptOf h4 hd
theorem abv_len {p : List UInt8} (h : ptOk p = true) : (abv p).length ≤ 28 := (pt_len (abv_pt h).1).2.1
theorem wthn_abv {p : List UInt8} (h : ptOk p = true) : wthn p (abv p) = true := by
  have ha := abv_pt h
  simp only [wthn, h, ha.1, ha.2, Bool.true_and, decide_eq_true_eq]
  exact List.dropLast_prefix _
theorem wthn_parts {p q : List UInt8} (h : wthn p q = true) : ptOk p = true ∧ ptOk q = true ∧ nms q <+: nms p := by
  simp only [wthn, Bool.and_eq_true, decide_eq_true_eq] at h
  exact ⟨h.1.1, h.1.2, h.2⟩
theorem wthn_anti {p q : List UInt8} (h : wthn p q = true) (h' : wthn q p = true) : p = q := by
  obtain ⟨hp, hq, h1⟩ := wthn_parts h
  obtain ⟨_, _, h2⟩ := wthn_parts h'
  have e : nms p = nms q := (List.IsPrefix.eq_of_length_le h2 h1.length_le)
  rw [← ptOf_nms hp, ← ptOf_nms hq, e]
theorem wthn_le {p q : List UInt8} (h : wthn p q = true) : q.length ≤ p.length := by
  obtain ⟨hp, hq, h1⟩ := wthn_parts h
  by_cases hr : q = [47]
  · subst hr; exact (pt_len hp).1
  · obtain ⟨_, hj, hl, _, _⟩ := pt_names hq hr
    have hpr : p ≠ [47] := by
      intro e
      subst e
      rw [nms_root] at h1
      have := h1.length_le
      simp at this
      rw [this] at hl
      simp at hl
    obtain ⟨_, hj', _, _, _⟩ := pt_names hp hpr
    obtain ⟨c, hc⟩ := h1
    rw [hj', hj, ← hc, joinL_app, List.length_append]
    omega
theorem jn_back {p : List UInt8} (h : ptOk p = true) (hr : p ≠ [47]) : jn (abv p) (lst p) = p := by
  have ha := abv_pt h
  obtain ⟨_, _, h1, _, _⟩ := pt_names h hr
  have hne : nms p ≠ [] := by intro e; rw [e] at h1; simp at h1
  unfold jn lst
  rw [if_pos ha.1, ha.2, List.getLast?_eq_some_getLast hne]
  simp only [Option.getD_some]
  rw [List.dropLast_concat_getLast, ptOf_nms h]
end Go.Proofs.Ytkligbeneiidaaa
