/-
  Own text, plain: what is known of a row of entries to which one was added.
-/
import Derived.Test.YtogpgocldgdeaaaDoorBunM
import Derived.Test.YtogpgocldgdeaaaDoorSDropW
import Derived.Test.YtogpgocldgdeaaaDoorReadE
import Derived.Test.YtogpgocldgdeaaaDoorNumsMath
import Derived.Test.YtogpgocldgdeaaaDoorJMath
namespace Go.Proofs.YtogpgocldgdeaaaDoor
open Go.RowKit

theorem ltB_ne {a b : ByteArray} (h : ltB a b = true) : a ≠ b := by
  intro e
  rw [e, ltB_irrefl] at h
  cases h
theorem enFind_ord {A : List EntD} (h : OrdP A A.length) (k : Nat) (hk : k < A.length) : enFind A (A[k]).1 = (A[k]).2 :=
  enFind_at hk rfl fun j hj hjk => ltB_ne (ord_all h k j hk hj hjk)
theorem insE_mid {l : List EntD} {q : Nat} {s : ByteArray} {n : Int} (hq : q ≤ l.length) (h : q < (insE l q s n).length) : (insE l q s n)[q] = (s, n) := by
  have htl : (l.take q).length = q := by rw [List.length_take]; omega
  have e : (insE l q s n)[q]? = some (s, n) := by
    unfold insE
    rw [List.getElem?_append_right (by omega), htl, Nat.sub_self, List.getElem?_cons_zero]
  rw [List.getElem?_eq_getElem h] at e
  injection e
theorem added_facts {l : List EntD} {s : ByteArray} {n : Int} (h : enOk (enAdded l s n) = true) :
    enFind (enAdded l s n) s = n ∧ (∀ i (hi : i < l.length), enFind (enAdded l s n) (l[i]).1 = (l[i]).2) ∧ enHas (enAdded l s n) s = true ∧ enDropped (enAdded l s n) s = l ∧ enFind l s = -1 := by
  have hP : EnP (enAdded l s n) := by unfold enOk at h; exact @of_decide_eq_true _ (Classical.propDecidable _) h
  rw [enAdded_ins] at *
  have hq := enAt_le l s
  generalize enAt l s = q at *
  have hL := insE_len (s := s) (n := n) hq
  have hO := ((enP_iff _).1 hP).2.1
  have hqA : q < (insE l q s n).length := by omega
  have hm := insE_mid (s := s) (n := n) hq hqA
  have hup : ∀ k, k < l.length → upE q k < (insE l q s n).length := fun k hk => by unfold upE; split <;> omega
  have h1 := enFind_ord hO q hqA
  rw [hm] at h1
  have hbefore : ∀ j (hj : j < (insE l q s n).length), j < q → ((insE l q s n)[j]).1 ≠ s := fun j hj hjq => by
    have := ltB_ne (ord_all hO q j hqA hj hjq)
    rw [hm] at this
    exact this
  obtain ⟨hd, hh⟩ := enDropped_at hqA (by rw [hm]) hbefore
  refine ⟨h1, fun i hi => ?_, hh, ?_, ?_⟩
  · have := enFind_ord hO (upE q i) (hup i hi)
    rw [insE_at hq i hi] at this
    exact this
  · rw [hd]
    unfold insE
    have htl : (l.take q).length = q := by rw [List.length_take]; omega
    have e1 : (l.take q ++ (s, n) :: l.drop q).take q = l.take q := by
      conv => lhs; arg 1; rw [← htl]
      exact List.take_left
    have e2 : (l.take q ++ (s, n) :: l.drop q).drop (q + 1) = l.drop q := by
      have : q + 1 = (l.take q ++ [(s, n)]).length := by rw [List.length_append, htl]; rfl
      rw [this, show l.take q ++ (s, n) :: l.drop q = (l.take q ++ [(s, n)]) ++ l.drop q by simp]
      exact List.drop_left
    rw [e1, e2, List.take_append_drop]
  · refine enFind_none fun i hi he => ?_
    have hi2 := insE_at (s := s) (n := n) hq i hi (hup i hi)
    have hne : upE q i < q ∨ q < upE q i := by unfold upE; split <;> omega
    rcases hne with hlt | hlt
    · have := ltB_ne (ord_all hO q (upE q i) hqA (hup i hi) hlt)
      rw [hm, hi2] at this
      exact this he
    · have := ltB_ne (ord_all hO (upE q i) q (hup i hi) hqA hlt)
      rw [hm, hi2] at this
      exact this he.symm
theorem reads_text : ∀ (es : List EntD) (pre : List Int), (∀ e ∈ es, e.1.size ≤ 1048576 ∧ 1 ≤ e.2 ∧ e.2 ≤ 9) → ReadsE (pre ++ enText es) pre.length es
  | [], pre, _ => .nil (by simp [enText])
  | (s, n) :: es, pre, h => by
    obtain ⟨h1, h2, h3⟩ := h (s, n) (List.mem_cons_self ..)
    simp only at h1 h2 h3
    obtain ⟨k, rfl⟩ : ∃ k : Nat, n = (k : Int) := ⟨n.toNat, by omega⟩
    have e : pre ++ enText ((s, (k : Int)) :: es) = pre ++ putText s ++ (putNum (k : Int) ++ enText es) := by
      unfold enText
      rw [List.flatMap_cons]
      simp
    have e2 : pre ++ putText s ++ (putNum (k : Int) ++ enText es) = (pre ++ putText s) ++ putNum (k : Int) ++ enText es := by simp
    have hT := goodT_mid pre (putNum (k : Int) ++ enText es) s h1
    have hN := good_mid (pre ++ putText s) (enText es) k (by omega)
    have hR := reads_text es (pre ++ putText s ++ putNum (k : Int)) (fun e he => h e (List.mem_cons_of_mem _ he))
    have hl := goodT_next hT
    rw [e]
    refine .cons (by omega) hT ?_ ?_ (r := (pre ++ putText s ++ putNum (k : Int)).length)
    · rw [e2]
      rw [List.length_append] at hN
      rw [List.length_append, List.length_append]
      exact hN
    · rw [e2]
      exact hR
theorem dir_text {A : List EntD} (h : enOk A = true) (hs : SmE A) : dirL (enTextS A) = A ∧ dirOk (enTextS A) = true := by
  have hP : EnP A := by unfold enOk at h; exact @of_decide_eq_true _ (Classical.propDecidable _) h
  refine dir_yes ?_ h
  unfold enTextS
  rw [bytesOf_S (enText_u8 A)]
  have := reads_text A [] (fun e he => by
    obtain ⟨i, hi, rfl⟩ := List.getElem_of_mem he
    have h3 := ((enP_iff _).1 hP).2.2.1 i hi hi
    exact ⟨hs.2 _ he, h3.1.1, h3.1.2⟩)
  simpa using this
theorem text_size {A : List EntD} (h : enOk A = true) : (enTextS A).size ≤ 80 := by
  have hP : EnP A := by unfold enOk at h; exact @of_decide_eq_true _ (Classical.propDecidable _) h
  have e : (enTextS A).size = (enText A).length := by simp [enTextS, baOf, ByteArray.size]
  rw [e]
  exact hP.2

theorem bigE (x : Option Addr) (n cap : Nat) (w : World) : Calls Tryd.prog 5 #[.slice x n cap] w fun e w' => e = .returned (.bool (decide ((1048576 : Int) < (n : Int)))) ∧ w' = w := by
  go_enter Tryd.func5, Tryd.ntmps5
  go_wp2
  go_ret
  exact ⟨rfl, rfl⟩
end Go.Proofs.YtogpgocldgdeaaaDoor
