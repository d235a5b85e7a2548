/-
  Own text: the path above, and the last name, the program's and the other one's.
-/
import Derived.Test.YtmnngfaelanbcaaPathOfW
namespace Go.Proofs.Ytmnngfaelanbcaa
open Go.RowKit

def abv (p : List UInt8) : List UInt8 := if ptOk p = true then ptOf (nms p).dropLast else []
def lst (p : List UInt8) : List UInt8 := (nms p).getLast?.getD []
theorem abv_not {p : List UInt8} (h : ptOk p = false) : abv p = [] := by simp [abv, h]
theorem abv_ok {s : ByteArray} (h : ptOk (bt s) = true) : abv (bt s) = ptOf ((nmT s).dropLast.map bt) := by
  rw [abv, if_pos h, ← nmT_bt, List.map_dropLast]
theorem lst_none {s : ByteArray} (h : (nmT s).length = 0) : lst (bt s) = [] := by
  unfold lst
  rw [← nmT_bt, List.eq_nil_of_length_eq_zero h]; rfl
theorem lst_some {s : ByteArray} (h : 0 < (nmT s).length) : tx (lst (bt s)) = (nmT s)[(nmT s).length - 1] := by
  unfold lst
  have hn : (nms (bt s)).length = (nmT s).length := (nmT_len s).symm
  rw [List.getLast?_eq_getElem?]
  simp only [nmT, List.getElem_map, List.length_map]
  rw [List.getElem?_eq_getElem (by omega)]
  rfl
theorem RdS.dropLast {w : World} {a : Option Addr} {l : List ByteArray} (h : RdS w a l) : RdS w a l.dropLast := by
  rcases h with rfl | ⟨b, off, ha, hlt, hc⟩
  · exact .inl rfl
  · refine .inr ⟨b, off, ha, hlt, fun i hi => ?_⟩
    rw [List.getElem_dropLast]
    exact hc i (by rw [List.length_dropLast] at hi; omega)
theorem szL_small {l : List ByteArray} (h4 : l.length ≤ 4) (h : (l.map bt).all nmOk = true) : szL l ≤ 28 := by
  have := join_len h
  unfold szL
  simp at this
  omega
theorem nmT_small (s : ByteArray) : szL (nmT s).dropLast ≤ 28 := by
  refine szL_small (by have := nmT_le s; simp; omega) ?_
  rw [List.map_dropLast, nmT_bt, List.all_eq_true]
  intro y hy
  exact List.all_eq_true.1 (nms_all (bt s)).2 y (List.dropLast_subset _ hy)

set_option maxRecDepth 20000 in
set_option maxHeartbeats 400000 in
theorem implAbove (s : ByteArray) (w : World) (hs : s.size ≤ 4194304) :
    Calls Try.prog 36 #[.string s] w fun e w' => e = .returned (.string (tx (abv (bt s)))) ∧ Below w.heap.size w w' := by
  cases hp : ptOk (bt s) with
  | false =>
    have HF : Hid (abv (bt s) = []) := abv_not hp
    go_enter Try.func36, Try.ntmps36
    go_wp2_with (go_at_call 51; refine (implPath _ _ hs).mono ?_; rintro e w1 ⟨rfl, hb1⟩; rw [hp])
    go_ret
    exact ⟨by rw [HF.out]; rfl, hb1⟩
  | true =>
    have HE : Hid (abv (bt s) = ptOf ((nmT s).dropLast.map bt)) := abv_ok hp
    have hle := nmT_le s
    go_enter Try.func36, Try.ntmps36
    go_wp2_with (go_at_call 51; refine (implPath _ _ hs).mono ?_; rintro e w1 ⟨rfl, hb1⟩; rw [hp])
    go_wp2_with fail
    refine (implNames _ _ hs).mono ?_
    rintro e w2 ⟨v2, rfl, ho2, hb2⟩
    obtain ⟨a, cap, rfl, _, hr2⟩ := own_rdS ho2
    have hcap := own_cap ho2
    have HR : Hid (RdS w2 a (nmT s)) := hr2
    have hb12 : Below w.heap.size w w2 := hb1.trans (hb2.mono hb1.size)
    clear ho2 hr2 hb1 hb2
    have HCL : Hid (∀ A C, RdS w2 A (nmT s).dropLast → Calls Try.prog 53 #[.slice A ((nmT s).length - 1) C] w2 fun e w' => e = .returned (.string (tx (abv (bt s)))) ∧ Below w2.heap.size w2 w') := by
      intro A C h
      have := implPathOf A C (nmT s).dropLast w2 (by simp; omega) h
      rw [List.length_dropLast] at this
      rw [HE.out]
      exact this
    have HR' : Hid (RdS w2 a (nmT s).dropLast) := HR.out.dropLast
    clear HR HE
    have HZ : Hid ((nmT s).length = 0 → ∀ A C, Calls Try.prog 53 #[.slice A 0 C] w2 fun e w' => e = .returned (.string (tx (abv (bt s)))) ∧ Below w2.heap.size w2 w') := fun h A C => by
      have := HCL.out A C (by rw [List.eq_nil_of_length_eq_zero h]; exact .inl rfl)
      rw [h] at this
      exact this
    generalize (nmT s).dropLast = d at *
    generalize (nmT s).length = n at *
    by_cases hn : n = 0
    · subst hn
      go_wp2_with fail
      all_goals
        refine (HZ.out (by trivial) _ _).mono ?_
        rintro e w3 ⟨rfl, hb3⟩
        go_wp2
        go_ret
        exact ⟨rfl, hb12.trans (hb3.mono hb12.size)⟩
    · have h1 : (1 : Int) ≤ (n : Int) := by omega
      have hmx : max ((n : Int) - 1) 0 = (n : Int) - 1 := by omega
      go_wp2_with fail
      refine (HCL.out _ _ HR'.out).mono ?_
      rintro e w3 ⟨rfl, hb3⟩
      go_wp2
      go_ret
      exact ⟨rfl, hb12.trans (hb3.mono hb12.size)⟩

set_option maxRecDepth 20000 in
set_option maxHeartbeats 400000 in
theorem specAbove (s : ByteArray) (w : World) (hs : s.size ≤ 4194304) :
    Calls Try.prog 26 #[.string s] w fun e w' => e = .returned (.string (tx (abv (bt s)))) ∧ Below w.heap.size w w' := by
  have hle := nmT_le s
  cases hp : ptOk (bt s) with
  | false =>
    have HF : Hid (abv (bt s) = []) := abv_not hp
    go_enter Try.func26, Try.ntmps26
    go_wp2_with fail
    refine (specNames _ _ hs).mono ?_
    rintro e w1 ⟨v1, rfl, ho1, hb1⟩
    clear ho1
    go_wp2_with (go_at_call 24; refine (specPath _ _ hs).mono ?_; rintro e w2 ⟨rfl, hb2⟩; rw [hp])
    go_ret
    exact ⟨by rw [HF.out]; rfl, hb1.trans (hb2.mono hb1.size)⟩
  | true =>
    have HE : Hid (abv (bt s) = ptOf ((nmT s).dropLast.map bt)) := abv_ok hp
    have HSM : Hid (szL (nmT s).dropLast ≤ 28) := nmT_small s
    go_enter Try.func26, Try.ntmps26
    go_wp2_with fail
    refine (specNames _ _ hs).mono ?_
    rintro e w1 ⟨v1, rfl, ho1, hb1⟩
    obtain ⟨a, cap, rfl, _, hr1⟩ := own_rdS ho1
    have hcap := own_cap ho1
    have HCL : Hid (∀ w2, Below w1.heap.size w1 w2 → Calls Try.prog 44 #[.slice a ((nmT s).length - 1) cap] w2 fun e w' => e = .returned (.string (tx (abv (bt s)))) ∧ Below w2.heap.size w2 w') := by
      intro w2 hb2
      have := specPathOf a cap (nmT s).dropLast w2 (by simp; omega) (by have := HSM.out; omega) ((hr1.below hb2 (Nat.le_refl _)).dropLast)
      rw [List.length_dropLast] at this
      rw [HE.out]
      exact this
    have HZ : Hid ((nmT s).length = 0 → abv (bt s) = [47]) := fun h => by
      rw [HE.out, List.eq_nil_of_length_eq_zero h]; exact ptOf_nil
    clear HSM HE hr1 ho1
    generalize (nmT s).length = n at *
    by_cases hn : n = 0
    · subst hn
      have HZ' : Hid (abv (bt s) = [47]) := HZ.out rfl
      clear HZ
      go_wp2_with (go_at_call 24; refine (specPath _ _ hs).mono ?_; rintro e w2 ⟨rfl, hb2⟩; rw [hp])
      go_ret
      exact ⟨by rw [HZ'.out]; rfl, hb1.trans (hb2.mono hb1.size)⟩
    · have h1 : (1 : Int) ≤ (n : Int) := by omega
      have h0 : ¬ (n : Int) = 0 := by omega
      go_wp2_with (go_at_call 24; refine (specPath _ _ hs).mono ?_; rintro e w2 ⟨rfl, hb2⟩; rw [hp])
      go_wp2_with fail
      refine (HCL.out _ hb2).mono ?_
      rintro e w3 ⟨rfl, hb3⟩
      have hb12 : Below w.heap.size w w2 := hb1.trans (hb2.mono hb1.size)
      go_wp2
      go_ret
      exact ⟨rfl, hb12.trans (hb3.mono hb12.size)⟩

set_option maxRecDepth 20000 in
set_option maxHeartbeats 400000 in
theorem implLast (s : ByteArray) (w : World) (hs : s.size ≤ 4194304) :
    Calls Try.prog 37 #[.string s] w fun e w' => e = .returned (.string (tx (lst (bt s)))) ∧ Below w.heap.size w w' := by
  have hle := nmT_le s
  have HZ : Hid ((nmT s).length = 0 → lst (bt s) = []) := lst_none
  have HS : Hid (∀ h : 0 < (nmT s).length, tx (lst (bt s)) = (nmT s)[(nmT s).length - 1]) := lst_some
  go_enter Try.func37, Try.ntmps37
  go_wp2_with fail
  refine (implNames _ _ hs).mono ?_
  rintro e w1 ⟨v1, rfl, ho1, hb1⟩
  obtain ⟨a, cap, rfl, _, hr1⟩ := own_rdS ho1
  clear ho1
  by_cases hn : (nmT s).length = 0
  · rw [hn]
    go_wp2
    go_ret
    exact ⟨by rw [HZ.out hn]; rfl, hb1⟩
  · obtain ⟨b, off, rfl, _, hc⟩ := hr1.cellS ((nmT s).length - 1) (by omega)
    rw [← HS.out (by omega)] at hc
    clear hr1 HS HZ
    generalize (nmT s).length = n at *
    generalize hz : tx (lst (bt s)) = z at *
    have HX : Hid (tx (lst (bt s)) = z) := hz
    clear hz
    have h1 : (1 : Int) ≤ (n : Int) := by omega
    have h0 : ¬ (n : Int) = 0 := by omega
    go_wp2
    go_ret
    exact ⟨by rw [HX.out]; rfl, hb1⟩

set_option maxRecDepth 20000 in
set_option maxHeartbeats 400000 in
theorem specLast (s : ByteArray) (w : World) (hs : s.size ≤ 4194304) :
    Calls Try.prog 34 #[.string s] w fun e w' => e = .returned (.string (tx (lst (bt s)))) ∧ Below w.heap.size w w' := by
  have hle := nmT_le s
  have HZ : Hid ((nmT s).length = 0 → lst (bt s) = []) := lst_none
  have HS : Hid (∀ h : 0 < (nmT s).length, tx (lst (bt s)) = (nmT s)[(nmT s).length - 1]) := lst_some
  go_enter Try.func34, Try.ntmps34
  go_wp2_with fail
  refine (specNames _ _ hs).mono ?_
  rintro e w1 ⟨v1, rfl, ho1, hb1⟩
  obtain ⟨a, cap, rfl, _, hr1⟩ := own_rdS ho1
  clear ho1
  by_cases hn : (nmT s).length = 0
  · rw [hn]
    go_wp2
    go_ret
    exact ⟨by rw [HZ.out hn]; rfl, hb1⟩
  · obtain ⟨b, off, rfl, _, hc⟩ := hr1.cellS ((nmT s).length - 1) (by omega)
    rw [← HS.out (by omega)] at hc
    clear hr1 HS HZ
    generalize (nmT s).length = n at *
    generalize hz : tx (lst (bt s)) = z at *
    have HX : Hid (tx (lst (bt s)) = z) := hz
    clear hz
    have h1 : (1 : Int) ≤ (n : Int) := by omega
    have h0 : ¬ (n : Int) = 0 := by omega
    go_wp2
    go_ret
    exact ⟨by rw [HX.out]; rfl, hb1⟩
end Go.Proofs.Ytmnngfaelanbcaa
