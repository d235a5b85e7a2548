/-
  For every tree and path the law FnExactTreeNames returns true, and what came in reads behind the call as it read before: no condition.
-/
import Derived.Test.YtmnngfaelanbcaaSTrNamesW
import Derived.Deep.RegionHeld3
import Derived.Test.YtmnngfaelanbcaaRows
import Derived.WalkKit
import Derived.ProofKit
import Derived.OpenShut
import Derived.ShutString
import Derived.ChangeOld
import Derived.Below
namespace Go.Proofs.Ytmnngfaelanbcaa.fnExactTreeNames
open Go.ChangeShapes Go.WideShapes Go.ChangeAt Go.RowKit
open Go.ChangeMaps (open_string shut_string)
set_option linter.unusedVariables false

theorem own : ownKnob Try.prog.godebug = none := by kernel_rfl
theorem laidOut : laidOutB Try.prog = true := by kernel_rfl

set_option maxRecDepth 20000 in
set_option maxHeartbeats 8000000 in
theorem walk (v0 : Value) (l0 : List ItD) (f0 : FitTr l0) (a1 : ByteArray) (w1 : a1.size ≤ maxLen) (w : World) (r0 : RdTr w v0 l0) :
    Calls Try.prog 5 #[v0, .string a1] w fun e w' => e = .returned (.bool true) ∧ Below w.heap.size w w' := by
  obtain ⟨a0, c0, rfl⟩ := r0.lay
  have HR0 : Hid (∀ W, Below w.heap.size w W → RdTr W (.agg #[.slice a0 l0.length c0]) l0) := fun W h => r0.below h (Nat.le_refl _)
  have HF0 : Hid (FitTr l0) := f0
  clear r0 f0
  by_cases hbs1 : 1048576 < a1.size
  · go_enter Try.func5, Try.ntmps5
    go_wp2
    go_ret
    exact ⟨rfl, (below1 _ _)⟩
  have hst1 : a1.size ≤ 1048576 := by omega
  obtain ⟨E0, HE0⟩ : ∃ x, Hid (namesT l0 a1 = x) := ⟨_, rfl⟩
  have HGX0 : Hid (szIt l0 ≤ 1048576 → E0.length ≤ 1048576) := by show _ → E0.length ≤ 1048576; rw [← HE0.out]; exact fun h => Nat.le_trans (namesT_len _ _) (Nat.le_trans (szIt_len _) h)
  have SC : Hid (∀ v0 W, szIt l0 ≤ 1048576 → RdTr W v0 l0 → Calls Try.prog 15 #[v0, .string a1] W fun e w' => ∃ u0, e = .returned (u0) ∧ OwnTx w' W.heap.size w'.heap.size u0 E0 ∧ Below W.heap.size W w') := by
    intro v0 W hs0 hv0
    rw [← HE0.out]
    exact specTreeNames v0 l0 a1 W hs0 hv0
  have IC : Hid (∀ v0 W, szIt l0 ≤ 1048576 → RdTr W v0 l0 → Calls Try.prog 16 #[v0, .string a1] W fun e w' => ∃ u0, e = .returned (u0) ∧ OwnTx w' W.heap.size w'.heap.size u0 E0 ∧ Below W.heap.size W w') := by
    intro v0 W hs0 hv0
    rw [← HE0.out]
    exact implTreeNames v0 l0 a1 W hs0 hst1 hv0
  clear HE0
  go_enter Try.func5, Try.ntmps5
  go_wp2_with fail
  refine (szTrW _ l0 1048576 _ (by omega) (by omega) HF0.out (HR0.out _ (below1 _ _))).mono ?_
  rintro e w1 ⟨s0, rfl, hsz0, s0ge, s0le, hb1⟩
  have hVA0 : Var w1 w.heap.size #[.slice a0 l0.length c0] 24 := (Var.made w _ _).new hb1
  have hz0 : w.heap.size + 1 ≤ w1.heap.size := by have := hb1.size; simpa using this
  have hB0 : Below w.heap.size w w1 := (below1 w _).trans (hb1.mono (by simp))
  by_cases hneg0 : s0 < 0
  · clear hsz0
    go_wp2
    go_ret
    exact ⟨rfl, hB0⟩
  have HS0 : Hid (szIt l0 ≤ 1048576) := by have := hsz0 (by omega); show szIt l0 ≤ 1048576; omega
  clear hsz0 hb1
  have HG0 : Hid (E0.length ≤ 1048576) := HGX0.out HS0.out
  clear HGX0
  have yA00 := hVA0.cell 0
  simp at yA00
  go_wp2_with fail
  refine (toTrW _ l0 _ HS0.out (HR0.out _ hB0)).mono ?_
  rintro e w2 ⟨x2, rfl, ho2, hb2⟩
  clear yA00
  have hz3 : w1.heap.size ≤ w2.heap.size := hb2.size
  have hB3 : Below w.heap.size w w2 := hB0.trans (hb2.mono hB0.size)
  have hVA0_3 : Var w2 w.heap.size #[.slice a0 l0.length c0] 24 := hVA0.new hb2
  clear hB0 hVA0
  clear hb2
  go_wp2_with fail
  refine (SC.out _ _ HS0.out ho2.rd).mono ?_
  rintro e w4 ⟨uW0, rfl, hOW0, hb4⟩
  have hz5 : w2.heap.size ≤ w4.heap.size := hb4.size
  have hB5 : Below w.heap.size w w4 := hB3.trans (hb4.mono hB3.size)
  have hVA0_5 : Var w4 w.heap.size #[.slice a0 l0.length c0] 24 := hVA0_3.new hb4
  clear hB3 hVA0_3
  clear hb4
  clear ho2
  have yA00 := hVA0_5.cell 0
  simp at yA00
  go_wp2_with fail
  refine (toTrW _ l0 _ HS0.out (HR0.out _ hB5)).mono ?_
  rintro e w6 ⟨z0, rfl, hOX0, hb6⟩
  clear yA00
  have hz7 : w4.heap.size ≤ w6.heap.size := hb6.size
  have hB7 : Below w.heap.size w w6 := hB5.trans (hb6.mono hB5.size)
  have hVA0_7 : Var w6 w.heap.size #[.slice a0 l0.length c0] 24 := hVA0_5.new hb6
  have hOW0_7 := hOW0.below hb6
  clear hB5 hVA0_5 hOW0
  clear hb6
  obtain ⟨aX0, cX0, rfl⟩ := hOX0.lay
  have hsz8 : (w6.alloc (.cells #[.slice aX0 l0.length cX0] 29)).heap.size = w6.heap.size + 1 := by simp
  have hz9 : w6.heap.size ≤ (w6.alloc (.cells #[.slice aX0 l0.length cX0] 29)).heap.size := (below1 w6 (.cells #[.slice aX0 l0.length cX0] 29)).size
  have hB9 : Below w.heap.size w (w6.alloc (.cells #[.slice aX0 l0.length cX0] 29)) := hB7.trans ((below1 w6 (.cells #[.slice aX0 l0.length cX0] 29)).mono hB7.size)
  have hVA0_9 : Var (w6.alloc (.cells #[.slice aX0 l0.length cX0] 29)) w.heap.size #[.slice a0 l0.length c0] 24 := hVA0_7.new (below1 w6 (.cells #[.slice aX0 l0.length cX0] 29))
  have hOW0_9 := hOW0_7.below (below1 w6 (.cells #[.slice aX0 l0.length cX0] 29))
  have hOX0_9 := hOX0.below (below1 w6 (.cells #[.slice aX0 l0.length cX0] 29))
  clear hB7 hVA0_7 hOW0_7 hOX0
  have hVX0 : Var (w6.alloc (.cells #[.slice aX0 l0.length cX0] 29)) w6.heap.size #[.slice aX0 l0.length cX0] 29 := Var.made w6 _ _
  have yX00 := hVX0.cell 0
  simp at yX00
  go_wp2_with fail
  refine (IC.out _ _ HS0.out hOX0_9.rd).mono ?_
  rintro e w10 ⟨uG0, rfl, hOG0, hb10⟩
  clear yX00
  have hz11 : (w6.alloc (.cells #[.slice aX0 l0.length cX0] 29)).heap.size ≤ w10.heap.size := hb10.size
  have hB11 : Below w.heap.size w w10 := hB9.trans (hb10.mono hB9.size)
  have hVA0_11 : Var w10 w.heap.size #[.slice a0 l0.length c0] 24 := hVA0_9.new hb10
  have hVX0_11 : Var w10 w6.heap.size #[.slice aX0 l0.length cX0] 29 := hVX0.new hb10
  have hOW0_11 := hOW0_9.below hb10
  have hOX0_11 := hOX0_9.below hb10
  clear hB9 hVA0_9 hVX0 hOW0_9 hOX0_9
  clear hb10
  go_wp2_with fail
  refine (eqTxX _ _ E0 _ (Nat.le_trans HG0.out (by omega)) hOG0.rd hOW0_11.rd).mono ?_
  rintro e w12 ⟨rfl, hb12⟩
  have hz13 : w10.heap.size ≤ w12.heap.size := hb12.size
  have hB13 : Below w.heap.size w w12 := hB11.trans (hb12.mono hB11.size)
  have hVA0_13 : Var w12 w.heap.size #[.slice a0 l0.length c0] 24 := hVA0_11.new hb12
  have hVX0_13 : Var w12 w6.heap.size #[.slice aX0 l0.length cX0] 29 := hVX0_11.new hb12
  have hOW0_13 := hOW0_11.below hb12
  have hOX0_13 := hOX0_11.below hb12
  have hOG0_13 := hOG0.below hb12
  clear hB11 hVA0_11 hVX0_11 hOW0_11 hOX0_11 hOG0
  clear hb12
  have yX00 := hVX0_13.cell 0
  simp at yX00
  have yA00 := hVA0_13.cell 0
  simp at yA00
  have HVX : Hid (Var w12 w6.heap.size #[.slice aX0 l0.length cX0] 29) := hVX0_13
  have HRX : Hid (RdTr w12 (.agg #[.slice aX0 l0.length cX0]) l0) := hOX0_13.rd
  have HVG : Hid (Var w12 w.heap.size #[.slice a0 l0.length c0] 24) := hVA0_13
  have HT6 : Hid (Calls Try.prog 9 #[(.agg #[.slice a0 l0.length c0])] w12.drew fun e w' => ∃ v', e = .returned v' ∧ OwnTr w' w12.heap.size w'.heap.size v' l0 ∧ Below w12.heap.size w12 w') := by
    refine (toTrW _ l0 w12.drew HS0.out (HR0.out _ hB13.drew)).mono ?_
    rintro e w' ⟨v', rfl, h1, h2⟩
    exact ⟨v', rfl, h1, ⟨h2.os, h2.tape, h2.output, h2.size, h2.block⟩⟩
  go_wp2_with fail
  go_region_held3 (fun W => W.cell? ⟨w6.heap.size, 0, none⟩ = some (.slice aX0 l0.length cX0) ∧ W.cell? ⟨w.heap.size, 0, none⟩ = some (.slice a0 l0.length c0)) (go_keep) (first
    | (go_at_call 9
       refine HT6.out.mono ?_
       rintro e w14a ⟨x6, rfl, ho6, hbp⟩
       obtain ⟨hu0, hu1⟩ : w14a.cell? ⟨w6.heap.size, 0, none⟩ = some (.slice aX0 l0.length cX0) ∧ w14a.cell? ⟨w.heap.size, 0, none⟩ = some (.slice a0 l0.length c0) := ⟨(HVX.out.new hbp).cell 0, (HVG.out.new hbp).cell 0⟩
       skip)
    | (go_at_call 11
       refine (eqTrW _ x6 l0 _ (Nat.le_trans (szIt_len _) (Nat.le_trans HS0.out (by omega))) (HRX.out.below hbp (Nat.le_refl _)) ho6.rd).mono ?_
       rintro e w14 ⟨rfl, hbq⟩
       have hbJ : Below w12.heap.size w12 w14 := hbp.trans (hbq.mono hbp.size)
       obtain ⟨hv0, hv1⟩ : w14.cell? ⟨w6.heap.size, 0, none⟩ = some (.slice aX0 l0.length cX0) ∧ w14.cell? ⟨w.heap.size, 0, none⟩ = some (.slice a0 l0.length c0) := ⟨(HVX.out.new hbJ).cell 0, (HVG.out.new hbJ).cell 0⟩
       clear hu0 hu1 ho6 hbp hbq))
  all_goals
    clear HVX HVG HRX HT6 hv0 hv1 yX00 yA00
    have hz15 : w12.heap.size ≤ w14.heap.size := hbJ.size
    have hB15 : Below w.heap.size w w14 := hB13.trans (hbJ.mono hB13.size)
    have hVA0_15 : Var w14 w.heap.size #[.slice a0 l0.length c0] 24 := hVA0_13.new hbJ
    have hVX0_15 : Var w14 w6.heap.size #[.slice aX0 l0.length cX0] 29 := hVX0_13.new hbJ
    have hOW0_15 := hOW0_13.below hbJ
    have hOX0_15 := hOX0_13.below hbJ
    have hOG0_15 := hOG0_13.below hbJ
    clear hB13 hVA0_13 hVX0_13 hOW0_13 hOX0_13 hOG0_13
    clear hbJ
    have hcb0 := (Nat.le_trans (szIt_len l0) HS0.out)
    have hcg0 := HG0.out
    have yX00 := hVX0_15.cell 0
    simp at yX00
    go_wp2_with fail
    refine (markTrW _ _ _ (1) l0 _ (Nat.le_trans (szIt_len _) (Nat.le_trans HS0.out (by omega))) (by omega) (by omega) hOX0_15).mono ?_
    rintro e w16 ⟨rfl, hMX0, hb16⟩
    clear yX00
    have hz17 : w14.heap.size ≤ w16.heap.size := hb16.size
    have hB17 : Below w.heap.size w w16 := hB15.trans (hb16.below hB15.size (fun j hj => by omega))
    have hVA0_17 : Var w16 w.heap.size #[.slice a0 l0.length c0] 24 := hVA0_15.only hb16 (fun hj => by omega)
    have hVX0_17 : Var w16 w6.heap.size #[.slice aX0 l0.length cX0] 29 := hVX0_15.only hb16 (fun hj => by omega)
    have hOW0_17 := hOW0_15.only hb16 (fun j h1 h2 hj => by omega)
    have hOG0_17 := hOG0_15.only hb16 (fun j h1 h2 hj => by omega)
    clear hB15 hVA0_15 hVX0_15 hOW0_15 hOG0_15
    clear hb16 hOX0_15
    have hkq : ¬ ((1 + 4 * l0.length : Nat) : Int) < 0 := by omega
    go_wp2_with fail
    refine (eqTxX _ _ E0 _ (Nat.le_trans HG0.out (by omega)) hOG0_17.rd hOW0_17.rd).mono ?_
    rintro e w18 ⟨rfl, hb18⟩
    have hz19 : w16.heap.size ≤ w18.heap.size := hb18.size
    have hB19 : Below w.heap.size w w18 := hB17.trans (hb18.mono hB17.size)
    have hVA0_19 : Var w18 w.heap.size #[.slice a0 l0.length c0] 24 := hVA0_17.new hb18
    have hVX0_19 : Var w18 w6.heap.size #[.slice aX0 l0.length cX0] 29 := hVX0_17.new hb18
    have hOW0_19 := hOW0_17.below hb18
    have hOX0_19 := hMX0.below hb18
    have hOG0_19 := hOG0_17.below hb18
    clear hB17 hVA0_17 hVX0_17 hOW0_17 hMX0 hOG0_17
    clear hb18
    go_wp2_with fail
    refine (markTxX _ _ _ (1) E0 _ (Nat.le_trans HG0.out (by omega)) (by omega) (by omega) hOG0_19).mono ?_
    rintro e w20 ⟨rfl, hMG0, hb20⟩
    have hz21 : w18.heap.size ≤ w20.heap.size := hb20.size
    have hB21 : Below w.heap.size w w20 := hB19.trans (hb20.below hB19.size (fun j hj => by omega))
    have hVA0_21 : Var w20 w.heap.size #[.slice a0 l0.length c0] 24 := hVA0_19.only hb20 (fun hj => by omega)
    have hVX0_21 : Var w20 w6.heap.size #[.slice aX0 l0.length cX0] 29 := hVX0_19.only hb20 (fun hj => by omega)
    have hOW0_21 := hOW0_19.only hb20 (fun j h1 h2 hj => by omega)
    clear hB19 hVA0_19 hVX0_19 hOW0_19
    clear hb20 hOG0_19
    have hmq : ¬ ((1 + E0.length : Nat) : Int) < 0 := by omega
    go_wp2_with fail
    refine (heldTxX _ _ _ (1) E0 _ (Nat.le_trans HG0.out (by omega)) (by omega) hMG0).mono ?_
    rintro e w22 ⟨rfl, hb22⟩
    have hz23 : w20.heap.size ≤ w22.heap.size := hb22.size
    have hB23 : Below w.heap.size w w22 := hB21.trans (hb22.mono hB21.size)
    have hVA0_23 : Var w22 w.heap.size #[.slice a0 l0.length c0] 24 := hVA0_21.new hb22
    have hVX0_23 : Var w22 w6.heap.size #[.slice aX0 l0.length cX0] 29 := hVX0_21.new hb22
    have hOW0_23 := hOW0_21.below hb22
    have hOG0_23 := hMG0.below hb22
    clear hB21 hVA0_21 hVX0_21 hOW0_21 hMG0
    clear hb22
    have yA00 := hVA0_23.cell 0
    simp at yA00
    go_wp2_with fail
    refine (toTrW _ l0 _ HS0.out (HR0.out _ hB23)).mono ?_
    rintro e w24 ⟨x7, rfl, ho7, hb24⟩
    clear yA00
    have hz25 : w22.heap.size ≤ w24.heap.size := hb24.size
    have hB25 : Below w.heap.size w w24 := hB23.trans (hb24.mono hB23.size)
    have hVA0_25 : Var w24 w.heap.size #[.slice a0 l0.length c0] 24 := hVA0_23.new hb24
    have hVX0_25 : Var w24 w6.heap.size #[.slice aX0 l0.length cX0] 29 := hVX0_23.new hb24
    have hOW0_25 := hOW0_23.below hb24
    have hOG0_25 := hOG0_23.below hb24
    clear hB23 hVA0_23 hVX0_23 hOW0_23 hOG0_23
    clear hb24
    go_wp2_with fail
    refine (IC.out _ _ HS0.out ho7.rd).mono ?_
    rintro e w26 ⟨uH0, rfl, hOH0, hb26⟩
    have hz27 : w24.heap.size ≤ w26.heap.size := hb26.size
    have hB27 : Below w.heap.size w w26 := hB25.trans (hb26.mono hB25.size)
    have hVA0_27 : Var w26 w.heap.size #[.slice a0 l0.length c0] 24 := hVA0_25.new hb26
    have hVX0_27 : Var w26 w6.heap.size #[.slice aX0 l0.length cX0] 29 := hVX0_25.new hb26
    have hOW0_27 := hOW0_25.below hb26
    have hOG0_27 := hOG0_25.below hb26
    clear hB25 hVA0_25 hVX0_25 hOW0_25 hOG0_25
    clear hb26
    clear ho7
    go_wp2_with fail
    refine (eqTxX _ _ E0 _ (Nat.le_trans HG0.out (by omega)) hOH0.rd hOW0_27.rd).mono ?_
    rintro e w28 ⟨rfl, hb28⟩
    have hz29 : w26.heap.size ≤ w28.heap.size := hb28.size
    have hB29 : Below w.heap.size w w28 := hB27.trans (hb28.mono hB27.size)
    have hVA0_29 : Var w28 w.heap.size #[.slice a0 l0.length c0] 24 := hVA0_27.new hb28
    have hVX0_29 : Var w28 w6.heap.size #[.slice aX0 l0.length cX0] 29 := hVX0_27.new hb28
    have hOW0_29 := hOW0_27.below hb28
    have hOG0_29 := hOG0_27.below hb28
    have hOH0_29 := hOH0.below hb28
    clear hB27 hVA0_27 hVX0_27 hOW0_27 hOG0_27 hOH0
    clear hb28
    go_wp2_with fail
    refine (heldTxX _ _ _ (1) E0 _ (Nat.le_trans HG0.out (by omega)) (by omega) hOG0_29).mono ?_
    rintro e w30 ⟨rfl, hb30⟩
    have hz31 : w28.heap.size ≤ w30.heap.size := hb30.size
    have hB31 : Below w.heap.size w w30 := hB29.trans (hb30.mono hB29.size)
    have hVA0_31 : Var w30 w.heap.size #[.slice a0 l0.length c0] 24 := hVA0_29.new hb30
    have hVX0_31 : Var w30 w6.heap.size #[.slice aX0 l0.length cX0] 29 := hVX0_29.new hb30
    have hOW0_31 := hOW0_29.below hb30
    have hOG0_31 := hOG0_29.below hb30
    clear hB29 hVA0_29 hVX0_29 hOW0_29 hOG0_29
    clear hb30
    go_wp2
    go_ret
    exact ⟨rfl, hB31⟩

set_option maxRecDepth 100000 in
theorem lifted (os : Os) (started : os.Started) (H : Type) (enc : TypeId × Value → H) :
    ReturnsInHanded {} Try.checked os 5 .any (Rows.fnExactTreeNamesSpec.pre6 enc Try.prog Try.f5 Rows.fnExactTreeNamesRow.domain false) (Rows.fnExactTreeNamesSpec.post enc Try.prog Try.f5 false true false false) := by
  refine returnsInHanded_of_change (C := Try.checked) own started (by kernel_rfl) Try.func5
    (ChangeSpec.witness6 (enc := enc) (C := Try.checked) false ⟨#[], #[.agg #[.slice none 0 0], .string ByteArray.empty], []⟩ 8 (by kernel_rfl) (by kernel_rfl) (by kernel_rfl) (by kernel_rfl)) ?_
  intro W base args ds gs before hval0 hW hcnd _
  have hval : ∀ (j : Nat) t v, Try.f5.params[j]? = some t → args[j]? = some v → Value.okWide Try.prog W .any base t v := hval0
  have hW' := hW
  obtain ⟨p, q, hA0, hV, rfl, hfz, hnd⟩ := hW
  have hA : DataW.TrodAll enc Try.prog W 0 (fun _ => true) true Try.f5.params.toList args.toList ds p := hA0
  rw [Try.params5] at hA hval
  obtain ⟨v0, vs0, d0, ds0, p0, q0, hargs, rfl, rfl, h0, rr0⟩ := trodAll_cons hA
  obtain ⟨v1, vs1, d1, ds1, p1, q1, rfl, rfl, rfl, h1, rr1⟩ := trodAll_cons rr0
  obtain ⟨rfl, rfl, rfl⟩ := trodAll_nil rr1
  obtain rfl : args = #[v0, v1] := by cases args; simp_all
  obtain ⟨rfl, rfl⟩ := trodVars_none hV
  have k0 := h0
  have lt0 : ∀ x ∈ p0, x.block < W.heap.size := by obtain ⟨m, hm⟩ := k0; exact DataW.trod_lt m _ _ _ hm
  have k1 := h1
  have lt1 : ∀ x ∈ p1, x.block < W.heap.size := by obtain ⟨m, hm⟩ := k1; exact DataW.trod_lt m _ _ _ hm
  obtain ⟨l0, f0, r0⟩ := open_Tree (hval 0 24 v0 rfl rfl) h0
  obtain ⟨a1, rfl, rfl, rfl, w1⟩ := open_string Try.underlying9 (hval 1 9 v1 rfl rfl) h1
  clear hA0 hval0
  refine (walk v0 l0 f0 a1 w1 W r0).mono fun e W' ⟨he, bel⟩ => ?_
  subst he
  exact ⟨_, rfl, _, _, _, [], _, [], hW', trodAll_mk1 (shut_bool Try.underlying4 _), (trodAll_cons_mk (Below.trod laidOut (by kernel_rfl) (of_decide_eq_true (by kernel_rfl)) k0 bel lt0) (trodAll_cons_mk (Below.trod laidOut (by kernel_rfl) (of_decide_eq_true (by kernel_rfl)) k1 bel lt1) trodAll_mk0)), rfl, bel.frame _, fun h => by cases h⟩

theorem over : Rows.fnExactTreeNamesRow.holds Try.pinned (OpenSpec.ofChange Rows.fnExactTreeNamesSpec) :=
  OpenClaim.holds_of_wide 5 Try.f5 rfl rfl rfl rfl rfl rfl rfl ⟨rfl, rfl, rfl, rfl, rfl⟩ rfl rfl rfl rfl rfl (by kernel_rfl) Try.func5 (by kernel_rfl)
    (of_decide_eq_true (by kernel_rfl)) (by unfold Func.isWrapper; first | (rw [if_pos (by decide +kernel)]; kernel_rfl) | (rw [if_neg (by decide +kernel)]; exact ⟨rfl, rfl⟩))
    (fun os started H enc _ => lifted os started H enc)

theorem proved : Rows.FnExactTreeNamesSaid := over
#print axioms proved
end Go.Proofs.Ytmnngfaelanbcaa.fnExactTreeNames
