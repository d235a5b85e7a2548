/-
  For every tree the law FnExactTreeOk returns true, and what came in reads behind the call as it read before: no condition.
-/
import Derived.Test.YtmnngfaelanbcaaSTreeOkW
import Derived.Deep.RegionHeld3
import Derived.Test.YtmnngfaelanbcaaRows
import Derived.WalkKit
import Derived.ProofKit
import Derived.OpenShut
import Derived.ShutString
import Derived.ChangeOld
import Derived.Below
namespace Go.Proofs.Ytmnngfaelanbcaa.fnExactTreeOk
open Go.ChangeShapes Go.WideShapes Go.ChangeAt Go.RowKit
open Go.ChangeMaps (open_string shut_string)
set_option linter.unusedVariables false

theorem own : ownKnob Try.prog.godebug = none := by kernel_rfl
theorem laidOut : laidOutB Try.prog = true := by kernel_rfl

set_option maxRecDepth 20000 in
set_option maxHeartbeats 8000000 in
theorem walk (v0 : Value) (l0 : List ItD) (f0 : FitTr l0) (w : World) (r0 : RdTr w v0 l0) :
    Calls Try.prog 3 #[v0] w fun e w' => e = .returned (.bool true) ∧ Below w.heap.size w w' := by
  obtain ⟨a0, c0, rfl⟩ := r0.lay
  have HR0 : Hid (∀ W, Below w.heap.size w W → RdTr W (.agg #[.slice a0 l0.length c0]) l0) := fun W h => r0.below h (Nat.le_refl _)
  have HF0 : Hid (FitTr l0) := f0
  clear r0 f0
  obtain ⟨E0, HE0⟩ : ∃ x, Hid (treeB l0 = x) := ⟨_, rfl⟩
  have SC : Hid (∀ v0 W, szIt l0 ≤ 1048576 → RdTr W v0 l0 → Calls Try.prog 8 #[v0] W fun e w' => e = .returned (.bool E0) ∧ Below W.heap.size W w') := by
    intro v0 W hs0 hv0
    rw [← HE0.out]
    exact specTreeOk v0 l0 W hs0 hv0
  have IC : Hid (∀ v0 W, szIt l0 ≤ 1048576 → RdTr W v0 l0 → Calls Try.prog 10 #[v0] W fun e w' => e = .returned (.bool E0) ∧ Below W.heap.size W w') := by
    intro v0 W hs0 hv0
    rw [← HE0.out]
    exact implTreeOk v0 l0 W hs0 hv0
  clear HE0
  go_enter Try.func3, Try.ntmps3
  go_wp2_with fail
  refine (szTrW _ l0 1048576 _ (by omega) (by omega) HF0.out (HR0.out _ (below1 _ _))).mono ?_
  rintro e w1 ⟨s0, rfl, hsz0, s0ge, s0le, hb1⟩
  have hVA0 : Var w1 w.heap.size #[.slice a0 l0.length c0] 24 := (Var.made w _ _).new hb1
  have hz0 : w.heap.size + 1 ≤ w1.heap.size := by have := hb1.size; simpa using this
  have hB0 : Below w.heap.size w w1 := (below1 w _).trans (hb1.mono (by simp))
  by_cases hneg0 : s0 < 0
  · clear hsz0
    go_wp2
    go_ret
    exact ⟨rfl, hB0⟩
  have HS0 : Hid (szIt l0 ≤ 1048576) := by have := hsz0 (by omega); show szIt l0 ≤ 1048576; omega
  clear hsz0 hb1
  have yA00 := hVA0.cell 0
  simp at yA00
  go_wp2_with fail
  refine (toTrW _ l0 _ HS0.out (HR0.out _ hB0)).mono ?_
  rintro e w2 ⟨x2, rfl, ho2, hb2⟩
  clear yA00
  have hz3 : w1.heap.size ≤ w2.heap.size := hb2.size
  have hB3 : Below w.heap.size w w2 := hB0.trans (hb2.mono hB0.size)
  have hVA0_3 : Var w2 w.heap.size #[.slice a0 l0.length c0] 24 := hVA0.new hb2
  clear hB0 hVA0
  clear hb2
  go_wp2_with fail
  refine (SC.out _ _ HS0.out ho2.rd).mono ?_
  rintro e w4 ⟨rfl, hb4⟩
  have hz5 : w2.heap.size ≤ w4.heap.size := hb4.size
  have hB5 : Below w.heap.size w w4 := hB3.trans (hb4.mono hB3.size)
  have hVA0_5 : Var w4 w.heap.size #[.slice a0 l0.length c0] 24 := hVA0_3.new hb4
  clear hB3 hVA0_3
  clear hb4
  clear ho2
  have yA00 := hVA0_5.cell 0
  simp at yA00
  go_wp2_with fail
  refine (toTrW _ l0 _ HS0.out (HR0.out _ hB5)).mono ?_
  rintro e w6 ⟨z0, rfl, hOX0, hb6⟩
  clear yA00
  have hz7 : w4.heap.size ≤ w6.heap.size := hb6.size
  have hB7 : Below w.heap.size w w6 := hB5.trans (hb6.mono hB5.size)
  have hVA0_7 : Var w6 w.heap.size #[.slice a0 l0.length c0] 24 := hVA0_5.new hb6
  clear hB5 hVA0_5
  clear hb6
  obtain ⟨aX0, cX0, rfl⟩ := hOX0.lay
  have hsz8 : (w6.alloc (.cells #[.slice aX0 l0.length cX0] 29)).heap.size = w6.heap.size + 1 := by simp
  have hz9 : w6.heap.size ≤ (w6.alloc (.cells #[.slice aX0 l0.length cX0] 29)).heap.size := (below1 w6 (.cells #[.slice aX0 l0.length cX0] 29)).size
  have hB9 : Below w.heap.size w (w6.alloc (.cells #[.slice aX0 l0.length cX0] 29)) := hB7.trans ((below1 w6 (.cells #[.slice aX0 l0.length cX0] 29)).mono hB7.size)
  have hVA0_9 : Var (w6.alloc (.cells #[.slice aX0 l0.length cX0] 29)) w.heap.size #[.slice a0 l0.length c0] 24 := hVA0_7.new (below1 w6 (.cells #[.slice aX0 l0.length cX0] 29))
  have hOX0_9 := hOX0.below (below1 w6 (.cells #[.slice aX0 l0.length cX0] 29))
  clear hB7 hVA0_7 hOX0
  have hVX0 : Var (w6.alloc (.cells #[.slice aX0 l0.length cX0] 29)) w6.heap.size #[.slice aX0 l0.length cX0] 29 := Var.made w6 _ _
  have yX00 := hVX0.cell 0
  simp at yX00
  go_wp2_with fail
  refine (IC.out _ _ HS0.out hOX0_9.rd).mono ?_
  rintro e w10 ⟨rfl, hb10⟩
  clear yX00
  have hz11 : (w6.alloc (.cells #[.slice aX0 l0.length cX0] 29)).heap.size ≤ w10.heap.size := hb10.size
  have hB11 : Below w.heap.size w w10 := hB9.trans (hb10.mono hB9.size)
  have hVA0_11 : Var w10 w.heap.size #[.slice a0 l0.length c0] 24 := hVA0_9.new hb10
  have hVX0_11 : Var w10 w6.heap.size #[.slice aX0 l0.length cX0] 29 := hVX0.new hb10
  have hOX0_11 := hOX0_9.below hb10
  clear hB9 hVA0_9 hVX0 hOX0_9
  clear hb10
  have yX00 := hVX0_11.cell 0
  simp at yX00
  have yA00 := hVA0_11.cell 0
  simp at yA00
  have HVX : Hid (Var w10 w6.heap.size #[.slice aX0 l0.length cX0] 29) := hVX0_11
  have HRX : Hid (RdTr w10 (.agg #[.slice aX0 l0.length cX0]) l0) := hOX0_11.rd
  have HVG : Hid (Var w10 w.heap.size #[.slice a0 l0.length c0] 24) := hVA0_11
  have HT6 : Hid (Calls Try.prog 9 #[(.agg #[.slice a0 l0.length c0])] w10.drew fun e w' => ∃ v', e = .returned v' ∧ OwnTr w' w10.heap.size w'.heap.size v' l0 ∧ Below w10.heap.size w10 w') := by
    refine (toTrW _ l0 w10.drew HS0.out (HR0.out _ hB11.drew)).mono ?_
    rintro e w' ⟨v', rfl, h1, h2⟩
    exact ⟨v', rfl, h1, ⟨h2.os, h2.tape, h2.output, h2.size, h2.block⟩⟩
  go_wp2_with fail
  go_region_held3 (fun W => W.cell? ⟨w6.heap.size, 0, none⟩ = some (.slice aX0 l0.length cX0) ∧ W.cell? ⟨w.heap.size, 0, none⟩ = some (.slice a0 l0.length c0)) (go_keep) (first
    | (go_at_call 9
       refine HT6.out.mono ?_
       rintro e w12a ⟨x6, rfl, ho6, hbp⟩
       obtain ⟨hu0, hu1⟩ : w12a.cell? ⟨w6.heap.size, 0, none⟩ = some (.slice aX0 l0.length cX0) ∧ w12a.cell? ⟨w.heap.size, 0, none⟩ = some (.slice a0 l0.length c0) := ⟨(HVX.out.new hbp).cell 0, (HVG.out.new hbp).cell 0⟩
       skip)
    | (go_at_call 11
       refine (eqTrW _ x6 l0 _ (Nat.le_trans (szIt_len _) (Nat.le_trans HS0.out (by omega))) (HRX.out.below hbp (Nat.le_refl _)) ho6.rd).mono ?_
       rintro e w12 ⟨rfl, hbq⟩
       have hbJ : Below w10.heap.size w10 w12 := hbp.trans (hbq.mono hbp.size)
       obtain ⟨hv0, hv1⟩ : w12.cell? ⟨w6.heap.size, 0, none⟩ = some (.slice aX0 l0.length cX0) ∧ w12.cell? ⟨w.heap.size, 0, none⟩ = some (.slice a0 l0.length c0) := ⟨(HVX.out.new hbJ).cell 0, (HVG.out.new hbJ).cell 0⟩
       clear hu0 hu1 ho6 hbp hbq))
  all_goals
    clear HVX HVG HRX HT6 hv0 hv1 yX00 yA00
    have hz13 : w10.heap.size ≤ w12.heap.size := hbJ.size
    have hB13 : Below w.heap.size w w12 := hB11.trans (hbJ.mono hB11.size)
    have hVA0_13 : Var w12 w.heap.size #[.slice a0 l0.length c0] 24 := hVA0_11.new hbJ
    have hVX0_13 : Var w12 w6.heap.size #[.slice aX0 l0.length cX0] 29 := hVX0_11.new hbJ
    have hOX0_13 := hOX0_11.below hbJ
    clear hB11 hVA0_11 hVX0_11 hOX0_11
    clear hbJ
    have hcb0 := (Nat.le_trans (szIt_len l0) HS0.out)
    go_wp2
    go_ret
    exact ⟨rfl, hB13⟩

set_option maxRecDepth 100000 in
theorem lifted (os : Os) (started : os.Started) (H : Type) (enc : TypeId × Value → H) :
    ReturnsInHanded {} Try.checked os 3 .any (Rows.fnExactTreeOkSpec.pre6 enc Try.prog Try.f3 Rows.fnExactTreeOkRow.domain false) (Rows.fnExactTreeOkSpec.post enc Try.prog Try.f3 false true false false) := by
  refine returnsInHanded_of_change (C := Try.checked) own started (by kernel_rfl) Try.func3
    (ChangeSpec.witness6 (enc := enc) (C := Try.checked) false ⟨#[], #[.agg #[.slice none 0 0]], []⟩ 8 (by kernel_rfl) (by kernel_rfl) (by kernel_rfl) (by kernel_rfl)) ?_
  intro W base args ds gs before hval0 hW hcnd _
  have hval : ∀ (j : Nat) t v, Try.f3.params[j]? = some t → args[j]? = some v → Value.okWide Try.prog W .any base t v := hval0
  have hW' := hW
  obtain ⟨p, q, hA0, hV, rfl, hfz, hnd⟩ := hW
  have hA : DataW.TrodAll enc Try.prog W 0 (fun _ => true) true Try.f3.params.toList args.toList ds p := hA0
  rw [Try.params3] at hA hval
  obtain ⟨v0, vs0, d0, ds0, p0, q0, hargs, rfl, rfl, h0, rr0⟩ := trodAll_cons hA
  obtain ⟨rfl, rfl, rfl⟩ := trodAll_nil rr0
  obtain rfl : args = #[v0] := by cases args; simp_all
  obtain ⟨rfl, rfl⟩ := trodVars_none hV
  have k0 := h0
  have lt0 : ∀ x ∈ p0, x.block < W.heap.size := by obtain ⟨m, hm⟩ := k0; exact DataW.trod_lt m _ _ _ hm
  obtain ⟨l0, f0, r0⟩ := open_Tree (hval 0 24 v0 rfl rfl) h0
  clear hA0 hval0
  refine (walk v0 l0 f0 W r0).mono fun e W' ⟨he, bel⟩ => ?_
  subst he
  exact ⟨_, rfl, _, _, _, [], _, [], hW', trodAll_mk1 (shut_bool Try.underlying4 _), (trodAll_cons_mk (Below.trod laidOut (by kernel_rfl) (of_decide_eq_true (by kernel_rfl)) k0 bel lt0) trodAll_mk0), rfl, bel.frame _, fun h => by cases h⟩

theorem over : Rows.fnExactTreeOkRow.holds Try.pinned (OpenSpec.ofChange Rows.fnExactTreeOkSpec) :=
  OpenClaim.holds_of_wide 3 Try.f3 rfl rfl rfl rfl rfl rfl rfl ⟨rfl, rfl, rfl, rfl, rfl⟩ rfl rfl rfl rfl rfl (by kernel_rfl) Try.func3 (by kernel_rfl)
    (of_decide_eq_true (by kernel_rfl)) (by unfold Func.isWrapper; first | (rw [if_pos (by decide +kernel)]; kernel_rfl) | (rw [if_neg (by decide +kernel)]; exact ⟨rfl, rfl⟩))
    (fun os started H enc _ => lifted os started H enc)

theorem proved : Rows.FnExactTreeOkSaid := over
#print axioms proved
end Go.Proofs.Ytmnngfaelanbcaa.fnExactTreeOk
