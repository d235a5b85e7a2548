/-
  For every branch and number the law FnExactNodeRead returns true, and what came in reads behind the call as it read before: no condition.
-/
import Derived.Test.YtioecnfgliponaaFsX
import Derived.Test.YtioecnfgliponaaSDataW
import Derived.Test.YtioecnfgliponaaIReadW
import Derived.Deep.RegionHeld3
import Derived.Test.YtioecnfgliponaaRows
import Derived.WalkKit
import Derived.ProofKit
import Derived.OpenShut
import Derived.ShutString
import Derived.ChangeOld
import Derived.Below
namespace Go.Proofs.Ytioecnfgliponaa.fnExactNodeRead
open Go.ChangeShapes Go.WideShapes Go.ChangeAt Go.RowKit
open Go.ChangeMaps (open_string shut_string)
set_option linter.unusedVariables false

theorem own : ownKnob Try.prog.godebug = none := by kernel_rfl
theorem laidOut : laidOutB Try.prog = true := by kernel_rfl

set_option maxRecDepth 20000 in
set_option maxHeartbeats 4000000 in
theorem walk (v0 : Value) (F0 : FsD) (f0 : FitF F0) (a1 : Int) (w1 : (Lit.int .i64 a1).wf = true) (w : World) (r0 : RdFs w v0 F0) :
    Calls Try.prog 3 #[v0, .int .i64 a1] w fun e w' => e = .returned (.bool true) ∧ Below w.heap.size w w' := by
  obtain ⟨a0, c0, b0, e0, rfl⟩ := r0.lay
  have HR0 : Hid (∀ W, Below w.heap.size w W → RdFs W (.agg #[.slice a0 F0.ns.length c0, .slice b0 F0.ds.length e0]) F0) := fun W h => r0.below h (Nat.le_refl _)
  have HF0 : Hid (FitF F0) := f0
  clear r0 f0
  obtain ⟨Q, HQ⟩ : ∃ x, Hid (ndRead F0 a1 = x) := ⟨_, rfl⟩
  obtain ⟨R, HR⟩ : ∃ x, Hid (usB F0 a1 = x) := ⟨_, rfl⟩
  have SC : Hid (∀ v0 W, SmF F0 → RdFs W v0 F0 → Calls Try.prog 8 #[v0, .int .i64 a1] W fun e w' => e = .returned (.tuple #[.string Q, .bool R]) ∧ Below W.heap.size W w') := by
    intro v0 W hs0 hv0
    rw [← HQ.out, ← HR.out]
    exact specNodeRead v0 F0 a1 W hs0 hv0
  have IC : Hid (∀ v0 W, SmF F0 → RdFs W v0 F0 → Calls Try.prog 10 #[v0, .int .i64 a1] W fun e w' => e = .returned (.tuple #[.string Q, .bool R]) ∧ Below W.heap.size W w') := by
    intro v0 W hs0 hv0
    rw [← HQ.out, ← HR.out]
    exact implNodeRead v0 F0 a1 W hs0 hv0
  go_enter Try.func3, Try.ntmps3
  go_wp2_with fail
  refine (szFsW _ F0 1048576 _ (by omega) (by omega) HF0.out (HR0.out _ (below1 _ _))).mono ?_
  rintro e w1 ⟨s0, rfl, hsz0, s0ge, s0le, hb1⟩
  have hVA0 : Var w1 w.heap.size #[.slice a0 F0.ns.length c0, .slice b0 F0.ds.length e0] 25 := (Var.made w _ _).new hb1
  have hB1 : Below w.heap.size w w1 := (below1 w _).trans (hb1.mono (by simp))
  by_cases hneg0 : s0 < 0
  · clear hsz0
    go_wp2
    go_ret
    exact ⟨rfl, hB1⟩
  have HS0 : Hid (SmF F0) := by have := hsz0 (by omega); exact smF_sz (by omega)
  clear hsz0 hb1
  have yA00 := hVA0.cell 0
  have yA01 := hVA0.cell 1
  simp at yA00 yA01
  go_wp2_with fail
  refine (toFsX _ F0 _ HS0.out (HR0.out _ hB1)).mono ?_
  rintro e w2 ⟨x2, rfl, ho2, hb2⟩
  clear yA00 yA01
  have hB2 : Below w.heap.size w w2 := hB1.trans (hb2.mono hB1.size)
  have hVA0_2 : Var w2 w.heap.size #[.slice a0 F0.ns.length c0, .slice b0 F0.ds.length e0] 25 := hVA0.new hb2
  clear hB1 hVA0
  clear hb2
  go_wp2_with fail
  refine (SC.out _ _ HS0.out ho2.rd).mono ?_
  rintro e w3 ⟨rfl, hb3⟩
  have hB3 : Below w.heap.size w w3 := hB2.trans (hb3.mono hB2.size)
  have hVA0_3 : Var w3 w.heap.size #[.slice a0 F0.ns.length c0, .slice b0 F0.ds.length e0] 25 := hVA0_2.new hb3
  clear hB2 hVA0_2
  clear hb3 ho2
  have yA00 := hVA0_3.cell 0
  have yA01 := hVA0_3.cell 1
  simp at yA00 yA01
  go_wp2_with fail
  refine (toFsX _ F0 _ HS0.out (HR0.out _ hB3)).mono ?_
  rintro e w4 ⟨z0, rfl, hox0, hb4⟩
  clear yA00 yA01
  have hB4 : Below w.heap.size w w4 := hB3.trans (hb4.mono hB3.size)
  have hVA0_4 : Var w4 w.heap.size #[.slice a0 F0.ns.length c0, .slice b0 F0.ds.length e0] 25 := hVA0_3.new hb4
  clear hB3 hVA0_3
  clear hb4
  obtain ⟨aX0, cX0, bX0, eX0, rfl⟩ := hox0.lay
  have hB4a : Below w.heap.size w (w4.alloc (.cells #[.slice aX0 F0.ns.length cX0, .slice bX0 F0.ds.length eX0] 31)) := hB4.trans ((below1 w4 (.cells #[.slice aX0 F0.ns.length cX0, .slice bX0 F0.ds.length eX0] 31)).mono hB4.size)
  have hVA0_4a : Var (w4.alloc (.cells #[.slice aX0 F0.ns.length cX0, .slice bX0 F0.ds.length eX0] 31)) w.heap.size #[.slice a0 F0.ns.length c0, .slice b0 F0.ds.length e0] 25 := hVA0_4.new (below1 w4 (.cells #[.slice aX0 F0.ns.length cX0, .slice bX0 F0.ds.length eX0] 31))
  have hOX0_4a := hox0.below (below1 w4 (.cells #[.slice aX0 F0.ns.length cX0, .slice bX0 F0.ds.length eX0] 31))
  clear hB4 hVA0_4 hox0
  have hVX0 : Var (w4.alloc (.cells #[.slice aX0 F0.ns.length cX0, .slice bX0 F0.ds.length eX0] 31)) w4.heap.size #[.slice aX0 F0.ns.length cX0, .slice bX0 F0.ds.length eX0] 31 := Var.made w4 _ _
  have yX00 := hVX0.cell 0
  have yX01 := hVX0.cell 1
  simp at yX00 yX01
  go_wp2_with fail
  refine (IC.out _ _ HS0.out hOX0_4a.rd).mono ?_
  rintro e w5 ⟨rfl, hb5⟩
  clear yX00 yX01
  have hB5 : Below w.heap.size w w5 := hB4a.trans (hb5.mono hB4a.size)
  have hVA0_5 : Var w5 w.heap.size #[.slice a0 F0.ns.length c0, .slice b0 F0.ds.length e0] 25 := hVA0_4a.new hb5
  have hVX0_5 : Var w5 w4.heap.size #[.slice aX0 F0.ns.length cX0, .slice bX0 F0.ds.length eX0] 31 := hVX0.new hb5
  have hOX0_5 := hOX0_4a.below hb5
  clear hB4a hVA0_4a hVX0 hOX0_4a
  clear hb5
  have yX00 := hVX0_5.cell 0
  have yX01 := hVX0_5.cell 1
  simp at yX00 yX01
  have yA00 := hVA0_5.cell 0
  have yA01 := hVA0_5.cell 1
  simp at yA00 yA01
  have HVX : Hid (Var w5 w4.heap.size #[.slice aX0 F0.ns.length cX0, .slice bX0 F0.ds.length eX0] 31) := hVX0_5
  have HRX : Hid (RdFs w5 (.agg #[.slice aX0 F0.ns.length cX0, .slice bX0 F0.ds.length eX0]) F0) := hOX0_5.rd
  have HVG : Hid (Var w5 w.heap.size #[.slice a0 F0.ns.length c0, .slice b0 F0.ds.length e0] 25) := hVA0_5
  have HT6 : Hid (Calls Try.prog 9 #[(.agg #[.slice a0 F0.ns.length c0, .slice b0 F0.ds.length e0])] w5.drew fun e w' => ∃ v', e = .returned v' ∧ OwnF w' w5.heap.size v' F0 ∧ Below w5.heap.size w5 w') := by
    refine (toFsX _ F0 w5.drew HS0.out (HR0.out _ hB5.drew)).mono ?_
    rintro e w' ⟨v', rfl, h1, h2⟩
    exact ⟨v', rfl, h1, ⟨h2.os, h2.tape, h2.output, h2.size, h2.block⟩⟩
  go_wp2_with fail
  go_region_held3 (fun W => W.cell? ⟨w4.heap.size, 0, none⟩ = some (.slice aX0 F0.ns.length cX0) ∧ W.cell? ⟨w4.heap.size, 1, none⟩ = some (.slice bX0 F0.ds.length eX0) ∧ W.cell? ⟨w.heap.size, 0, none⟩ = some (.slice a0 F0.ns.length c0) ∧ W.cell? ⟨w.heap.size, 1, none⟩ = some (.slice b0 F0.ds.length e0)) (go_keep) (first
    | (go_at_call 9
       refine HT6.out.mono ?_
       rintro e w6 ⟨x6, rfl, ho6, hb6⟩
       obtain ⟨hu0, hu1, hu2, hu3⟩ : w6.cell? ⟨w4.heap.size, 0, none⟩ = some (.slice aX0 F0.ns.length cX0) ∧ w6.cell? ⟨w4.heap.size, 1, none⟩ = some (.slice bX0 F0.ds.length eX0) ∧ w6.cell? ⟨w.heap.size, 0, none⟩ = some (.slice a0 F0.ns.length c0) ∧ w6.cell? ⟨w.heap.size, 1, none⟩ = some (.slice b0 F0.ds.length e0) := ⟨(HVX.out.new hb6).cell 0, (HVX.out.new hb6).cell 1, (HVG.out.new hb6).cell 0, (HVG.out.new hb6).cell 1⟩
       skip)
    | (go_at_call 11
       refine (eqFsW _ x6 F0 _ HS0.out (HRX.out.below hb6 (Nat.le_refl _)) ho6.rd).mono ?_
       rintro e w7 ⟨rfl, hb7⟩
       have hbJ : Below w5.heap.size w5 w7 := hb6.trans (hb7.mono hb6.size)
       obtain ⟨hv0, hv1, hv2, hv3⟩ : w7.cell? ⟨w4.heap.size, 0, none⟩ = some (.slice aX0 F0.ns.length cX0) ∧ w7.cell? ⟨w4.heap.size, 1, none⟩ = some (.slice bX0 F0.ds.length eX0) ∧ w7.cell? ⟨w.heap.size, 0, none⟩ = some (.slice a0 F0.ns.length c0) ∧ w7.cell? ⟨w.heap.size, 1, none⟩ = some (.slice b0 F0.ds.length e0) := ⟨(HVX.out.new hbJ).cell 0, (HVX.out.new hbJ).cell 1, (HVG.out.new hbJ).cell 0, (HVG.out.new hbJ).cell 1⟩
       clear hu0 hu1 hu2 hu3 ho6 hb6 hb7))
  all_goals
    clear HVX HVG HRX HT6 hv0 hv1 hv2 hv3 yX00 yX01 yA00 yA01
    have hB7 : Below w.heap.size w w7 := hB5.trans (hbJ.mono hB5.size)
    have hVA0_7 : Var w7 w.heap.size #[.slice a0 F0.ns.length c0, .slice b0 F0.ds.length e0] 25 := hVA0_5.new hbJ
    have hVX0_7 : Var w7 w4.heap.size #[.slice aX0 F0.ns.length cX0, .slice bX0 F0.ds.length eX0] 31 := hVX0_5.new hbJ
    have hOX0_7 := hOX0_5.below hbJ
    clear hB5 hVA0_5 hVX0_5 hOX0_5
    clear hbJ
    go_wp2
    go_ret
    exact ⟨rfl, hB7⟩

set_option maxRecDepth 100000 in
theorem lifted (os : Os) (started : os.Started) (H : Type) (enc : TypeId × Value → H) :
    ReturnsInHanded {} Try.checked os 3 .any (Rows.fnExactNodeReadSpec.pre6 enc Try.prog Try.f3 Rows.fnExactNodeReadRow.domain false) (Rows.fnExactNodeReadSpec.post enc Try.prog Try.f3 false true false false) := by
  refine returnsInHanded_of_change (C := Try.checked) own started (by kernel_rfl) Try.func3
    (ChangeSpec.witness6 (enc := enc) (C := Try.checked) false ⟨#[], #[.agg #[.slice none 0 0, .slice none 0 0], .int .i64 0], []⟩ 8 (by kernel_rfl) (by kernel_rfl) (by kernel_rfl) (by kernel_rfl)) ?_
  intro W base args ds gs before hval0 hW hcnd _
  have hval : ∀ (j : Nat) t v, Try.f3.params[j]? = some t → args[j]? = some v → Value.okWide Try.prog W .any base t v := hval0
  have hW' := hW
  obtain ⟨p, q, hA0, hV, rfl, hfz, hnd⟩ := hW
  have hA : DataW.TrodAll enc Try.prog W 0 (fun _ => true) true Try.f3.params.toList args.toList ds p := hA0
  rw [Try.params3] at hA hval
  obtain ⟨v0, vs0, d0, ds0, p0, q0, hargs, rfl, rfl, h0, rr0⟩ := trodAll_cons hA
  obtain ⟨v1, vs1, d1, ds1, p1, q1, rfl, rfl, rfl, h1, rr1⟩ := trodAll_cons rr0
  obtain ⟨rfl, rfl, rfl⟩ := trodAll_nil rr1
  obtain rfl : args = #[v0, v1] := by cases args; simp_all
  obtain ⟨rfl, rfl⟩ := trodVars_none hV
  have k0 := h0
  have lt0 : ∀ x ∈ p0, x.block < W.heap.size := by obtain ⟨m, hm⟩ := k0; exact DataW.trod_lt m _ _ _ hm
  have k1 := h1
  have lt1 : ∀ x ∈ p1, x.block < W.heap.size := by obtain ⟨m, hm⟩ := k1; exact DataW.trod_lt m _ _ _ hm
  obtain ⟨F0, f0, r0⟩ := open_Fs (hval 0 25 v0 rfl rfl) h0
  obtain ⟨a1, rfl, rfl, rfl, w1⟩ := open_int Try.underlying3 (hval 1 3 v1 rfl rfl) h1
  clear hA0 hval0
  refine (walk v0 F0 f0 a1 w1 W r0).mono fun e W' ⟨he, bel⟩ => ?_
  subst he
  exact ⟨_, rfl, _, _, _, [], _, [], hW', trodAll_mk1 (shut_bool Try.underlying4 _), (trodAll_cons_mk (Below.trod laidOut (by kernel_rfl) (of_decide_eq_true (by kernel_rfl)) k0 bel lt0) (trodAll_cons_mk (Below.trod laidOut (by kernel_rfl) (of_decide_eq_true (by kernel_rfl)) k1 bel lt1) trodAll_mk0)), rfl, bel.frame _, fun h => by cases h⟩

theorem over : Rows.fnExactNodeReadRow.holds Try.pinned (OpenSpec.ofChange Rows.fnExactNodeReadSpec) :=
  OpenClaim.holds_of_wide 3 Try.f3 rfl rfl rfl rfl rfl rfl rfl ⟨rfl, rfl, rfl, rfl, rfl⟩ rfl rfl rfl rfl rfl (by kernel_rfl) Try.func3 (by kernel_rfl)
    (of_decide_eq_true (by kernel_rfl)) (by unfold Func.isWrapper; first | (rw [if_pos (by decide +kernel)]; kernel_rfl) | (rw [if_neg (by decide +kernel)]; exact ⟨rfl, rfl⟩))
    (fun os started H enc _ => lifted os started H enc)

theorem proved : Rows.FnExactNodeReadSaid := over
#print axioms proved
end Go.Proofs.Ytioecnfgliponaa.fnExactNodeRead
