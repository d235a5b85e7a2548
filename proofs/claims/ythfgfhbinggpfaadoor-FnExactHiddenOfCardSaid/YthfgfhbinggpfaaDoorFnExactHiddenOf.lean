/-
  For every branch the law FnExactHiddenOf returns true, and what came in reads behind the call as it read before: no condition.
-/
import Derived.Test.YthfgfhbinggpfaaDoorBunZC
import Derived.Test.YthfgfhbinggpfaaDoorSWalkW
import Derived.Test.YthfgfhbinggpfaaDoorIFindPW
import Derived.Deep.RegionHeld3
import Derived.Test.YthfgfhbinggpfaaDoorCards
import Derived.Test.YthfgfhbinggpfaaDoorTie
import Derived.LaidMore
import Derived.Stop.Joined
import Derived.Stop.LaidErr
import Derived.Lib.LaidTab
import Derived.Lib.SmallJoins
import Derived.SevenTiedAt
import Derived.WalkKit
import Derived.ProofKit
import Derived.OpenShut
import Derived.ShutString
import Derived.ChangeOld
import Derived.Below
namespace Go.Proofs.YthfgfhbinggpfaaDoor.fnExactHiddenOf
open Go.ChangeShapes Go.WideShapes Go.ChangeAt Go.RowKit
open Go.ChangeMaps (open_string shut_string)
set_option linter.unusedVariables false

theorem own : ownKnob Tryd.prog.godebug = none := by kernel_rfl
theorem door_met (os : Os) (args : Array Value) : laidMetH Tryd.prog Rows.fnExactHiddenOfRow.laid ((World.doorLaid Tryd.prog 28 os).forCall (fun _ _ => 0) ⟨#[], args, []⟩).memory :=
  laidMetH_of_parts3 (fuel := 8) (laidMet_of_run' 8 (by kernel_rfl) (by kernel_rfl)) (by kernel_rfl) (by kernel_rfl)
theorem laidOut : laidOutB Tryd.prog = true := by kernel_rfl

set_option maxRecDepth 20000 in
set_option maxHeartbeats 8000000 in
theorem walk (v0 : Value) (F0 : FsD) (f0 : FitF F0) (w : World) (r0 : RdFs w v0 F0) (hL : laidMetH Tryd.prog Rows.fnExactHiddenOfRow.laid w) :
    Calls Tryd.prog 6 #[v0] w fun e w' => e = .returned (.bool true) ∧ Below w.heap.size w w' := by
  obtain ⟨a0, c0, b0, e0, rfl⟩ := r0.lay
  have HR0 : Hid (∀ W, Below w.heap.size w W → RdFs W (.agg #[.slice a0 F0.ns.length c0, .slice b0 F0.ds.length e0]) F0) := fun W h => r0.below h (Nat.le_refl _)
  have HF0 : Hid (FitF F0) := f0
  clear r0 f0
  obtain ⟨aE, hv⟩ := errVar (Rows.fnExactHiddenOfRow.laid) rfl hL
  have hgc : w.cell? ⟨errG, 0, none⟩ = some (.iface 133 (.pointer (some aE))) := by simpa using World.var?_cell gErr hv 0
  have HEA : Hid (ErrAt aE w) := ⟨World.block_lt_of_cell? w _ hgc, hgc⟩
  clear hL hv hgc
  obtain ⟨E0, HE0⟩ : ∃ x, Hid (hdT F0 = x) := ⟨_, rfl⟩
  obtain ⟨E1, HE1⟩ : ∃ x, Hid (hdB F0 = x) := ⟨_, rfl⟩
  have SC : Hid (∀ v0 W, szF F0 ≤ 1048576 → RdFs W v0 F0 → Calls Tryd.prog 16 #[v0] W fun e w' => e = .returned (.tuple #[.string E0, .bool E1]) ∧ Below W.heap.size W w') := by
    intro v0 W hs0 hv0
    rw [← HE0.out]
    rw [← HE1.out]
    exact specHiddenOf v0 F0 W (smF_sz hs0) hv0
  have IC : Hid (∀ v0 W, szF F0 ≤ 1048576 → RdFs W v0 F0 → Below w.heap.size w W → Calls Tryd.prog 17 #[v0] W fun e w' => e = .returned (.tuple #[.string E0, .bool E1]) ∧ Below W.heap.size W w') := by
    intro v0 W hs0 hv0 hBW
    rw [← HE0.out]
    rw [← HE1.out]
    exact implHiddenOf v0 aE F0 W (smF_sz hs0) (HEA.out.below hBW) hv0
  clear HE0
  clear HE1
  go_enter Tryd.func6, Tryd.ntmps6
  go_wp2_with fail
  refine (szFsW _ F0 1048576 _ (by omega) (by omega) HF0.out (HR0.out _ (below1 _ _))).mono ?_
  rintro e w1 ⟨s0, rfl, hsz0, s0ge, s0le, hb1⟩
  have hVA0 : Var w1 w.heap.size #[.slice a0 F0.ns.length c0, .slice b0 F0.ds.length e0] 25 := (Var.made w _ _).new hb1
  have hz0 : w.heap.size + 1 ≤ w1.heap.size := by have := hb1.size; simpa using this
  have hB0 : Below w.heap.size w w1 := (below1 w _).trans (hb1.mono (by simp))
  by_cases hneg0 : s0 < 0
  · clear hsz0
    go_wp2
    go_ret
    exact ⟨rfl, hB0⟩
  have HS0 : Hid (szF F0 ≤ 1048576) := by have := hsz0 (by omega); show szF F0 ≤ 1048576; omega
  clear hsz0 hb1
  have yA00 := hVA0.cell 0
  have yA01 := hVA0.cell 1
  simp at yA00 yA01
  go_wp2_with fail
  refine (toFsW _ F0 _ (smF_sz HS0.out) (HR0.out _ hB0)).mono ?_
  rintro e w2 ⟨x2, rfl, ho2, hb2⟩
  clear yA00 yA01
  have hz3 : w1.heap.size ≤ w2.heap.size := hb2.size
  have hB3 : Below w.heap.size w w2 := hB0.trans (hb2.mono hB0.size)
  have hVA0_3 : Var w2 w.heap.size #[.slice a0 F0.ns.length c0, .slice b0 F0.ds.length e0] 25 := hVA0.new hb2
  clear hB0 hVA0
  clear hb2
  go_wp2_with fail
  refine (SC.out _ _ HS0.out ho2.rd).mono ?_
  rintro e w4 ⟨rfl, hb4⟩
  have hz5 : w2.heap.size ≤ w4.heap.size := hb4.size
  have hB5 : Below w.heap.size w w4 := hB3.trans (hb4.mono hB3.size)
  have hVA0_5 : Var w4 w.heap.size #[.slice a0 F0.ns.length c0, .slice b0 F0.ds.length e0] 25 := hVA0_3.new hb4
  clear hB3 hVA0_3
  clear hb4
  clear ho2
  have yA00 := hVA0_5.cell 0
  have yA01 := hVA0_5.cell 1
  simp at yA00 yA01
  go_wp2_with fail
  refine (toFsW _ F0 _ (smF_sz HS0.out) (HR0.out _ hB5)).mono ?_
  rintro e w6 ⟨z0, rfl, hOX0, hb6⟩
  clear yA00 yA01
  have hz7 : w4.heap.size ≤ w6.heap.size := hb6.size
  have hB7 : Below w.heap.size w w6 := hB5.trans (hb6.mono hB5.size)
  have hVA0_7 : Var w6 w.heap.size #[.slice a0 F0.ns.length c0, .slice b0 F0.ds.length e0] 25 := hVA0_5.new hb6
  clear hB5 hVA0_5
  clear hb6
  obtain ⟨aX0, cX0, bX0, eX0, rfl⟩ := hOX0.lay
  have hsz8 : (w6.alloc (.cells #[.slice aX0 F0.ns.length cX0, .slice bX0 F0.ds.length eX0] 30)).heap.size = w6.heap.size + 1 := by simp
  have hz9 : w6.heap.size ≤ (w6.alloc (.cells #[.slice aX0 F0.ns.length cX0, .slice bX0 F0.ds.length eX0] 30)).heap.size := (below1 w6 (.cells #[.slice aX0 F0.ns.length cX0, .slice bX0 F0.ds.length eX0] 30)).size
  have hB9 : Below w.heap.size w (w6.alloc (.cells #[.slice aX0 F0.ns.length cX0, .slice bX0 F0.ds.length eX0] 30)) := hB7.trans ((below1 w6 (.cells #[.slice aX0 F0.ns.length cX0, .slice bX0 F0.ds.length eX0] 30)).mono hB7.size)
  have hVA0_9 : Var (w6.alloc (.cells #[.slice aX0 F0.ns.length cX0, .slice bX0 F0.ds.length eX0] 30)) w.heap.size #[.slice a0 F0.ns.length c0, .slice b0 F0.ds.length e0] 25 := hVA0_7.new (below1 w6 (.cells #[.slice aX0 F0.ns.length cX0, .slice bX0 F0.ds.length eX0] 30))
  have hOX0_9 := hOX0.below (below1 w6 (.cells #[.slice aX0 F0.ns.length cX0, .slice bX0 F0.ds.length eX0] 30))
  clear hB7 hVA0_7 hOX0
  have hVX0 : Var (w6.alloc (.cells #[.slice aX0 F0.ns.length cX0, .slice bX0 F0.ds.length eX0] 30)) w6.heap.size #[.slice aX0 F0.ns.length cX0, .slice bX0 F0.ds.length eX0] 30 := Var.made w6 _ _
  have yX00 := hVX0.cell 0
  have yX01 := hVX0.cell 1
  simp at yX00 yX01
  go_wp2_with fail
  refine (IC.out _ _ HS0.out hOX0_9.rd hB9).mono ?_
  rintro e w10 ⟨rfl, hb10⟩
  clear yX00 yX01
  have hz11 : (w6.alloc (.cells #[.slice aX0 F0.ns.length cX0, .slice bX0 F0.ds.length eX0] 30)).heap.size ≤ w10.heap.size := hb10.size
  have hB11 : Below w.heap.size w w10 := hB9.trans (hb10.mono hB9.size)
  have hVA0_11 : Var w10 w.heap.size #[.slice a0 F0.ns.length c0, .slice b0 F0.ds.length e0] 25 := hVA0_9.new hb10
  have hVX0_11 : Var w10 w6.heap.size #[.slice aX0 F0.ns.length cX0, .slice bX0 F0.ds.length eX0] 30 := hVX0.new hb10
  have hOX0_11 := hOX0_9.below hb10
  clear hB9 hVA0_9 hVX0 hOX0_9
  clear hb10
  have yX00 := hVX0_11.cell 0
  have yX01 := hVX0_11.cell 1
  simp at yX00 yX01
  have yA00 := hVA0_11.cell 0
  have yA01 := hVA0_11.cell 1
  simp at yA00 yA01
  have HVX : Hid (Var w10 w6.heap.size #[.slice aX0 F0.ns.length cX0, .slice bX0 F0.ds.length eX0] 30) := hVX0_11
  have HRX : Hid (RdFs w10 (.agg #[.slice aX0 F0.ns.length cX0, .slice bX0 F0.ds.length eX0]) F0) := hOX0_11.rd
  have HVG : Hid (Var w10 w.heap.size #[.slice a0 F0.ns.length c0, .slice b0 F0.ds.length e0] 25) := hVA0_11
  have HT6 : Hid (Calls Tryd.prog 9 #[(.agg #[.slice a0 F0.ns.length c0, .slice b0 F0.ds.length e0])] w10.drew fun e w' => ∃ v', e = .returned v' ∧ OwnFs w' w10.heap.size w'.heap.size v' F0 ∧ Below w10.heap.size w10 w') := by
    refine (toFsW _ F0 w10.drew (smF_sz HS0.out) (HR0.out _ hB11.drew)).mono ?_
    rintro e w' ⟨v', rfl, h1, h2⟩
    exact ⟨v', rfl, h1, ⟨h2.os, h2.tape, h2.output, h2.size, h2.block⟩⟩
  go_wp2_with fail
  go_region_held3 (fun W => W.cell? ⟨w6.heap.size, 0, none⟩ = some (.slice aX0 F0.ns.length cX0) ∧ W.cell? ⟨w6.heap.size, 1, none⟩ = some (.slice bX0 F0.ds.length eX0) ∧ W.cell? ⟨w.heap.size, 0, none⟩ = some (.slice a0 F0.ns.length c0) ∧ W.cell? ⟨w.heap.size, 1, none⟩ = some (.slice b0 F0.ds.length e0)) (go_keep) (first
    | (go_at_call 9
       refine HT6.out.mono ?_
       rintro e w12a ⟨x6, rfl, ho6, hbp⟩
       obtain ⟨hu0, hu1, hu2, hu3⟩ : w12a.cell? ⟨w6.heap.size, 0, none⟩ = some (.slice aX0 F0.ns.length cX0) ∧ w12a.cell? ⟨w6.heap.size, 1, none⟩ = some (.slice bX0 F0.ds.length eX0) ∧ w12a.cell? ⟨w.heap.size, 0, none⟩ = some (.slice a0 F0.ns.length c0) ∧ w12a.cell? ⟨w.heap.size, 1, none⟩ = some (.slice b0 F0.ds.length e0) := ⟨(HVX.out.new hbp).cell 0, (HVX.out.new hbp).cell 1, (HVG.out.new hbp).cell 0, (HVG.out.new hbp).cell 1⟩
       skip)
    | (go_at_call 11
       refine (eqFsW _ x6 F0 _ (smF_sz HS0.out) (HRX.out.below hbp (Nat.le_refl _)) ho6.rd).mono ?_
       rintro e w12 ⟨rfl, hbq⟩
       have hbJ : Below w10.heap.size w10 w12 := hbp.trans (hbq.mono hbp.size)
       obtain ⟨hv0, hv1, hv2, hv3⟩ : w12.cell? ⟨w6.heap.size, 0, none⟩ = some (.slice aX0 F0.ns.length cX0) ∧ w12.cell? ⟨w6.heap.size, 1, none⟩ = some (.slice bX0 F0.ds.length eX0) ∧ w12.cell? ⟨w.heap.size, 0, none⟩ = some (.slice a0 F0.ns.length c0) ∧ w12.cell? ⟨w.heap.size, 1, none⟩ = some (.slice b0 F0.ds.length e0) := ⟨(HVX.out.new hbJ).cell 0, (HVX.out.new hbJ).cell 1, (HVG.out.new hbJ).cell 0, (HVG.out.new hbJ).cell 1⟩
       clear hu0 hu1 hu2 hu3 ho6 hbp hbq))
  all_goals
    clear HVX HVG HRX HT6 hv0 hv1 hv2 hv3 yX00 yX01 yA00 yA01
    have hz13 : w10.heap.size ≤ w12.heap.size := hbJ.size
    have hB13 : Below w.heap.size w w12 := hB11.trans (hbJ.mono hB11.size)
    have hVA0_13 : Var w12 w.heap.size #[.slice a0 F0.ns.length c0, .slice b0 F0.ds.length e0] 25 := hVA0_11.new hbJ
    have hVX0_13 : Var w12 w6.heap.size #[.slice aX0 F0.ns.length cX0, .slice bX0 F0.ds.length eX0] 30 := hVX0_11.new hbJ
    have hOX0_13 := hOX0_11.below hbJ
    clear hB11 hVA0_11 hVX0_11 hOX0_11
    clear hbJ
    have hcb0 := cntF_le HS0.out
    go_wp2
    go_ret
    exact ⟨rfl, hB13⟩

set_option maxRecDepth 100000 in
theorem lifted (os : Os) (started : os.Started) (H : Type) (enc : TypeId × Value → H) :
    ReturnsInHanded {} Tryd.checked os 6 .any (fun w args => (Rows.fnExactHiddenOfSpec.pre enc Tryd.prog Tryd.f6 Rows.fnExactHiddenOfRow.domain false w args ∧ laidMetH Tryd.prog Rows.fnExactHiddenOfRow.laid w) ∧ sizedMet enc Tryd.prog Tryd.f6 (OpenSpec.ofChange Rows.fnExactHiddenOfSpec) false w args) (Rows.fnExactHiddenOfSpec.post enc Tryd.prog Tryd.f6 false true false false) := by
  refine returnsInHanded_of_change_and (C := Tryd.checked) (X := fun w _ => laidMetH Tryd.prog Rows.fnExactHiddenOfRow.laid w) (fun _ _ _ hh h => h.of_heap hh) own started (by kernel_rfl) Tryd.func6
    (ChangeSpec.witness_shaped (enc := enc) (C := Tryd.checked) (os := os) (X := fun w _ => laidMetH Tryd.prog Rows.fnExactHiddenOfRow.laid w) false (World.doorLaid Tryd.prog 28 os) #[.agg #[.slice none 0 0, .slice none 0 0]] 8 rfl (World.shaped_of_RefB (by kernel_rfl) (by kernel_rfl)) (by kernel_rfl) (by kernel_rfl) (by kernel_rfl) (door_met os _)) ?_
  intro W base args ds gs before hval0 hW _ _ hL _
  have hval : ∀ (j : Nat) t v, Tryd.f6.params[j]? = some t → args[j]? = some v → Value.okWide Tryd.prog W .any base t v := hval0
  have hW' := hW
  obtain ⟨p, q, hA0, hV, rfl, hfz, hnd⟩ := hW
  have hA : DataW.TrodAll enc Tryd.prog W 0 (fun _ => true) true Tryd.f6.params.toList args.toList ds p := hA0
  rw [Tryd.params6] at hA hval
  obtain ⟨v0, vs0, d0, ds0, p0, q0, hargs, rfl, rfl, h0, rr0⟩ := trodAll_cons hA
  obtain ⟨rfl, rfl, rfl⟩ := trodAll_nil rr0
  obtain rfl : args = #[v0] := by cases args; simp_all
  have hV1 : DataW.TrodVars enc Tryd.prog W (fun _ => true) ["loop.example/g00483/impl.errNoNum"] gs q := hV
  obtain ⟨xv, hv0⟩ := errVar (Rows.fnExactHiddenOfRow.laid) rfl hL
  obtain ⟨rfl, rfl⟩ := hV1.unique (vars_read1 enc gErr tErr Tryd.underlying98 hv0 trivial _)
  have k0 := h0
  have lt0 : ∀ x ∈ p0, x.block < W.heap.size := by obtain ⟨m, hm⟩ := k0; exact DataW.trod_lt m _ _ _ hm
  obtain ⟨F0, f0, r0⟩ := open_Fs (hval 0 25 v0 rfl rfl) h0
  clear hA0 hval0
  refine (walk v0 F0 f0 W r0 hL).mono fun e W' ⟨he, bel⟩ => ?_
  subst he
  exact ⟨_, rfl, _, _, _, [], _, [.cell errG 0], hW', trodAll_mk1 (shut_bool Tryd.underlying4 _), (trodAll_cons_mk (Below.trod laidOut (by kernel_rfl) (of_decide_eq_true (by kernel_rfl)) k0 bel lt0) trodAll_mk0), vars_read1 enc gErr tErr Tryd.underlying98 (Joins.var_stays gErr hv0 bel (Nat.le_refl _)) trivial _, bel.frame _, fun h => by cases h⟩

theorem over : Rows.fnExactHiddenOfRow.holds Tryd.pinned (OpenSpec.ofChange Rows.fnExactHiddenOfSpec) :=
  OpenClaim.holds_of_wide 6 Tryd.f6 rfl rfl rfl rfl rfl rfl rfl ⟨rfl, rfl, rfl, rfl, rfl⟩ rfl rfl rfl rfl rfl (by kernel_rfl) Tryd.func6 (by kernel_rfl)
    (of_decide_eq_true (by kernel_rfl)) (by unfold Func.isWrapper; first | (rw [if_pos (by decide +kernel)]; kernel_rfl) | (rw [if_neg (by decide +kernel)]; exact ⟨rfl, rfl⟩))
    (fun os started H enc _ => lifted os started H enc)

theorem plain (f : FuncId) (fn : Func) (hf : Tryd.pinned.checked.prog.funcNamed "loop.example/g00483/laws.FnExactHiddenOf" = some f) (hfn : Tryd.pinned.checked.prog.funcs[f]? = some fn) :
    false = Tryd.pinned.checked.prog.looks [] ∧ ∀ (j : Nat) t, fn.params[j]? = some t → Tryd.pinned.checked.prog.wantsStandIn t = false := by
  obtain rfl : f = 6 := Option.some.inj ((show Tryd.prog.funcNamed "loop.example/g00483/laws.FnExactHiddenOf" = some 6 by kernel_rfl).symm.trans hf) |>.symm
  obtain rfl : fn = Tryd.f6 := (Option.some.inj (Tryd.func6.symm.trans hfn)).symm
  refine ⟨by kernel_rfl, fun j t ht => ?_⟩
  rw [Tryd.params6] at ht
  have hm : t ∈ [25] := by simpa using Array.mem_of_getElem? ht
  have hall : ([25].all fun u => !Tryd.prog.wantsStandIn u) = true := by kernel_rfl
  exact (show Tryd.prog.wantsStandIn t = false by simpa using List.all_eq_true.1 hall t hm)

theorem card : Rows.FnExactHiddenOfCardSaid :=
  Claim7.holds_tied_plain_at .later [] _ _ _ _ over (fun _ h => by cases h) (by kernel_rfl) (fun _ h => by cases h) fnExactHiddenOf_row_tie rfl ⟨rfl, rfl⟩ (by kernel_rfl) rfl plain (by kernel_rfl)
#print axioms card
end Go.Proofs.YthfgfhbinggpfaaDoor.fnExactHiddenOf
