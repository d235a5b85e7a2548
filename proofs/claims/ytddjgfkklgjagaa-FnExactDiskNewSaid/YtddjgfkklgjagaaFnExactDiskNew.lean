/-
  For every number the law FnExactDiskNew returns true, and what came in reads behind the call as it read before: no condition.
-/
import Derived.Test.YtddjgfkklgjagaaDiskF
import Derived.Deep.RegionHeld3
import Derived.Test.YtddjgfkklgjagaaSFallW
import Derived.Test.YtddjgfkklgjagaaSNewW
import Derived.Test.YtddjgfkklgjagaaIDiskW
import Derived.Test.YtddjgfkklgjagaaRows
import Derived.WalkKit
import Derived.ProofKit
import Derived.OpenShut
import Derived.ShutString
import Derived.ChangeOld
import Derived.Below
namespace Go.Proofs.Ytddjgfkklgjagaa.fnExactDiskNew
open Go.ChangeShapes Go.WideShapes Go.ChangeAt Go.RowKit
open Go.ChangeMaps (open_string shut_string)
set_option linter.unusedVariables false

theorem own : ownKnob Try.prog.godebug = none := by kernel_rfl
theorem laidOut : laidOutB Try.prog = true := by kernel_rfl

set_option maxRecDepth 20000 in
set_option maxHeartbeats 4000000 in
theorem walk (a0 : Int) (w0 : (Lit.int .i64 a0).wf = true) (w : World)  :
    Calls Try.prog 6 #[.int .i64 a0] w fun e w' => e = .returned (.bool true) ∧ Below w.heap.size w w' := by
  obtain ⟨E, HE⟩ : ∃ E, Hid (newD' a0 = E) := ⟨_, rfl⟩
  obtain ⟨Q, HQ⟩ : ∃ Q, Hid (newOk a0 = Q) := ⟨_, rfl⟩
  have SC : Hid (∀ W, Calls Try.prog 27 #[.int .i64 a0] W fun e w' => ∃ v', e = .returned (.tuple #[v', .bool Q]) ∧ OwnD w' W.heap.size v' E ∧ Below W.heap.size W w') := by
    intro W
    rw [← HE.out, ← HQ.out]
    exact specDiskNew a0 W
  have IC : Hid (∀ W, Calls Try.prog 28 #[.int .i64 a0] W fun e w' => ∃ v', e = .returned (.tuple #[v', .bool Q]) ∧ OwnD w' W.heap.size v' E ∧ Below W.heap.size W w') := by
    intro W
    rw [← HE.out, ← HQ.out]
    exact implDiskNew a0 W
  have HLE : Hid (E.1.length ≤ 4194304 ∧ E.2.length ≤ 4194304) := by show _ ∧ _; rw [← HE.out]; exact len_new a0
  go_enter Try.func6, Try.ntmps6
  go_wp2_with fail
  refine (SC.out _).mono ?_
  rintro e w1 ⟨x1, rfl, ho1, hb1⟩
  obtain ⟨aW, caW, bW, cbW, rfl⟩ := ho1.shape
  have HRW : Hid (RdD w1 (.agg #[.slice aW E.1.length caW, .slice bW E.2.length cbW]) E) := ho1.rd
  clear ho1
  have hCw : Below w1.heap.size w1 w1 := Below.refl _ _
  have hB1a : Below w.heap.size w (w1.alloc (.cells #[.slice aW E.1.length caW, .slice bW E.2.length cbW] 27)) := hb1.trans ((below1 w1 (.cells #[.slice aW E.1.length caW, .slice bW E.2.length cbW] 27)).mono hb1.size)
  have hCw_1a : Below w1.heap.size w1 (w1.alloc (.cells #[.slice aW E.1.length caW, .slice bW E.2.length cbW] 27)) := hCw.trans ((below1 w1 (.cells #[.slice aW E.1.length caW, .slice bW E.2.length cbW] 27)).mono hCw.size)
  clear hb1 hCw
  have hVW : Var (w1.alloc (.cells #[.slice aW E.1.length caW, .slice bW E.2.length cbW] 27)) w1.heap.size #[.slice aW E.1.length caW, .slice bW E.2.length cbW] 27 := Var.made w1 _ _
  have hG1 : w1.heap.size ≤ (w1.alloc (.cells #[.slice aW E.1.length caW, .slice bW E.2.length cbW] 27)).heap.size := hCw_1a.size
  have hG0 : w.heap.size ≤ (w1.alloc (.cells #[.slice aW E.1.length caW, .slice bW E.2.length cbW] 27)).heap.size := hB1a.size
  generalize hlg : (w1.alloc (.cells #[.slice aW E.1.length caW, .slice bW E.2.length cbW] 27)).heap.size = log at hG0 hG1
  go_wp2_with fail
  refine (IC.out _).mono ?_
  rintro e w2 ⟨x5, rfl, ho5, hb2⟩
  rw [hlg] at ho5
  clear hlg
  have hB2 : Below w.heap.size w w2 := hB1a.trans (hb2.mono hB1a.size)
  have hVW_2 : Var w2 w1.heap.size #[.slice aW E.1.length caW, .slice bW E.2.length cbW] 27 := hVW.new hb2
  have hCw_2 : Below w1.heap.size w1 w2 := hCw_1a.trans (hb2.mono hCw_1a.size)
  clear hB1a hVW hCw_1a
  clear hb2
  obtain ⟨aG, caG, bG, cbG, rfl⟩ := ho5.shape
  have hB2a : Below w.heap.size w (w2.alloc (.cells #[.slice aG E.1.length caG, .slice bG E.2.length cbG] 27)) := hB2.trans ((below1 w2 (.cells #[.slice aG E.1.length caG, .slice bG E.2.length cbG] 27)).mono hB2.size)
  have hVW_2a : Var (w2.alloc (.cells #[.slice aG E.1.length caG, .slice bG E.2.length cbG] 27)) w1.heap.size #[.slice aW E.1.length caW, .slice bW E.2.length cbW] 27 := hVW_2.new (below1 w2 (.cells #[.slice aG E.1.length caG, .slice bG E.2.length cbG] 27))
  have hOG_2a := ho5.below (below1 w2 (.cells #[.slice aG E.1.length caG, .slice bG E.2.length cbG] 27))
  have hCw_2a : Below w1.heap.size w1 (w2.alloc (.cells #[.slice aG E.1.length caG, .slice bG E.2.length cbG] 27)) := hCw_2.trans ((below1 w2 (.cells #[.slice aG E.1.length caG, .slice bG E.2.length cbG] 27)).mono hCw_2.size)
  clear hB2 hVW_2 ho5 hCw_2
  have hVG : Var (w2.alloc (.cells #[.slice aG E.1.length caG, .slice bG E.2.length cbG] 27)) w2.heap.size #[.slice aG E.1.length caG, .slice bG E.2.length cbG] 27 := Var.made w2 _ _
  have yW0 := hVW_2a.cell 0
  have yW1 := hVW_2a.cell 1
  simp at yW0 yW1
  have yG0 := hVG.cell 0
  have yG1 := hVG.cell 1
  simp at yG0 yG1
  go_wp2_with fail
  refine (eqDiskW _ _ E _ HLE.out hOG_2a.rd (HRW.out.below hCw_2a (Nat.le_refl _))).mono ?_
  rintro e w3 ⟨rfl, hb3⟩
  clear yW0 yW1 yG0 yG1
  have hB3 : Below w.heap.size w w3 := hB2a.trans (hb3.mono hB2a.size)
  have hVW_3 : Var w3 w1.heap.size #[.slice aW E.1.length caW, .slice bW E.2.length cbW] 27 := hVW_2a.new hb3
  have hVG_3 : Var w3 w2.heap.size #[.slice aG E.1.length caG, .slice bG E.2.length cbG] 27 := hVG.new hb3
  have hOG_3 := hOG_2a.below hb3
  have hCw_3 : Below w1.heap.size w1 w3 := hCw_2a.trans (hb3.mono hCw_2a.size)
  clear hB2a hVW_2a hVG hOG_2a hCw_2a
  clear hb3
  have yG0 := hVG_3.cell 0
  have yG1 := hVG_3.cell 1
  simp at yG0 yG1
  go_wp2_with fail
  refine (markDiskW _ log 1 E _ HLE.out (by omega) hOG_3).mono ?_
  rintro e w4 ⟨rfl, hm4, hon4⟩
  clear yG0 yG1
  have hbk4 := hOG_3.blk
  have hB4 : Below w.heap.size w w4 := hB3.trans (hon4.below hB3.size (fun j hj => Nat.le_trans hG0 (hbk4 j hj).1))
  have hVW_4 : Var w4 w1.heap.size #[.slice aW E.1.length caW, .slice bW E.2.length cbW] 27 := hVW_3.only hon4 (hOG_3.notVar hVW_3 (by decide) (by decide))
  have hVG_4 : Var w4 w2.heap.size #[.slice aG E.1.length caG, .slice bG E.2.length cbG] 27 := hVG_3.only hon4 (hOG_3.notVar hVG_3 (by decide) (by decide))
  have hCw_4 : Below w1.heap.size w1 w4 := hCw_3.trans (hon4.below hCw_3.size (fun j hj => Nat.le_trans hG1 (hbk4 j hj).1))
  clear hon4 hbk4 hB3 hVW_3 hVG_3 hCw_3 hOG_3
  have hGM : OwnD w4 log (.agg #[.slice aG E.1.length caG, .slice bG E.2.length cbG]) (mrkD 1 E) := hm4
  clear hm4
  have yG0 := hVG_4.cell 0
  have yG1 := hVG_4.cell 1
  simp at yG0 yG1
  go_wp2_with fail
  refine (heldDiskW _ 1 E _ HLE.out (by omega) hGM.rd).mono ?_
  rintro e w5 ⟨rfl, hb5⟩
  clear yG0 yG1
  have hB5 : Below w.heap.size w w5 := hB4.trans (hb5.mono hB4.size)
  have hVW_5 : Var w5 w1.heap.size #[.slice aW E.1.length caW, .slice bW E.2.length cbW] 27 := hVW_4.new hb5
  have hVG_5 : Var w5 w2.heap.size #[.slice aG E.1.length caG, .slice bG E.2.length cbG] 27 := hVG_4.new hb5
  have hOG_5 := hGM.below hb5
  have hCw_5 : Below w1.heap.size w1 w5 := hCw_4.trans (hb5.mono hCw_4.size)
  clear hB4 hVW_4 hVG_4 hGM hCw_4
  clear hb5
  have hcq : ¬ ((1 + cntD E : Nat) : Int) < 0 := by omega
  go_wp2_with fail
  refine (IC.out _).mono ?_
  rintro e w6 ⟨x8, rfl, ho8, hb6⟩
  have hB6 : Below w.heap.size w w6 := hB5.trans (hb6.mono hB5.size)
  have hVW_6 : Var w6 w1.heap.size #[.slice aW E.1.length caW, .slice bW E.2.length cbW] 27 := hVW_5.new hb6
  have hVG_6 : Var w6 w2.heap.size #[.slice aG E.1.length caG, .slice bG E.2.length cbG] 27 := hVG_5.new hb6
  have hOG_6 := hOG_5.below hb6
  have hCw_6 : Below w1.heap.size w1 w6 := hCw_5.trans (hb6.mono hCw_5.size)
  clear hB5 hVW_5 hVG_5 hOG_5 hCw_5
  clear hb6
  obtain ⟨aH, caH, bH, cbH, rfl⟩ := ho8.shape
  have hB6a : Below w.heap.size w (w6.alloc (.cells #[.slice aH E.1.length caH, .slice bH E.2.length cbH] 27)) := hB6.trans ((below1 w6 (.cells #[.slice aH E.1.length caH, .slice bH E.2.length cbH] 27)).mono hB6.size)
  have hVW_6a : Var (w6.alloc (.cells #[.slice aH E.1.length caH, .slice bH E.2.length cbH] 27)) w1.heap.size #[.slice aW E.1.length caW, .slice bW E.2.length cbW] 27 := hVW_6.new (below1 w6 (.cells #[.slice aH E.1.length caH, .slice bH E.2.length cbH] 27))
  have hVG_6a : Var (w6.alloc (.cells #[.slice aH E.1.length caH, .slice bH E.2.length cbH] 27)) w2.heap.size #[.slice aG E.1.length caG, .slice bG E.2.length cbG] 27 := hVG_6.new (below1 w6 (.cells #[.slice aH E.1.length caH, .slice bH E.2.length cbH] 27))
  have hOG_6a := hOG_6.below (below1 w6 (.cells #[.slice aH E.1.length caH, .slice bH E.2.length cbH] 27))
  have hOH_6a := ho8.below (below1 w6 (.cells #[.slice aH E.1.length caH, .slice bH E.2.length cbH] 27))
  have hCw_6a : Below w1.heap.size w1 (w6.alloc (.cells #[.slice aH E.1.length caH, .slice bH E.2.length cbH] 27)) := hCw_6.trans ((below1 w6 (.cells #[.slice aH E.1.length caH, .slice bH E.2.length cbH] 27)).mono hCw_6.size)
  clear hB6 hVW_6 hVG_6 hOG_6 ho8 hCw_6
  have hVH : Var (w6.alloc (.cells #[.slice aH E.1.length caH, .slice bH E.2.length cbH] 27)) w6.heap.size #[.slice aH E.1.length caH, .slice bH E.2.length cbH] 27 := Var.made w6 _ _
  have yW0 := hVW_6a.cell 0
  have yW1 := hVW_6a.cell 1
  simp at yW0 yW1
  have yH0 := hVH.cell 0
  have yH1 := hVH.cell 1
  simp at yH0 yH1
  go_wp2_with fail
  refine (eqDiskW _ _ E _ HLE.out hOH_6a.rd (HRW.out.below hCw_6a (Nat.le_refl _))).mono ?_
  rintro e w7 ⟨rfl, hb7⟩
  clear yW0 yW1 yH0 yH1
  have hB7 : Below w.heap.size w w7 := hB6a.trans (hb7.mono hB6a.size)
  have hVW_7 : Var w7 w1.heap.size #[.slice aW E.1.length caW, .slice bW E.2.length cbW] 27 := hVW_6a.new hb7
  have hVG_7 : Var w7 w2.heap.size #[.slice aG E.1.length caG, .slice bG E.2.length cbG] 27 := hVG_6a.new hb7
  have hVH_7 : Var w7 w6.heap.size #[.slice aH E.1.length caH, .slice bH E.2.length cbH] 27 := hVH.new hb7
  have hOG_7 := hOG_6a.below hb7
  have hOH_7 := hOH_6a.below hb7
  have hCw_7 : Below w1.heap.size w1 w7 := hCw_6a.trans (hb7.mono hCw_6a.size)
  clear hB6a hVW_6a hVG_6a hVH hOG_6a hOH_6a hCw_6a
  clear hb7
  have yG0 := hVG_7.cell 0
  have yG1 := hVG_7.cell 1
  simp at yG0 yG1
  go_wp2_with fail
  refine (heldDiskW _ 1 E _ HLE.out (by omega) hOG_7.rd).mono ?_
  rintro e w8 ⟨rfl, hb8⟩
  clear yG0 yG1
  have hB8 : Below w.heap.size w w8 := hB7.trans (hb8.mono hB7.size)
  have hVW_8 : Var w8 w1.heap.size #[.slice aW E.1.length caW, .slice bW E.2.length cbW] 27 := hVW_7.new hb8
  have hVG_8 : Var w8 w2.heap.size #[.slice aG E.1.length caG, .slice bG E.2.length cbG] 27 := hVG_7.new hb8
  have hVH_8 : Var w8 w6.heap.size #[.slice aH E.1.length caH, .slice bH E.2.length cbH] 27 := hVH_7.new hb8
  have hOG_8 := hOG_7.below hb8
  have hOH_8 := hOH_7.below hb8
  have hCw_8 : Below w1.heap.size w1 w8 := hCw_7.trans (hb8.mono hCw_7.size)
  clear hB7 hVW_7 hVG_7 hVH_7 hOG_7 hOH_7 hCw_7
  clear hb8
  go_wp2
  go_ret
  exact ⟨rfl, hB8⟩

set_option maxRecDepth 100000 in
theorem lifted (os : Os) (started : os.Started) (H : Type) (enc : TypeId × Value → H) :
    ReturnsInHanded {} Try.checked os 6 .any (Rows.fnExactDiskNewSpec.pre6 enc Try.prog Try.f6 Rows.fnExactDiskNewRow.domain false) (Rows.fnExactDiskNewSpec.post enc Try.prog Try.f6 false true false false) := by
  refine returnsInHanded_of_change (C := Try.checked) own started (by kernel_rfl) Try.func6
    (ChangeSpec.witness6 (enc := enc) (C := Try.checked) false ⟨#[], #[.int .i64 0], []⟩ 8 (by kernel_rfl) (by kernel_rfl) (by kernel_rfl) (by kernel_rfl)) ?_
  intro W base args ds gs before hval0 hW hcnd _
  have hval : ∀ (j : Nat) t v, Try.f6.params[j]? = some t → args[j]? = some v → Value.okWide Try.prog W .any base t v := hval0
  have hW' := hW
  obtain ⟨p, q, hA0, hV, rfl, hfz, hnd⟩ := hW
  have hA : DataW.TrodAll enc Try.prog W 0 (fun _ => true) true Try.f6.params.toList args.toList ds p := hA0
  rw [Try.params6] at hA hval
  obtain ⟨v0, vs0, d0, ds0, p0, q0, hargs, rfl, rfl, h0, rr0⟩ := trodAll_cons hA
  obtain ⟨rfl, rfl, rfl⟩ := trodAll_nil rr0
  obtain rfl : args = #[v0] := by cases args; simp_all
  obtain ⟨rfl, rfl⟩ := trodVars_none hV
  have k0 := h0
  have lt0 : ∀ x ∈ p0, x.block < W.heap.size := by obtain ⟨m, hm⟩ := k0; exact DataW.trod_lt m _ _ _ hm
  obtain ⟨a0, rfl, rfl, rfl, w0⟩ := open_int Try.underlying3 (hval 0 3 v0 rfl rfl) h0
  clear hA0 hval0
  refine (walk a0 w0 W).mono fun e W' ⟨he, bel⟩ => ?_
  subst he
  exact ⟨_, rfl, _, _, _, [], _, [], hW', trodAll_mk1 (shut_bool Try.underlying4 _), (trodAll_cons_mk (Below.trod laidOut (by kernel_rfl) (of_decide_eq_true (by kernel_rfl)) k0 bel lt0) trodAll_mk0), rfl, bel.frame _, fun h => by cases h⟩

theorem over : Rows.fnExactDiskNewRow.holds Try.pinned (OpenSpec.ofChange Rows.fnExactDiskNewSpec) :=
  OpenClaim.holds_of_wide 6 Try.f6 rfl rfl rfl rfl rfl rfl rfl ⟨rfl, rfl, rfl, rfl, rfl⟩ rfl rfl rfl rfl rfl (by kernel_rfl) Try.func6 (by kernel_rfl)
    (of_decide_eq_true (by kernel_rfl)) (by unfold Func.isWrapper; first | (rw [if_pos (by decide +kernel)]; kernel_rfl) | (rw [if_neg (by decide +kernel)]; exact ⟨rfl, rfl⟩))
    (fun os started H enc _ => lifted os started H enc)

theorem proved : Rows.FnExactDiskNewSaid := over
#print axioms proved
end Go.Proofs.Ytddjgfkklgjagaa.fnExactDiskNew
