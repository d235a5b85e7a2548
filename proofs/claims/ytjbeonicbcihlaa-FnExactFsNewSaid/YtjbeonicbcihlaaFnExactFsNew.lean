/-
  For every two numbers the law FnExactFsNew returns true, and what came in reads behind the call as it read before: no condition.
-/
import Derived.Test.YtjbeonicbcihlaaNewFsW
import Derived.Deep.RegionHeld3
import Derived.Test.YtjbeonicbcihlaaRows
import Derived.WalkKit
import Derived.ProofKit
import Derived.OpenShut
import Derived.ShutString
import Derived.ChangeOld
import Derived.Below
namespace Go.Proofs.Ytjbeonicbcihlaa.fnExactFsNew
open Go.ChangeShapes Go.WideShapes Go.ChangeAt Go.RowKit
open Go.ChangeMaps (open_string shut_string)
set_option linter.unusedVariables false

theorem own : ownKnob Try.prog.godebug = none := by kernel_rfl
theorem laidOut : laidOutB Try.prog = true := by kernel_rfl

set_option maxRecDepth 20000 in
set_option maxHeartbeats 8000000 in
theorem walk (a0 : Int) (w0 : (Lit.int .i64 a0).wf = true) (a1 : Int) (w1 : (Lit.int .i64 a1).wf = true) (w : World)  :
    Calls Try.prog 4 #[.int .i64 a0, .int .i64 a1] w fun e w' => e = .returned (.bool true) ∧ Below w.heap.size w w' := by
  obtain ⟨E0, HE0⟩ : ∃ x, Hid (newD a0 a1 = x) := ⟨_, rfl⟩
  obtain ⟨E1, HE1⟩ : ∃ x, Hid (newOk a0 a1 = x) := ⟨_, rfl⟩
  have HG0 : Hid (szF E0 ≤ 1048576) := by show szF E0 ≤ 1048576; rw [← HE0.out]; exact newD_sz a0 a1
  have SC : Hid (∀  W, Calls Try.prog 15 #[.int .i64 a0, .int .i64 a1] W fun e w' => ∃ u0, e = .returned (.tuple #[u0, .bool E1]) ∧ OwnFs w' W.heap.size w'.heap.size u0 E0 ∧ Below W.heap.size W w') := by
    intro  W 
    rw [← HE0.out]
    rw [← HE1.out]
    exact specFsNew a0 a1 W
  have IC : Hid (∀  W, Calls Try.prog 16 #[.int .i64 a0, .int .i64 a1] W fun e w' => ∃ u0, e = .returned (.tuple #[u0, .bool E1]) ∧ OwnFs w' W.heap.size w'.heap.size u0 E0 ∧ Below W.heap.size W w') := by
    intro  W 
    rw [← HE0.out]
    rw [← HE1.out]
    exact implFsNew a0 a1 W
  clear HE0
  clear HE1
  go_enter Try.func4, Try.ntmps4
  have hB0 : Below w.heap.size w w := Below.refl _ _
  go_wp2_with fail
  refine (SC.out  _ ).mono ?_
  rintro e w1 ⟨uW0, rfl, hOW0, hb1⟩
  have hz2 : w.heap.size ≤ w1.heap.size := hb1.size
  have hB2 : Below w.heap.size w w1 := hB0.trans (hb1.mono hB0.size)
  clear hB0
  clear hb1
  obtain ⟨aW0, cW0, bW0, eW0, rfl⟩ := hOW0.lay
  have hsz3 : (w1.alloc (.cells #[.slice aW0 E0.ns.length cW0, .slice bW0 E0.ds.length eW0] 30)).heap.size = w1.heap.size + 1 := by simp
  have hz4 : w1.heap.size ≤ (w1.alloc (.cells #[.slice aW0 E0.ns.length cW0, .slice bW0 E0.ds.length eW0] 30)).heap.size := (below1 w1 (.cells #[.slice aW0 E0.ns.length cW0, .slice bW0 E0.ds.length eW0] 30)).size
  have hB4 : Below w.heap.size w (w1.alloc (.cells #[.slice aW0 E0.ns.length cW0, .slice bW0 E0.ds.length eW0] 30)) := hB2.trans ((below1 w1 (.cells #[.slice aW0 E0.ns.length cW0, .slice bW0 E0.ds.length eW0] 30)).mono hB2.size)
  have hOW0_4 := hOW0.below (below1 w1 (.cells #[.slice aW0 E0.ns.length cW0, .slice bW0 E0.ds.length eW0] 30))
  clear hB2 hOW0
  have hVW0 : Var (w1.alloc (.cells #[.slice aW0 E0.ns.length cW0, .slice bW0 E0.ds.length eW0] 30)) w1.heap.size #[.slice aW0 E0.ns.length cW0, .slice bW0 E0.ds.length eW0] 30 := Var.made w1 _ _
  go_wp2_with fail
  refine (IC.out  _ ).mono ?_
  rintro e w5 ⟨uG0, rfl, hOG0, hb5⟩
  have hz6 : (w1.alloc (.cells #[.slice aW0 E0.ns.length cW0, .slice bW0 E0.ds.length eW0] 30)).heap.size ≤ w5.heap.size := hb5.size
  have hB6 : Below w.heap.size w w5 := hB4.trans (hb5.mono hB4.size)
  have hVW0_6 : Var w5 w1.heap.size #[.slice aW0 E0.ns.length cW0, .slice bW0 E0.ds.length eW0] 30 := hVW0.new hb5
  have hOW0_6 := hOW0_4.below hb5
  clear hB4 hVW0 hOW0_4
  clear hb5
  obtain ⟨aG0, cG0, bG0, eG0, rfl⟩ := hOG0.lay
  have hsz7 : (w5.alloc (.cells #[.slice aG0 E0.ns.length cG0, .slice bG0 E0.ds.length eG0] 30)).heap.size = w5.heap.size + 1 := by simp
  have hz8 : w5.heap.size ≤ (w5.alloc (.cells #[.slice aG0 E0.ns.length cG0, .slice bG0 E0.ds.length eG0] 30)).heap.size := (below1 w5 (.cells #[.slice aG0 E0.ns.length cG0, .slice bG0 E0.ds.length eG0] 30)).size
  have hB8 : Below w.heap.size w (w5.alloc (.cells #[.slice aG0 E0.ns.length cG0, .slice bG0 E0.ds.length eG0] 30)) := hB6.trans ((below1 w5 (.cells #[.slice aG0 E0.ns.length cG0, .slice bG0 E0.ds.length eG0] 30)).mono hB6.size)
  have hVW0_8 : Var (w5.alloc (.cells #[.slice aG0 E0.ns.length cG0, .slice bG0 E0.ds.length eG0] 30)) w1.heap.size #[.slice aW0 E0.ns.length cW0, .slice bW0 E0.ds.length eW0] 30 := hVW0_6.new (below1 w5 (.cells #[.slice aG0 E0.ns.length cG0, .slice bG0 E0.ds.length eG0] 30))
  have hOW0_8 := hOW0_6.below (below1 w5 (.cells #[.slice aG0 E0.ns.length cG0, .slice bG0 E0.ds.length eG0] 30))
  have hOG0_8 := hOG0.below (below1 w5 (.cells #[.slice aG0 E0.ns.length cG0, .slice bG0 E0.ds.length eG0] 30))
  clear hB6 hVW0_6 hOW0_6 hOG0
  have hVG0 : Var (w5.alloc (.cells #[.slice aG0 E0.ns.length cG0, .slice bG0 E0.ds.length eG0] 30)) w5.heap.size #[.slice aG0 E0.ns.length cG0, .slice bG0 E0.ds.length eG0] 30 := Var.made w5 _ _
  have yG00 := hVG0.cell 0
  have yG01 := hVG0.cell 1
  simp at yG00 yG01
  have yW00 := hVW0_8.cell 0
  have yW01 := hVW0_8.cell 1
  simp at yW00 yW01
  go_wp2_with fail
  refine (eqFsW _ _ E0 _ (smF_sz HG0.out) hOG0_8.rd hOW0_8.rd).mono ?_
  rintro e w9 ⟨rfl, hb9⟩
  clear yG00 yG01 yW00 yW01
  have hz10 : (w5.alloc (.cells #[.slice aG0 E0.ns.length cG0, .slice bG0 E0.ds.length eG0] 30)).heap.size ≤ w9.heap.size := hb9.size
  have hB10 : Below w.heap.size w w9 := hB8.trans (hb9.mono hB8.size)
  have hVW0_10 : Var w9 w1.heap.size #[.slice aW0 E0.ns.length cW0, .slice bW0 E0.ds.length eW0] 30 := hVW0_8.new hb9
  have hVG0_10 : Var w9 w5.heap.size #[.slice aG0 E0.ns.length cG0, .slice bG0 E0.ds.length eG0] 30 := hVG0.new hb9
  have hOW0_10 := hOW0_8.below hb9
  have hOG0_10 := hOG0_8.below hb9
  clear hB8 hVW0_8 hVG0 hOW0_8 hOG0_8
  clear hb9
  have hcg0 := cntF_le HG0.out
  have yG00 := hVG0_10.cell 0
  have yG01 := hVG0_10.cell 1
  simp at yG00 yG01
  go_wp2_with fail
  refine (markFsW _ _ _ (1) E0 _ (Nat.le_trans HG0.out (by omega)) (by omega) (by omega) hOG0_10).mono ?_
  rintro e w11 ⟨rfl, hMG0, hb11⟩
  clear yG00 yG01
  have hz12 : w9.heap.size ≤ w11.heap.size := hb11.size
  have hB12 : Below w.heap.size w w11 := hB10.trans (hb11.below hB10.size (fun j hj => by omega))
  have hVW0_12 : Var w11 w1.heap.size #[.slice aW0 E0.ns.length cW0, .slice bW0 E0.ds.length eW0] 30 := hVW0_10.only hb11 (fun hj => by omega)
  have hVG0_12 : Var w11 w5.heap.size #[.slice aG0 E0.ns.length cG0, .slice bG0 E0.ds.length eG0] 30 := hVG0_10.only hb11 (fun hj => by omega)
  have hOW0_12 := hOW0_10.only hb11 (fun j h1 h2 hj => by omega)
  clear hB10 hVW0_10 hVG0_10 hOW0_10
  clear hb11 hOG0_10
  have hmq : ¬ ((1 + cntF E0 : Nat) : Int) < 0 := by omega
  have yG00 := hVG0_12.cell 0
  have yG01 := hVG0_12.cell 1
  simp at yG00 yG01
  go_wp2_with fail
  refine (heldFsW _ _ _ (1) E0 _ (Nat.le_trans HG0.out (by omega)) (by omega) hMG0).mono ?_
  rintro e w13 ⟨rfl, hb13⟩
  clear yG00 yG01
  have hz14 : w11.heap.size ≤ w13.heap.size := hb13.size
  have hB14 : Below w.heap.size w w13 := hB12.trans (hb13.mono hB12.size)
  have hVW0_14 : Var w13 w1.heap.size #[.slice aW0 E0.ns.length cW0, .slice bW0 E0.ds.length eW0] 30 := hVW0_12.new hb13
  have hVG0_14 : Var w13 w5.heap.size #[.slice aG0 E0.ns.length cG0, .slice bG0 E0.ds.length eG0] 30 := hVG0_12.new hb13
  have hOW0_14 := hOW0_12.below hb13
  have hOG0_14 := hMG0.below hb13
  clear hB12 hVW0_12 hVG0_12 hOW0_12 hMG0
  clear hb13
  go_wp2_with fail
  refine (IC.out  _ ).mono ?_
  rintro e w15 ⟨uH0, rfl, hOH0, hb15⟩
  have hz16 : w13.heap.size ≤ w15.heap.size := hb15.size
  have hB16 : Below w.heap.size w w15 := hB14.trans (hb15.mono hB14.size)
  have hVW0_16 : Var w15 w1.heap.size #[.slice aW0 E0.ns.length cW0, .slice bW0 E0.ds.length eW0] 30 := hVW0_14.new hb15
  have hVG0_16 : Var w15 w5.heap.size #[.slice aG0 E0.ns.length cG0, .slice bG0 E0.ds.length eG0] 30 := hVG0_14.new hb15
  have hOW0_16 := hOW0_14.below hb15
  have hOG0_16 := hOG0_14.below hb15
  clear hB14 hVW0_14 hVG0_14 hOW0_14 hOG0_14
  clear hb15
  obtain ⟨aH0, cH0, bH0, eH0, rfl⟩ := hOH0.lay
  have hsz17 : (w15.alloc (.cells #[.slice aH0 E0.ns.length cH0, .slice bH0 E0.ds.length eH0] 30)).heap.size = w15.heap.size + 1 := by simp
  have hz18 : w15.heap.size ≤ (w15.alloc (.cells #[.slice aH0 E0.ns.length cH0, .slice bH0 E0.ds.length eH0] 30)).heap.size := (below1 w15 (.cells #[.slice aH0 E0.ns.length cH0, .slice bH0 E0.ds.length eH0] 30)).size
  have hB18 : Below w.heap.size w (w15.alloc (.cells #[.slice aH0 E0.ns.length cH0, .slice bH0 E0.ds.length eH0] 30)) := hB16.trans ((below1 w15 (.cells #[.slice aH0 E0.ns.length cH0, .slice bH0 E0.ds.length eH0] 30)).mono hB16.size)
  have hVW0_18 : Var (w15.alloc (.cells #[.slice aH0 E0.ns.length cH0, .slice bH0 E0.ds.length eH0] 30)) w1.heap.size #[.slice aW0 E0.ns.length cW0, .slice bW0 E0.ds.length eW0] 30 := hVW0_16.new (below1 w15 (.cells #[.slice aH0 E0.ns.length cH0, .slice bH0 E0.ds.length eH0] 30))
  have hVG0_18 : Var (w15.alloc (.cells #[.slice aH0 E0.ns.length cH0, .slice bH0 E0.ds.length eH0] 30)) w5.heap.size #[.slice aG0 E0.ns.length cG0, .slice bG0 E0.ds.length eG0] 30 := hVG0_16.new (below1 w15 (.cells #[.slice aH0 E0.ns.length cH0, .slice bH0 E0.ds.length eH0] 30))
  have hOW0_18 := hOW0_16.below (below1 w15 (.cells #[.slice aH0 E0.ns.length cH0, .slice bH0 E0.ds.length eH0] 30))
  have hOG0_18 := hOG0_16.below (below1 w15 (.cells #[.slice aH0 E0.ns.length cH0, .slice bH0 E0.ds.length eH0] 30))
  have hOH0_18 := hOH0.below (below1 w15 (.cells #[.slice aH0 E0.ns.length cH0, .slice bH0 E0.ds.length eH0] 30))
  clear hB16 hVW0_16 hVG0_16 hOW0_16 hOG0_16 hOH0
  have hVH0 : Var (w15.alloc (.cells #[.slice aH0 E0.ns.length cH0, .slice bH0 E0.ds.length eH0] 30)) w15.heap.size #[.slice aH0 E0.ns.length cH0, .slice bH0 E0.ds.length eH0] 30 := Var.made w15 _ _
  have yH00 := hVH0.cell 0
  have yH01 := hVH0.cell 1
  simp at yH00 yH01
  have yW00 := hVW0_18.cell 0
  have yW01 := hVW0_18.cell 1
  simp at yW00 yW01
  go_wp2_with fail
  refine (eqFsW _ _ E0 _ (smF_sz HG0.out) hOH0_18.rd hOW0_18.rd).mono ?_
  rintro e w19 ⟨rfl, hb19⟩
  clear yH00 yH01 yW00 yW01
  have hz20 : (w15.alloc (.cells #[.slice aH0 E0.ns.length cH0, .slice bH0 E0.ds.length eH0] 30)).heap.size ≤ w19.heap.size := hb19.size
  have hB20 : Below w.heap.size w w19 := hB18.trans (hb19.mono hB18.size)
  have hVW0_20 : Var w19 w1.heap.size #[.slice aW0 E0.ns.length cW0, .slice bW0 E0.ds.length eW0] 30 := hVW0_18.new hb19
  have hVG0_20 : Var w19 w5.heap.size #[.slice aG0 E0.ns.length cG0, .slice bG0 E0.ds.length eG0] 30 := hVG0_18.new hb19
  have hVH0_20 : Var w19 w15.heap.size #[.slice aH0 E0.ns.length cH0, .slice bH0 E0.ds.length eH0] 30 := hVH0.new hb19
  have hOW0_20 := hOW0_18.below hb19
  have hOG0_20 := hOG0_18.below hb19
  have hOH0_20 := hOH0_18.below hb19
  clear hB18 hVW0_18 hVG0_18 hVH0 hOW0_18 hOG0_18 hOH0_18
  clear hb19
  have yG00 := hVG0_20.cell 0
  have yG01 := hVG0_20.cell 1
  simp at yG00 yG01
  go_wp2_with fail
  refine (heldFsW _ _ _ (1) E0 _ (Nat.le_trans HG0.out (by omega)) (by omega) hOG0_20).mono ?_
  rintro e w21 ⟨rfl, hb21⟩
  clear yG00 yG01
  have hz22 : w19.heap.size ≤ w21.heap.size := hb21.size
  have hB22 : Below w.heap.size w w21 := hB20.trans (hb21.mono hB20.size)
  have hVW0_22 : Var w21 w1.heap.size #[.slice aW0 E0.ns.length cW0, .slice bW0 E0.ds.length eW0] 30 := hVW0_20.new hb21
  have hVG0_22 : Var w21 w5.heap.size #[.slice aG0 E0.ns.length cG0, .slice bG0 E0.ds.length eG0] 30 := hVG0_20.new hb21
  have hVH0_22 : Var w21 w15.heap.size #[.slice aH0 E0.ns.length cH0, .slice bH0 E0.ds.length eH0] 30 := hVH0_20.new hb21
  have hOW0_22 := hOW0_20.below hb21
  have hOG0_22 := hOG0_20.below hb21
  clear hB20 hVW0_20 hVG0_20 hVH0_20 hOW0_20 hOG0_20
  clear hb21
  go_wp2
  go_ret
  exact ⟨rfl, hB22⟩

set_option maxRecDepth 100000 in
theorem lifted (os : Os) (started : os.Started) (H : Type) (enc : TypeId × Value → H) :
    ReturnsInHanded {} Try.checked os 4 .any (Rows.fnExactFsNewSpec.pre6 enc Try.prog Try.f4 Rows.fnExactFsNewRow.domain false) (Rows.fnExactFsNewSpec.post enc Try.prog Try.f4 false true false false) := by
  refine returnsInHanded_of_change (C := Try.checked) own started (by kernel_rfl) Try.func4
    (ChangeSpec.witness6 (enc := enc) (C := Try.checked) false ⟨#[], #[.int .i64 0, .int .i64 0], []⟩ 8 (by kernel_rfl) (by kernel_rfl) (by kernel_rfl) (by kernel_rfl)) ?_
  intro W base args ds gs before hval0 hW hcnd _
  have hval : ∀ (j : Nat) t v, Try.f4.params[j]? = some t → args[j]? = some v → Value.okWide Try.prog W .any base t v := hval0
  have hW' := hW
  obtain ⟨p, q, hA0, hV, rfl, hfz, hnd⟩ := hW
  have hA : DataW.TrodAll enc Try.prog W 0 (fun _ => true) true Try.f4.params.toList args.toList ds p := hA0
  rw [Try.params4] at hA hval
  obtain ⟨v0, vs0, d0, ds0, p0, q0, hargs, rfl, rfl, h0, rr0⟩ := trodAll_cons hA
  obtain ⟨v1, vs1, d1, ds1, p1, q1, rfl, rfl, rfl, h1, rr1⟩ := trodAll_cons rr0
  obtain ⟨rfl, rfl, rfl⟩ := trodAll_nil rr1
  obtain rfl : args = #[v0, v1] := by cases args; simp_all
  obtain ⟨rfl, rfl⟩ := trodVars_none hV
  have k0 := h0
  have lt0 : ∀ x ∈ p0, x.block < W.heap.size := by obtain ⟨m, hm⟩ := k0; exact DataW.trod_lt m _ _ _ hm
  have k1 := h1
  have lt1 : ∀ x ∈ p1, x.block < W.heap.size := by obtain ⟨m, hm⟩ := k1; exact DataW.trod_lt m _ _ _ hm
  obtain ⟨a0, rfl, rfl, rfl, w0⟩ := open_int Try.underlying3 (hval 0 3 v0 rfl rfl) h0
  obtain ⟨a1, rfl, rfl, rfl, w1⟩ := open_int Try.underlying3 (hval 1 3 v1 rfl rfl) h1
  clear hA0 hval0
  refine (walk a0 w0 a1 w1 W).mono fun e W' ⟨he, bel⟩ => ?_
  subst he
  exact ⟨_, rfl, _, _, _, [], _, [], hW', trodAll_mk1 (shut_bool Try.underlying4 _), (trodAll_cons_mk (Below.trod laidOut (by kernel_rfl) (of_decide_eq_true (by kernel_rfl)) k0 bel lt0) (trodAll_cons_mk (Below.trod laidOut (by kernel_rfl) (of_decide_eq_true (by kernel_rfl)) k1 bel lt1) trodAll_mk0)), rfl, bel.frame _, fun h => by cases h⟩

theorem over : Rows.fnExactFsNewRow.holds Try.pinned (OpenSpec.ofChange Rows.fnExactFsNewSpec) :=
  OpenClaim.holds_of_wide 4 Try.f4 rfl rfl rfl rfl rfl rfl rfl ⟨rfl, rfl, rfl, rfl, rfl⟩ rfl rfl rfl rfl rfl (by kernel_rfl) Try.func4 (by kernel_rfl)
    (of_decide_eq_true (by kernel_rfl)) (by unfold Func.isWrapper; first | (rw [if_pos (by decide +kernel)]; kernel_rfl) | (rw [if_neg (by decide +kernel)]; exact ⟨rfl, rfl⟩))
    (fun os started H enc _ => lifted os started H enc)

theorem proved : Rows.FnExactFsNewSaid := over
#print axioms proved
end Go.Proofs.Ytjbeonicbcihlaa.fnExactFsNew
