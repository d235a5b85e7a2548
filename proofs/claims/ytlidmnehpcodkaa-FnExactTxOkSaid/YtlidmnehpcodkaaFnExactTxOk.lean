/-
  For every number and row of writes the law FnExactTxOk returns true, and what came in reads behind the call as it read before: no condition.
-/
import Derived.Test.YtlidmnehpcodkaaOpenE
import Derived.Test.YtlidmnehpcodkaaSCommitW
import Derived.Test.YtlidmnehpcodkaaMarkE
import Derived.Test.YtlidmnehpcodkaaIJourW
import Derived.Test.YtlidmnehpcodkaaRows
import Derived.WalkKit
import Derived.ProofKit
import Derived.OpenShut
import Derived.ShutString
import Derived.ChangeOld
import Derived.Below
namespace Go.Proofs.Ytlidmnehpcodkaa.fnExactTxOk
open Go.ChangeShapes Go.WideShapes Go.ChangeAt Go.RowKit
open Go.ChangeMaps (open_string shut_string)
set_option linter.unusedVariables false

theorem own : ownKnob Try.prog.godebug = none := by kernel_rfl
theorem laidOut : laidOutB Try.prog = true := by kernel_rfl

set_option maxRecDepth 20000 in
set_option maxHeartbeats 4000000 in
theorem walk (a0 : Int) (w0 : (Lit.int .i64 a0).wf = true) (q1 : Option Addr) (qc1 : Nat) (P1 : List PutD) (f1 : FitP P1) (w : World) (r1 : RdF encP 2 w q1 P1) :
    Calls Try.prog 3 #[.int .i64 a0, .slice q1 P1.length qc1] w fun e w' => e = .returned (.bool true) ∧ Below w.heap.size w w' := by
  have HR : Hid (∀ W, Below w.heap.size w W → RdF encP 2 W q1 P1) := fun W h => r1.below h (Nat.le_refl _)
  have HF : Hid (FitP P1) := f1
  clear r1 f1
  obtain ⟨Q, HQ⟩ : ∃ Q, Hid (jtx a0 P1 = Q) := ⟨_, rfl⟩
  have SC : Hid (∀ a c W, P1.length ≤ 1048576 → RdF encP 2 W a P1 → Calls Try.prog 9 #[.int .i64 a0, .slice a P1.length c] W fun e w' => e = .returned (.bool Q) ∧ Below W.heap.size W w') := by
    intro a c W h1 h2
    rw [← HQ.out]
    exact specTxOk a c P1 a0 W (by omega) h2
  have IC : Hid (∀ a c W, P1.length ≤ 1048576 → RdF encP 2 W a P1 → Calls Try.prog 11 #[.int .i64 a0, .slice a P1.length c] W fun e w' => e = .returned (.bool Q) ∧ Below W.heap.size W w') := by
    intro a c W h1 h2
    rw [← HQ.out]
    exact implTxOk a c P1 a0 W (by omega) h2
  go_enter Try.func3, Try.ntmps3
  go_wp2_with fail
  refine (szPuts q1 qc1 P1 1048576 _ (by omega) (by omega) HF.out.1 HF.out.2 (HR.out _ (Below.refl _ _))).mono ?_
  rintro e w1 ⟨r, rfl, hsz, hr0, hr1, hb1⟩
  by_cases hneg : r < 0
  · clear hsz
    go_wp2
    go_ret
    exact ⟨rfl, hb1⟩
  have HL : Hid (P1.length ≤ 1048576) := by have h1 := hsz (by omega); have h2 := szP_len P1; show _ ≤ _; omega
  have hll := HL.out
  clear hsz
  go_wp2_with fail
  refine (toPuts _ _ P1 _ hll (HR.out _ hb1)).mono ?_
  rintro e w2 ⟨v2, rfl, ho2, hb2⟩
  obtain ⟨x2, c2, rfl, _, hx2⟩ := own_rdF encP_len ho2 rfl
  have hB2 : Below w.heap.size w w2 := hb1.trans (hb2.mono hb1.size)
  clear ho2 hb1 hb2
  go_wp2_with fail
  refine (SC.out _ _ _ HL.out hx2).mono ?_
  rintro e w3 ⟨rfl, hb3⟩
  have hB3 : Below w.heap.size w w3 := hB2.trans (hb3.mono hB2.size)
  clear hb3 hB2 hx2
  go_wp2_with fail
  refine (toPuts _ _ P1 _ hll (HR.out _ hB3)).mono ?_
  rintro e w4 ⟨v4, rfl, ho4, hb4⟩
  obtain ⟨x4, c4, rfl, _, hx4⟩ := own_rdF encP_len ho4 rfl
  have hB4 : Below w.heap.size w w4 := hB3.trans (hb4.mono hB3.size)
  clear hb4 hB3
  go_wp2_with fail
  refine (IC.out _ _ _ HL.out hx4).mono ?_
  rintro e w5 ⟨rfl, hb5⟩
  have HX5 : Hid (RdF encP 2 w5 x4 P1) := hx4.below hb5 (Nat.le_refl _)
  have hB5 : Below w.heap.size w w5 := hB4.trans (hb5.mono hB4.size)
  clear hb5 hB4 hx4 ho4
  go_wp2_with fail
  refine (toPuts _ _ P1 _ hll (HR.out _ hB5)).mono ?_
  rintro e w6 ⟨v6, rfl, ho6, hb6⟩
  obtain ⟨x6, c6, rfl, _, hx6⟩ := own_rdF encP_len ho6 rfl
  have hB6 : Below w.heap.size w w6 := hB5.trans (hb6.mono hB5.size)
  have HX6 : Hid (RdF encP 2 w6 x4 P1) := HX5.out.below hb6 (Nat.le_refl _)
  clear hb6 hB5 ho6
  go_wp2_with fail
  refine (eqPuts _ _ _ _ P1 _ (by omega) HX6.out hx6).mono ?_
  rintro e w7 ⟨rfl, hb7⟩
  have hB7 : Below w.heap.size w w7 := hB6.trans (hb7.mono hB6.size)
  go_wp2
  go_ret
  exact ⟨rfl, hB7⟩

set_option maxRecDepth 100000 in
theorem lifted (os : Os) (started : os.Started) (H : Type) (enc : TypeId × Value → H) :
    ReturnsInHanded {} Try.checked os 3 .any (Rows.fnExactTxOkSpec.pre6 enc Try.prog Try.f3 Rows.fnExactTxOkRow.domain false) (Rows.fnExactTxOkSpec.post enc Try.prog Try.f3 false true false false) := by
  refine returnsInHanded_of_change (C := Try.checked) own started (by kernel_rfl) Try.func3
    (ChangeSpec.witness6 (enc := enc) (C := Try.checked) false ⟨#[], #[.int .i64 0, .slice none 0 0], []⟩ 8 (by kernel_rfl) (by kernel_rfl) (by kernel_rfl) (by kernel_rfl)) ?_
  intro W base args ds gs before hval0 hW hcnd _
  have hval : ∀ (j : Nat) t v, Try.f3.params[j]? = some t → args[j]? = some v → Value.okWide Try.prog W .any base t v := hval0
  have hW' := hW
  obtain ⟨p, q, hA0, hV, rfl, hfz, hnd⟩ := hW
  have hA : DataW.TrodAll enc Try.prog W 0 (fun _ => true) true Try.f3.params.toList args.toList ds p := hA0
  rw [Try.params3] at hA hval
  obtain ⟨v0, vs0, d0, ds0, p0, q0, hargs, rfl, rfl, h0, rr0⟩ := trodAll_cons hA
  obtain ⟨v1, vs1, d1, ds1, p1, q1, rfl, rfl, rfl, h1, rr1⟩ := trodAll_cons rr0
  obtain ⟨rfl, rfl, rfl⟩ := trodAll_nil rr1
  obtain rfl : args = #[v0, v1] := by cases args; simp_all
  obtain ⟨rfl, rfl⟩ := trodVars_none hV
  have k0 := h0
  have lt0 : ∀ x ∈ p0, x.block < W.heap.size := by obtain ⟨m, hm⟩ := k0; exact DataW.trod_lt m _ _ _ hm
  have k1 := h1
  have lt1 : ∀ x ∈ p1, x.block < W.heap.size := by obtain ⟨m, hm⟩ := k1; exact DataW.trod_lt m _ _ _ hm
  obtain ⟨a0, rfl, rfl, rfl, w0⟩ := open_int Try.underlying3 (hval 0 3 v0 rfl rfl) h0
  obtain ⟨q1, qc1, P1, rfl, f1, r1⟩ := open_Puts (hval 1 22 v1 rfl rfl) h1
  clear hA0 hval0
  refine (walk a0 w0 q1 qc1 P1 f1 W r1).mono fun e W' ⟨he, bel⟩ => ?_
  subst he
  exact ⟨_, rfl, _, _, _, [], _, [], hW', trodAll_mk1 (shut_bool Try.underlying4 _), (trodAll_cons_mk (Below.trod laidOut (by kernel_rfl) (of_decide_eq_true (by kernel_rfl)) k0 bel lt0) (trodAll_cons_mk (Below.trod laidOut (by kernel_rfl) (of_decide_eq_true (by kernel_rfl)) k1 bel lt1) trodAll_mk0)), rfl, bel.frame _, fun h => by cases h⟩

theorem over : Rows.fnExactTxOkRow.holds Try.pinned (OpenSpec.ofChange Rows.fnExactTxOkSpec) :=
  OpenClaim.holds_of_wide 3 Try.f3 rfl rfl rfl rfl rfl rfl rfl ⟨rfl, rfl, rfl, rfl, rfl⟩ rfl rfl rfl rfl rfl (by kernel_rfl) Try.func3 (by kernel_rfl)
    (of_decide_eq_true (by kernel_rfl)) (by unfold Func.isWrapper; first | (rw [if_pos (by decide +kernel)]; kernel_rfl) | (rw [if_neg (by decide +kernel)]; exact ⟨rfl, rfl⟩))
    (fun os started H enc _ => lifted os started H enc)

theorem proved : Rows.FnExactTxOkSaid := over
#print axioms proved
end Go.Proofs.Ytlidmnehpcodkaa.fnExactTxOk
