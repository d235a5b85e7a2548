/-
  For every row of writes the law FnExactHeadText returns true, and what came in reads behind the call as it read before: no condition.
-/
import Derived.Test.YtlidmnehpcodkaaOpenE
import Derived.Test.YtlidmnehpcodkaaSCommitW
import Derived.Test.YtlidmnehpcodkaaMarkE
import Derived.Test.YtlidmnehpcodkaaIJourW
import Derived.Test.YtlidmnehpcodkaaRows
import Derived.WalkKit
import Derived.ProofKit
import Derived.OpenShut
import Derived.ShutString
import Derived.ChangeOld
import Derived.Below
namespace Go.Proofs.Ytlidmnehpcodkaa.fnExactHeadText
open Go.ChangeShapes Go.WideShapes Go.ChangeAt Go.RowKit
open Go.ChangeMaps (open_string shut_string)
set_option linter.unusedVariables false

theorem own : ownKnob Try.prog.godebug = none := by kernel_rfl
theorem laidOut : laidOutB Try.prog = true := by kernel_rfl

set_option maxRecDepth 20000 in
set_option maxHeartbeats 4000000 in
theorem walk (q0 : Option Addr) (qc0 : Nat) (P0 : List PutD) (f0 : FitP P0) (w : World) (r0 : RdF encP 2 w q0 P0) :
    Calls Try.prog 4 #[.slice q0 P0.length qc0] w fun e w' => e = .returned (.bool true) ∧ Below w.heap.size w w' := by
  have HR : Hid (∀ W, Below w.heap.size w W → RdF encP 2 W q0 P0) := fun W h => r0.below h (Nat.le_refl _)
  have HF : Hid (FitP P0) := f0
  clear r0 f0
  obtain ⟨Q, HQ⟩ : ∃ Q, Hid (headText P0 = Q) := ⟨_, rfl⟩
  have SC : Hid (∀ a c W, P0.length ≤ 1048576 → RdF encP 2 W a P0 → Calls Try.prog 13 #[.slice a P0.length c] W fun e w' => e = .returned (.string Q) ∧ Below W.heap.size W w') := by
    intro a c W h1 h2
    rw [← HQ.out]
    exact specHeadText a c P0 W (by omega) h2
  have IC : Hid (∀ a c W, P0.length ≤ 1048576 → RdF encP 2 W a P0 → Calls Try.prog 14 #[.slice a P0.length c] W fun e w' => e = .returned (.string Q) ∧ Below W.heap.size W w') := by
    intro a c W h1 h2
    rw [← HQ.out]
    exact implHeadText a c P0 W (by omega) h2
  go_enter Try.func4, Try.ntmps4
  go_wp2_with fail
  refine (szPuts q0 qc0 P0 1048576 _ (by omega) (by omega) HF.out.1 HF.out.2 (HR.out _ (Below.refl _ _))).mono ?_
  rintro e w1 ⟨r, rfl, hsz, hr0, hr1, hb1⟩
  by_cases hneg : r < 0
  · clear hsz
    go_wp2
    go_ret
    exact ⟨rfl, hb1⟩
  have HL : Hid (P0.length ≤ 1048576) := by have h1 := hsz (by omega); have h2 := szP_len P0; show _ ≤ _; omega
  have hll := HL.out
  clear hsz
  go_wp2_with fail
  refine (toPuts _ _ P0 _ hll (HR.out _ hb1)).mono ?_
  rintro e w2 ⟨v2, rfl, ho2, hb2⟩
  obtain ⟨x2, c2, rfl, _, hx2⟩ := own_rdF encP_len ho2 rfl
  have hB2 : Below w.heap.size w w2 := hb1.trans (hb2.mono hb1.size)
  clear ho2 hb1 hb2
  go_wp2_with fail
  refine (SC.out _ _ _ HL.out hx2).mono ?_
  rintro e w3 ⟨rfl, hb3⟩
  have hB3 : Below w.heap.size w w3 := hB2.trans (hb3.mono hB2.size)
  clear hb3 hB2 hx2
  go_wp2_with fail
  refine (toPuts _ _ P0 _ hll (HR.out _ hB3)).mono ?_
  rintro e w4 ⟨v4, rfl, ho4, hb4⟩
  obtain ⟨x4, c4, rfl, _, hx4⟩ := own_rdF encP_len ho4 rfl
  have hB4 : Below w.heap.size w w4 := hB3.trans (hb4.mono hB3.size)
  clear hb4 hB3
  go_wp2_with fail
  refine (IC.out _ _ _ HL.out hx4).mono ?_
  rintro e w5 ⟨rfl, hb5⟩
  have HX5 : Hid (RdF encP 2 w5 x4 P0) := hx4.below hb5 (Nat.le_refl _)
  have hB5 : Below w.heap.size w w5 := hB4.trans (hb5.mono hB4.size)
  clear hb5 hB4 hx4 ho4
  have hqq : (Q.toList == Q.toList) = true := by simp
  go_wp2_with fail
  refine (toPuts _ _ P0 _ hll (HR.out _ hB5)).mono ?_
  rintro e w6 ⟨v6, rfl, ho6, hb6⟩
  obtain ⟨x6, c6, rfl, _, hx6⟩ := own_rdF encP_len ho6 rfl
  have hB6 : Below w.heap.size w w6 := hB5.trans (hb6.mono hB5.size)
  have HX6 : Hid (RdF encP 2 w6 x4 P0) := HX5.out.below hb6 (Nat.le_refl _)
  clear hb6 hB5 ho6
  go_wp2_with fail
  refine (eqPuts _ _ _ _ P0 _ (by omega) HX6.out hx6).mono ?_
  rintro e w7 ⟨rfl, hb7⟩
  have hB7 : Below w.heap.size w w7 := hB6.trans (hb7.mono hB6.size)
  go_wp2
  go_ret
  exact ⟨rfl, hB7⟩

set_option maxRecDepth 100000 in
theorem lifted (os : Os) (started : os.Started) (H : Type) (enc : TypeId × Value → H) :
    ReturnsInHanded {} Try.checked os 4 .any (Rows.fnExactHeadTextSpec.pre6 enc Try.prog Try.f4 Rows.fnExactHeadTextRow.domain false) (Rows.fnExactHeadTextSpec.post enc Try.prog Try.f4 false true false false) := by
  refine returnsInHanded_of_change (C := Try.checked) own started (by kernel_rfl) Try.func4
    (ChangeSpec.witness6 (enc := enc) (C := Try.checked) false ⟨#[], #[.slice none 0 0], []⟩ 8 (by kernel_rfl) (by kernel_rfl) (by kernel_rfl) (by kernel_rfl)) ?_
  intro W base args ds gs before hval0 hW hcnd _
  have hval : ∀ (j : Nat) t v, Try.f4.params[j]? = some t → args[j]? = some v → Value.okWide Try.prog W .any base t v := hval0
  have hW' := hW
  obtain ⟨p, q, hA0, hV, rfl, hfz, hnd⟩ := hW
  have hA : DataW.TrodAll enc Try.prog W 0 (fun _ => true) true Try.f4.params.toList args.toList ds p := hA0
  rw [Try.params4] at hA hval
  obtain ⟨v0, vs0, d0, ds0, p0, q0, hargs, rfl, rfl, h0, rr0⟩ := trodAll_cons hA
  obtain ⟨rfl, rfl, rfl⟩ := trodAll_nil rr0
  obtain rfl : args = #[v0] := by cases args; simp_all
  obtain ⟨rfl, rfl⟩ := trodVars_none hV
  have k0 := h0
  have lt0 : ∀ x ∈ p0, x.block < W.heap.size := by obtain ⟨m, hm⟩ := k0; exact DataW.trod_lt m _ _ _ hm
  obtain ⟨q0, qc0, P0, rfl, f0, r0⟩ := open_Puts (hval 0 22 v0 rfl rfl) h0
  clear hA0 hval0
  refine (walk q0 qc0 P0 f0 W r0).mono fun e W' ⟨he, bel⟩ => ?_
  subst he
  exact ⟨_, rfl, _, _, _, [], _, [], hW', trodAll_mk1 (shut_bool Try.underlying4 _), (trodAll_cons_mk (Below.trod laidOut (by kernel_rfl) (of_decide_eq_true (by kernel_rfl)) k0 bel lt0) trodAll_mk0), rfl, bel.frame _, fun h => by cases h⟩

theorem over : Rows.fnExactHeadTextRow.holds Try.pinned (OpenSpec.ofChange Rows.fnExactHeadTextSpec) :=
  OpenClaim.holds_of_wide 4 Try.f4 rfl rfl rfl rfl rfl rfl rfl ⟨rfl, rfl, rfl, rfl, rfl⟩ rfl rfl rfl rfl rfl (by kernel_rfl) Try.func4 (by kernel_rfl)
    (of_decide_eq_true (by kernel_rfl)) (by unfold Func.isWrapper; first | (rw [if_pos (by decide +kernel)]; kernel_rfl) | (rw [if_neg (by decide +kernel)]; exact ⟨rfl, rfl⟩))
    (fun os started H enc _ => lifted os started H enc)

theorem proved : Rows.FnExactHeadTextSaid := over
#print axioms proved
end Go.Proofs.Ytlidmnehpcodkaa.fnExactHeadText
