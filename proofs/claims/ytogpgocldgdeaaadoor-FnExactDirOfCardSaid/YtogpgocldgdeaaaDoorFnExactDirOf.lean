/-
  For every text the law FnExactDirOf returns true, and what came in reads behind the call as it read before: no condition.
-/
import Derived.Test.YtogpgocldgdeaaaDoorEntF
import Derived.Test.YtogpgocldgdeaaaDoorDirX
import Derived.Deep.RegionHeld3
import Derived.Test.YtogpgocldgdeaaaDoorCards
import Derived.Test.YtogpgocldgdeaaaDoorTie
import Derived.LaidMore
import Derived.Stop.Joined
import Derived.Stop.LaidErr
import Derived.Lib.LaidTab
import Derived.Lib.SmallJoins
import Derived.SevenTiedAt
import Derived.WalkKit
import Derived.ProofKit
import Derived.OpenShut
import Derived.ShutString
import Derived.ChangeOld
import Derived.Below
namespace Go.Proofs.YtogpgocldgdeaaaDoor.fnExactDirOf
open Go.ChangeShapes Go.WideShapes Go.ChangeAt Go.RowKit
open Go.ChangeMaps (open_string shut_string)
set_option linter.unusedVariables false

theorem own : ownKnob Tryd.prog.godebug = none := by kernel_rfl
theorem door_met (os : Os) (args : Array Value) : laidMetH Tryd.prog Rows.fnExactDirOfRow.laid ((World.doorLaid Tryd.prog 28 os).forCall (fun _ _ => 0) ⟨#[], args, []⟩).memory :=
  laidMetH_of_parts3 (fuel := 8) (laidMet_of_run' 8 (by kernel_rfl) (by kernel_rfl)) (by kernel_rfl) (by kernel_rfl)
theorem laidOut : laidOutB Tryd.prog = true := by kernel_rfl

set_option maxRecDepth 20000 in
set_option maxHeartbeats 8000000 in
theorem walk (a0 : ByteArray) (w0 : a0.size ≤ maxLen) (w : World)  (hL : laidMetH Tryd.prog Rows.fnExactDirOfRow.laid w) :
    Calls Tryd.prog 4 #[.string a0] w fun e w' => e = .returned (.bool true) ∧ Below w.heap.size w w' := by
  obtain ⟨aE, hv⟩ := errVar (Rows.fnExactDirOfRow.laid) rfl hL
  have hgc : w.cell? ⟨errG, 0, none⟩ = some (.iface 86 (.pointer (some aE))) := by simpa using World.var?_cell gErr hv 0
  have HEA : Hid (ErrAt aE w) := ⟨World.block_lt_of_cell? w _ hgc, hgc⟩
  clear hL hv hgc
  by_cases hbs0 : 1048576 < a0.size
  · go_enter Tryd.func4, Tryd.ntmps4
    go_wp2
    go_ret
    exact ⟨rfl, Below.refl _ _⟩
  have hst0 : a0.size ≤ 1048576 := by omega
  obtain ⟨E0, HE0⟩ : ∃ x, Hid (dirL a0 = x) := ⟨_, rfl⟩
  obtain ⟨E1, HE1⟩ : ∃ x, Hid (dirOk a0 = x) := ⟨_, rfl⟩
  have HG0 : Hid (E0.length ≤ 2097153) := by show E0.length ≤ 2097153; rw [← HE0.out]; exact dirL_small hst0
  have SC : Hid (∀  W, Calls Tryd.prog 14 #[.string a0] W fun e w' => ∃ u0, e = .returned (.tuple #[u0, .bool E1]) ∧ OwnEn w' W.heap.size w'.heap.size u0 E0 ∧ Below W.heap.size W w') := by
    intro  W 
    rw [← HE0.out]
    rw [← HE1.out]
    exact specDirOf a0 W hst0
  have IC : Hid (∀  W, Below w.heap.size w W → Calls Tryd.prog 12 #[.string a0] W fun e w' => ∃ u0, e = .returned (.tuple #[u0, .bool E1]) ∧ OwnEn w' W.heap.size w'.heap.size u0 E0 ∧ Below W.heap.size W w') := by
    intro  W hBW
    rw [← HE0.out]
    rw [← HE1.out]
    exact implDirOf a0 aE W hst0 (HEA.out.below hBW)
  clear HE0
  clear HE1
  go_enter Tryd.func4, Tryd.ntmps4
  have hB0 : Below w.heap.size w w := Below.refl _ _
  go_wp2_with fail
  refine (SC.out  _ ).mono ?_
  rintro e w1 ⟨uW0, rfl, hOW0, hb1⟩
  have hz2 : w.heap.size ≤ w1.heap.size := hb1.size
  have hB2 : Below w.heap.size w w1 := hB0.trans (hb1.mono hB0.size)
  clear hB0
  clear hb1
  go_wp2_with fail
  refine (IC.out  _ hB2).mono ?_
  rintro e w3 ⟨uG0, rfl, hOG0, hb3⟩
  have hz4 : w1.heap.size ≤ w3.heap.size := hb3.size
  have hB4 : Below w.heap.size w w3 := hB2.trans (hb3.mono hB2.size)
  have hOW0_4 := hOW0.below hb3
  clear hB2 hOW0
  clear hb3
  go_wp2_with fail
  refine (eqEnX _ _ E0 _ (Nat.le_trans HG0.out (by omega)) hOG0.rd hOW0_4.rd).mono ?_
  rintro e w5 ⟨rfl, hb5⟩
  have hz6 : w3.heap.size ≤ w5.heap.size := hb5.size
  have hB6 : Below w.heap.size w w5 := hB4.trans (hb5.mono hB4.size)
  have hOW0_6 := hOW0_4.below hb5
  have hOG0_6 := hOG0.below hb5
  clear hB4 hOW0_4 hOG0
  clear hb5
  have hcg0 := HG0.out
  go_wp2_with fail
  refine (markEnX _ _ _ (1) E0 _ (Nat.le_trans HG0.out (by omega)) (by omega) (by omega) hOG0_6).mono ?_
  rintro e w7 ⟨rfl, hMG0, hb7⟩
  have hz8 : w5.heap.size ≤ w7.heap.size := hb7.size
  have hB8 : Below w.heap.size w w7 := hB6.trans (hb7.below hB6.size (fun j hj => by omega))
  have hOW0_8 := hOW0_6.only hb7 (fun j h1 h2 hj => by omega)
  clear hB6 hOW0_6
  clear hb7 hOG0_6
  have hmq : ¬ ((1 + 2 * E0.length : Nat) : Int) < 0 := by omega
  go_wp2_with fail
  refine (heldEnX _ _ _ (1) E0 _ (Nat.le_trans HG0.out (by omega)) (by omega) hMG0).mono ?_
  rintro e w9 ⟨rfl, hb9⟩
  have hz10 : w7.heap.size ≤ w9.heap.size := hb9.size
  have hB10 : Below w.heap.size w w9 := hB8.trans (hb9.mono hB8.size)
  have hOW0_10 := hOW0_8.below hb9
  have hOG0_10 := hMG0.below hb9
  clear hB8 hOW0_8 hMG0
  clear hb9
  go_wp2_with fail
  refine (IC.out  _ hB10).mono ?_
  rintro e w11 ⟨uH0, rfl, hOH0, hb11⟩
  have hz12 : w9.heap.size ≤ w11.heap.size := hb11.size
  have hB12 : Below w.heap.size w w11 := hB10.trans (hb11.mono hB10.size)
  have hOW0_12 := hOW0_10.below hb11
  have hOG0_12 := hOG0_10.below hb11
  clear hB10 hOW0_10 hOG0_10
  clear hb11
  go_wp2_with fail
  refine (eqEnX _ _ E0 _ (Nat.le_trans HG0.out (by omega)) hOH0.rd hOW0_12.rd).mono ?_
  rintro e w13 ⟨rfl, hb13⟩
  have hz14 : w11.heap.size ≤ w13.heap.size := hb13.size
  have hB14 : Below w.heap.size w w13 := hB12.trans (hb13.mono hB12.size)
  have hOW0_14 := hOW0_12.below hb13
  have hOG0_14 := hOG0_12.below hb13
  have hOH0_14 := hOH0.below hb13
  clear hB12 hOW0_12 hOG0_12 hOH0
  clear hb13
  go_wp2_with fail
  refine (heldEnX _ _ _ (1) E0 _ (Nat.le_trans HG0.out (by omega)) (by omega) hOG0_14).mono ?_
  rintro e w15 ⟨rfl, hb15⟩
  have hz16 : w13.heap.size ≤ w15.heap.size := hb15.size
  have hB16 : Below w.heap.size w w15 := hB14.trans (hb15.mono hB14.size)
  have hOW0_16 := hOW0_14.below hb15
  have hOG0_16 := hOG0_14.below hb15
  clear hB14 hOW0_14 hOG0_14
  clear hb15
  go_wp2
  go_ret
  exact ⟨rfl, hB16⟩

set_option maxRecDepth 100000 in
theorem lifted (os : Os) (started : os.Started) (H : Type) (enc : TypeId × Value → H) :
    ReturnsInHanded {} Tryd.checked os 4 .any (fun w args => (Rows.fnExactDirOfSpec.pre enc Tryd.prog Tryd.f4 Rows.fnExactDirOfRow.domain false w args ∧ laidMetH Tryd.prog Rows.fnExactDirOfRow.laid w) ∧ sizedMet enc Tryd.prog Tryd.f4 (OpenSpec.ofChange Rows.fnExactDirOfSpec) false w args) (Rows.fnExactDirOfSpec.post enc Tryd.prog Tryd.f4 false true false false) := by
  refine returnsInHanded_of_change_and (C := Tryd.checked) (X := fun w _ => laidMetH Tryd.prog Rows.fnExactDirOfRow.laid w) (fun _ _ _ hh h => h.of_heap hh) own started (by kernel_rfl) Tryd.func4
    (ChangeSpec.witness_shaped (enc := enc) (C := Tryd.checked) (os := os) (X := fun w _ => laidMetH Tryd.prog Rows.fnExactDirOfRow.laid w) false (World.doorLaid Tryd.prog 28 os) #[.string ByteArray.empty] 8 rfl (World.shaped_of_RefB (by kernel_rfl) (by kernel_rfl)) (by kernel_rfl) (by kernel_rfl) (by kernel_rfl) (door_met os _)) ?_
  intro W base args ds gs before hval0 hW _ _ hL _
  have hval : ∀ (j : Nat) t v, Tryd.f4.params[j]? = some t → args[j]? = some v → Value.okWide Tryd.prog W .any base t v := hval0
  have hW' := hW
  obtain ⟨p, q, hA0, hV, rfl, hfz, hnd⟩ := hW
  have hA : DataW.TrodAll enc Tryd.prog W 0 (fun _ => true) true Tryd.f4.params.toList args.toList ds p := hA0
  rw [Tryd.params4] at hA hval
  obtain ⟨v0, vs0, d0, ds0, p0, q0, hargs, rfl, rfl, h0, rr0⟩ := trodAll_cons hA
  obtain ⟨rfl, rfl, rfl⟩ := trodAll_nil rr0
  obtain rfl : args = #[v0] := by cases args; simp_all
  have hV1 : DataW.TrodVars enc Tryd.prog W (fun _ => true) ["loop.example/g00483/impl.errNoNum"] gs q := hV
  obtain ⟨xv, hv0⟩ := errVar (Rows.fnExactDirOfRow.laid) rfl hL
  obtain ⟨rfl, rfl⟩ := hV1.unique (vars_read1 enc gErr tErr Tryd.underlying83 hv0 trivial _)
  have k0 := h0
  have lt0 : ∀ x ∈ p0, x.block < W.heap.size := by obtain ⟨m, hm⟩ := k0; exact DataW.trod_lt m _ _ _ hm
  obtain ⟨a0, rfl, rfl, rfl, w0⟩ := open_string Tryd.underlying9 (hval 0 9 v0 rfl rfl) h0
  clear hA0 hval0
  refine (walk a0 w0 W hL).mono fun e W' ⟨he, bel⟩ => ?_
  subst he
  exact ⟨_, rfl, _, _, _, [], _, [.cell errG 0], hW', trodAll_mk1 (shut_bool Tryd.underlying4 _), (trodAll_cons_mk (Below.trod laidOut (by kernel_rfl) (of_decide_eq_true (by kernel_rfl)) k0 bel lt0) trodAll_mk0), vars_read1 enc gErr tErr Tryd.underlying83 (Joins.var_stays gErr hv0 bel (Nat.le_refl _)) trivial _, bel.frame _, fun h => by cases h⟩

theorem over : Rows.fnExactDirOfRow.holds Tryd.pinned (OpenSpec.ofChange Rows.fnExactDirOfSpec) :=
  OpenClaim.holds_of_wide 4 Tryd.f4 rfl rfl rfl rfl rfl rfl rfl ⟨rfl, rfl, rfl, rfl, rfl⟩ rfl rfl rfl rfl rfl (by kernel_rfl) Tryd.func4 (by kernel_rfl)
    (of_decide_eq_true (by kernel_rfl)) (by unfold Func.isWrapper; first | (rw [if_pos (by decide +kernel)]; kernel_rfl) | (rw [if_neg (by decide +kernel)]; exact ⟨rfl, rfl⟩))
    (fun os started H enc _ => lifted os started H enc)

theorem plain (f : FuncId) (fn : Func) (hf : Tryd.pinned.checked.prog.funcNamed "loop.example/g00483/laws.FnExactDirOf" = some f) (hfn : Tryd.pinned.checked.prog.funcs[f]? = some fn) :
    false = Tryd.pinned.checked.prog.looks [] ∧ ∀ (j : Nat) t, fn.params[j]? = some t → Tryd.pinned.checked.prog.wantsStandIn t = false := by
  obtain rfl : f = 4 := Option.some.inj ((show Tryd.prog.funcNamed "loop.example/g00483/laws.FnExactDirOf" = some 4 by kernel_rfl).symm.trans hf) |>.symm
  obtain rfl : fn = Tryd.f4 := (Option.some.inj (Tryd.func4.symm.trans hfn)).symm
  refine ⟨by kernel_rfl, fun j t ht => ?_⟩
  rw [Tryd.params4] at ht
  have hm : t ∈ [9] := by simpa using Array.mem_of_getElem? ht
  have hall : ([9].all fun u => !Tryd.prog.wantsStandIn u) = true := by kernel_rfl
  exact (show Tryd.prog.wantsStandIn t = false by simpa using List.all_eq_true.1 hall t hm)

theorem card : Rows.FnExactDirOfCardSaid :=
  Claim7.holds_tied_plain_at .later [] _ _ _ _ over (fun _ h => by cases h) (by kernel_rfl) (fun _ h => by cases h) fnExactDirOf_row_tie rfl ⟨rfl, rfl⟩ (by kernel_rfl) rfl plain (by kernel_rfl)
#print axioms card
end Go.Proofs.YtogpgocldgdeaaaDoor.fnExactDirOf
