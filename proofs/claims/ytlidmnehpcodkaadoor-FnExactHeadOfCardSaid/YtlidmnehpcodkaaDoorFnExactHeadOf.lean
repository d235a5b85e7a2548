/-
  For every text and number the law FnExactHeadOf returns true, and what came in reads behind the call as it read before: no condition.
-/
import Derived.Test.YtlidmnehpcodkaaDoorErrW
import Derived.Test.YtlidmnehpcodkaaDoorIntW
import Derived.Test.YtlidmnehpcodkaaDoorSHeadOfW
import Derived.Test.YtlidmnehpcodkaaDoorIJourDW
import Derived.Test.YtlidmnehpcodkaaDoorCards
import Derived.Test.YtlidmnehpcodkaaDoorTie
import Derived.LaidMore
import Derived.Stop.Joined
import Derived.Stop.LaidErr
import Derived.Lib.LaidTab
import Derived.Lib.SmallJoins
import Derived.SevenTiedAt
import Derived.WalkKit
import Derived.ProofKit
import Derived.OpenShut
import Derived.ShutString
import Derived.ChangeOld
import Derived.Below
namespace Go.Proofs.YtlidmnehpcodkaaDoor.fnExactHeadOf
open Go.ChangeShapes Go.WideShapes Go.ChangeAt Go.RowKit
open Go.ChangeMaps (open_string shut_string)
set_option linter.unusedVariables false

theorem own : ownKnob Tryd.prog.godebug = none := by kernel_rfl
theorem door_met (os : Os) (args : Array Value) : laidMetH Tryd.prog Rows.fnExactHeadOfRow.laid ((World.doorLaid Tryd.prog 28 os).forCall (fun _ _ => 0) ⟨#[], args, []⟩).memory :=
  laidMetH_of_parts3 (fuel := 8) (laidMet_of_run' 8 (by kernel_rfl) (by kernel_rfl)) (by kernel_rfl) (by kernel_rfl)
theorem laidOut : laidOutB Tryd.prog = true := by kernel_rfl

set_option maxRecDepth 20000 in
set_option maxHeartbeats 4000000 in
theorem walk (a0 : ByteArray) (w0 : a0.size ≤ maxLen) (a1 : Int) (w1 : (Lit.int .i64 a1).wf = true) (w : World)  (hL : laidMetH Tryd.prog Rows.fnExactHeadOfRow.laid w) :
    Calls Tryd.prog 6 #[.string a0, .int .i64 a1] w fun e w' => e = .returned (.bool true) ∧ Below w.heap.size w w' := by
  obtain ⟨aE, hv⟩ := errVar (Rows.fnExactHeadOfRow.laid) rfl hL
  have hgc : w.cell? ⟨errG, 0, none⟩ = some (.iface 138 (.pointer (some aE))) := by simpa using World.var?_cell gErr hv 0
  have HEA : Hid (ErrAt aE w) := ⟨World.block_lt_of_cell? w _ hgc, hgc⟩
  clear hL hv hgc
  by_cases hbig : 1048576 < a0.size
  · go_enter Tryd.func6, Tryd.ntmps6
    go_wp2
    go_ret
    exact ⟨rfl, Below.refl _ _⟩
  have SC : Hid (∀ W, Calls Tryd.prog 29 #[.string a0, .int .i64 a1] W fun e w' => ∃ v, e = .returned (.tuple #[v, .int .i64 ((hoS a0 a1 : Nat) : Int), .bool (hoOk a0 a1)]) ∧ w'.ownsRow W.heap.size 3 1 v (hoA a0 a1).length ((hoA a0 a1).map (Value.int .i64)) ∧ Below W.heap.size W w') := fun W => specHeadOf a0 a1 W (by omega)
  have IC : Hid (∀ W, Below w.heap.size w W → Calls Tryd.prog 27 #[.string a0, .int .i64 a1] W fun e w' => ∃ v, e = .returned (.tuple #[v, .int .i64 ((hoS a0 a1 : Nat) : Int), .bool (hoOk a0 a1)]) ∧ w'.ownsRow W.heap.size 3 1 v (hoA a0 a1).length ((hoA a0 a1).map (Value.int .i64)) ∧ Below W.heap.size W w') := fun W h => implHeadOf a0 a1 aE W (by omega) (HEA.out.below h)
  have HLA : Hid ((hoA a0 a1).length ≤ 48) := hoA_len a0 a1
  generalize hoA a0 a1 = A at *
  generalize hoS a0 a1 = sm at *
  generalize hoOk a0 a1 = q at *
  go_enter Tryd.func6, Tryd.ntmps6
  go_wp2_with fail
  refine (SC.out _).mono ?_
  rintro e w1 ⟨v1, rfl, ho1, hb1⟩
  obtain ⟨xw, cw, rfl, _, hrw⟩ := own_rd ho1
  have HRW : Hid (Rd .i64 w1 xw A) := hrw
  clear ho1 hrw
  go_wp2_with fail
  refine (IC.out _ hb1).mono ?_
  rintro e w2 ⟨v2, rfl, ho2, hb2⟩
  obtain ⟨xg, cg, rfl, _, hrg⟩ := own_rd ho2
  have hB2 : Below w.heap.size w w2 := hb1.trans (hb2.mono hb1.size)
  have hC2 : Below w1.heap.size w1 w2 := hb2
  have hs1 : w.heap.size ≤ w1.heap.size := hb1.size
  clear hb1 hb2
  go_wp2_with fail
  refine (eqI _ _ _ _ A _ (by have := HLA.out; omega) hrg (HRW.out.below hC2 (Nat.le_refl _))).mono ?_
  rintro e w3 ⟨rfl, hb3⟩
  have hG3 := ownsRow_below ho2 hb3 (Nat.le_refl _)
  have hB3 : Below w.heap.size w w3 := hB2.trans (hb3.mono hB2.size)
  have hC3 : Below w1.heap.size w1 w3 := hC2.trans (hb3.mono hC2.size)
  clear hb3 hB2 hC2 ho2 hrg
  go_wp2_with fail
  refine (markI _ A.length 1 _ A _ (by have := HLA.out; omega) (by omega) hG3).mono ?_
  rintro e w4 ⟨rfl, hG4, hg4⟩
  have hB4 : Below w.heap.size w w4 := hB3.grown hg4 hB3.size (fun j hj => by have := (hG3.lt j hj).1; omega)
  have hC4 : Below w1.heap.size w1 w4 := hC3.grown hg4 hC3.size (fun j hj => (hG3.lt j hj).1)
  have hmq : ¬ ((1 + A.length : Nat) : Int) < 0 := by omega
  clear hg4 hG3 hB3 hC3
  go_wp2_with fail
  refine (heldI _ A.length 1 _ _ (by have := HLA.out; omega) (by omega) hG4).mono ?_
  rintro e w5 ⟨rfl, hw5⟩
  subst w5
  go_wp2_with fail
  refine (IC.out _ hB4).mono ?_
  rintro e w6 ⟨v6, rfl, ho6, hb6⟩
  obtain ⟨xh, ch, rfl, _, hrh⟩ := own_rd ho6
  have hG6 := ownsRow_below hG4 hb6 (Nat.le_refl _)
  have hB6 : Below w.heap.size w w6 := hB4.trans (hb6.mono hB4.size)
  have hC6 : Below w1.heap.size w1 w6 := hC4.trans (hb6.mono hC4.size)
  clear hb6 hB4 hC4 hG4 ho6
  go_wp2_with fail
  refine (eqI _ _ _ _ A _ (by have := HLA.out; omega) hrh (HRW.out.below hC6 (Nat.le_refl _))).mono ?_
  rintro e w7 ⟨rfl, hb7⟩
  have hG7 := ownsRow_below hG6 hb7 (Nat.le_refl _)
  have hB7 : Below w.heap.size w w7 := hB6.trans (hb7.mono hB6.size)
  clear hb7 hB6 hC6 hG6 hrh
  go_wp2_with fail
  refine (heldI _ A.length 1 _ _ (by have := HLA.out; omega) (by omega) hG7).mono ?_
  rintro e w8 ⟨rfl, hw8⟩
  subst w8
  go_wp2
  go_ret
  exact ⟨rfl, hB7⟩

set_option maxRecDepth 100000 in
theorem lifted (os : Os) (started : os.Started) (H : Type) (enc : TypeId × Value → H) :
    ReturnsInHanded {} Tryd.checked os 6 .any (fun w args => (Rows.fnExactHeadOfSpec.pre enc Tryd.prog Tryd.f6 Rows.fnExactHeadOfRow.domain false w args ∧ laidMetH Tryd.prog Rows.fnExactHeadOfRow.laid w) ∧ sizedMet enc Tryd.prog Tryd.f6 (OpenSpec.ofChange Rows.fnExactHeadOfSpec) false w args) (Rows.fnExactHeadOfSpec.post enc Tryd.prog Tryd.f6 false true false false) := by
  refine returnsInHanded_of_change_and (C := Tryd.checked) (X := fun w _ => laidMetH Tryd.prog Rows.fnExactHeadOfRow.laid w) (fun _ _ _ hh h => h.of_heap hh) own started (by kernel_rfl) Tryd.func6
    (ChangeSpec.witness_shaped (enc := enc) (C := Tryd.checked) (os := os) (X := fun w _ => laidMetH Tryd.prog Rows.fnExactHeadOfRow.laid w) false (World.doorLaid Tryd.prog 28 os) #[.string ByteArray.empty, .int .i64 0] 8 rfl (World.shaped_of_RefB (by kernel_rfl) (by kernel_rfl)) (by kernel_rfl) (by kernel_rfl) (by kernel_rfl) (door_met os _)) ?_
  intro W base args ds gs before hval0 hW _ _ hL _
  have hval : ∀ (j : Nat) t v, Tryd.f6.params[j]? = some t → args[j]? = some v → Value.okWide Tryd.prog W .any base t v := hval0
  have hW' := hW
  obtain ⟨p, q, hA0, hV, rfl, hfz, hnd⟩ := hW
  have hA : DataW.TrodAll enc Tryd.prog W 0 (fun _ => true) true Tryd.f6.params.toList args.toList ds p := hA0
  rw [Tryd.params6] at hA hval
  obtain ⟨v0, vs0, d0, ds0, p0, q0, hargs, rfl, rfl, h0, rr0⟩ := trodAll_cons hA
  obtain ⟨v1, vs1, d1, ds1, p1, q1, rfl, rfl, rfl, h1, rr1⟩ := trodAll_cons rr0
  obtain ⟨rfl, rfl, rfl⟩ := trodAll_nil rr1
  obtain rfl : args = #[v0, v1] := by cases args; simp_all
  have hV1 : DataW.TrodVars enc Tryd.prog W (fun _ => true) ["loop.example/g00483/impl.errNoNum"] gs q := hV
  obtain ⟨xv, hv0⟩ := errVar (Rows.fnExactHeadOfRow.laid) rfl hL
  obtain ⟨rfl, rfl⟩ := hV1.unique (vars_read1 enc gErr tErr Tryd.underlying137 hv0 trivial _)
  have k0 := h0
  have lt0 : ∀ x ∈ p0, x.block < W.heap.size := by obtain ⟨m, hm⟩ := k0; exact DataW.trod_lt m _ _ _ hm
  have k1 := h1
  have lt1 : ∀ x ∈ p1, x.block < W.heap.size := by obtain ⟨m, hm⟩ := k1; exact DataW.trod_lt m _ _ _ hm
  obtain ⟨a0, rfl, rfl, rfl, w0⟩ := open_string Tryd.underlying9 (hval 0 9 v0 rfl rfl) h0
  obtain ⟨a1, rfl, rfl, rfl, w1⟩ := open_int Tryd.underlying3 (hval 1 3 v1 rfl rfl) h1
  clear hA0 hval0
  refine (walk a0 w0 a1 w1 W hL).mono fun e W' ⟨he, bel⟩ => ?_
  subst he
  exact ⟨_, rfl, _, _, _, [], _, [.cell errG 0], hW', trodAll_mk1 (shut_bool Tryd.underlying4 _), (trodAll_cons_mk (Below.trod laidOut (by kernel_rfl) (of_decide_eq_true (by kernel_rfl)) k0 bel lt0) (trodAll_cons_mk (Below.trod laidOut (by kernel_rfl) (of_decide_eq_true (by kernel_rfl)) k1 bel lt1) trodAll_mk0)), vars_read1 enc gErr tErr Tryd.underlying137 (Joins.var_stays gErr hv0 bel (Nat.le_refl _)) trivial _, bel.frame _, fun h => by cases h⟩

theorem over : Rows.fnExactHeadOfRow.holds Tryd.pinned (OpenSpec.ofChange Rows.fnExactHeadOfSpec) :=
  OpenClaim.holds_of_wide 6 Tryd.f6 rfl rfl rfl rfl rfl rfl rfl ⟨rfl, rfl, rfl, rfl, rfl⟩ rfl rfl rfl rfl rfl (by kernel_rfl) Tryd.func6 (by kernel_rfl)
    (of_decide_eq_true (by kernel_rfl)) (by unfold Func.isWrapper; first | (rw [if_pos (by decide +kernel)]; kernel_rfl) | (rw [if_neg (by decide +kernel)]; exact ⟨rfl, rfl⟩))
    (fun os started H enc _ => lifted os started H enc)

theorem plain (f : FuncId) (fn : Func) (hf : Tryd.pinned.checked.prog.funcNamed "loop.example/g00483/laws.FnExactHeadOf" = some f) (hfn : Tryd.pinned.checked.prog.funcs[f]? = some fn) :
    false = Tryd.pinned.checked.prog.looks [] ∧ ∀ (j : Nat) t, fn.params[j]? = some t → Tryd.pinned.checked.prog.wantsStandIn t = false := by
  obtain rfl : f = 6 := Option.some.inj ((show Tryd.prog.funcNamed "loop.example/g00483/laws.FnExactHeadOf" = some 6 by kernel_rfl).symm.trans hf) |>.symm
  obtain rfl : fn = Tryd.f6 := (Option.some.inj (Tryd.func6.symm.trans hfn)).symm
  refine ⟨by kernel_rfl, fun j t ht => ?_⟩
  rw [Tryd.params6] at ht
  have hm : t ∈ [9, 3] := by simpa using Array.mem_of_getElem? ht
  have hall : ([9, 3].all fun u => !Tryd.prog.wantsStandIn u) = true := by kernel_rfl
  exact (show Tryd.prog.wantsStandIn t = false by simpa using List.all_eq_true.1 hall t hm)

theorem card : Rows.FnExactHeadOfCardSaid :=
  Claim7.holds_tied_plain_at .later [] _ _ _ _ over (fun _ h => by cases h) (by kernel_rfl) (fun _ h => by cases h) fnExactHeadOf_row_tie rfl ⟨rfl, rfl⟩ (by kernel_rfl) rfl plain (by kernel_rfl)
#print axioms card
end Go.Proofs.YtlidmnehpcodkaaDoor.fnExactHeadOf
