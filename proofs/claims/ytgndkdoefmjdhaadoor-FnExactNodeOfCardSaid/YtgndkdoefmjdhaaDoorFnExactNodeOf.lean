/-
  For every text the law FnExactNodeOf returns true, and what came in reads behind the call as it read before: no condition.
-/
import Derived.Test.YtgndkdoefmjdhaaDoorNodeK
import Derived.Test.YtgndkdoefmjdhaaDoorINodeOfW
import Derived.Deep.RegionHeld3
import Derived.Test.YtgndkdoefmjdhaaDoorCards
import Derived.Test.YtgndkdoefmjdhaaDoorTie
import Derived.LaidMore
import Derived.Stop.Joined
import Derived.Stop.LaidErr
import Derived.Lib.LaidTab
import Derived.Lib.SmallJoins
import Derived.SevenTiedAt
import Derived.WalkKit
import Derived.ProofKit
import Derived.OpenShut
import Derived.ShutString
import Derived.ChangeOld
import Derived.Below
namespace Go.Proofs.YtgndkdoefmjdhaaDoor.fnExactNodeOf
open Go.ChangeShapes Go.WideShapes Go.ChangeAt Go.RowKit
open Go.ChangeMaps (open_string shut_string)
set_option linter.unusedVariables false

theorem own : ownKnob Tryd.prog.godebug = none := by kernel_rfl
theorem door_met (os : Os) (args : Array Value) : laidMetH Tryd.prog Rows.fnExactNodeOfRow.laid ((World.doorLaid Tryd.prog 28 os).forCall (fun _ _ => 0) ⟨#[], args, []⟩).memory :=
  laidMetH_of_parts3 (fuel := 8) (laidMet_of_run' 8 (by kernel_rfl) (by kernel_rfl)) (by kernel_rfl) (by kernel_rfl)
theorem laidOut : laidOutB Tryd.prog = true := by kernel_rfl

set_option maxRecDepth 20000 in
set_option maxHeartbeats 4000000 in
theorem walk (a0 : ByteArray) (w0 : a0.size ≤ maxLen) (w : World)  (hL : laidMetH Tryd.prog Rows.fnExactNodeOfRow.laid w) :
    Calls Tryd.prog 4 #[.string a0] w fun e w' => e = .returned (.bool true) ∧ Below w.heap.size w w' := by
  obtain ⟨aE, hv⟩ := errVar (Rows.fnExactNodeOfRow.laid) rfl hL
  have hgc : w.cell? ⟨errG, 0, none⟩ = some (.iface 60 (.pointer (some aE))) := by simpa using World.var?_cell gErr hv 0
  have HEA : Hid (ErrAt aE w) := ⟨World.block_lt_of_cell? w _ hgc, hgc⟩
  clear hL hv hgc
  by_cases hbig : 1048576 < a0.size
  · go_enter Tryd.func4, Tryd.ntmps4
    go_wp2
    go_ret
    exact ⟨rfl, Below.refl _ _⟩
  have SC : Hid (∀ W, Calls Tryd.prog 10 #[.string a0] W fun e w' => ∃ v, e = .returned (.tuple #[v, .bool (ofOk a0)]) ∧ OwnN w' W.heap.size v (ofN a0) ∧ Below W.heap.size W w') := fun W => specNodeOf a0 W (by omega)
  have IC : Hid (∀ W, Below w.heap.size w W → Calls Tryd.prog 7 #[.string a0] W fun e w' => ∃ v, e = .returned (.tuple #[v, .bool (ofOk a0)]) ∧ OwnN w' W.heap.size v (ofN a0) ∧ Below W.heap.size W w') := fun W h => implNodeOf a0 aE W (by omega) (HEA.out.below h)
  have HL5 : Hid ((ofN a0).b.length ≤ 5) := ofN_len a0
  generalize ofN a0 = N at *
  generalize ofOk a0 = q at *
  go_enter Tryd.func4, Tryd.ntmps4
  go_wp2_with fail
  refine (SC.out _).mono ?_
  rintro e w1 ⟨v1, rfl, ho1, hb1⟩
  obtain ⟨aW, cW, rfl⟩ := ho1.lay
  have hW1 : Var (w1.alloc (.cells #[.int .i64 N.k, .int .i64 N.g, .int .i64 N.t, .int .i64 N.s, .slice aW N.b.length cW] 26)) w1.heap.size #[.int .i64 N.k, .int .i64 N.g, .int .i64 N.t, .int .i64 N.s, .slice aW N.b.length cW] 26 := Var.made _ _ _
  have HRW : Hid (RdN (w1.alloc (.cells #[.int .i64 N.k, .int .i64 N.g, .int .i64 N.t, .int .i64 N.s, .slice aW N.b.length cW] 26)) (.agg #[.int .i64 N.k, .int .i64 N.g, .int .i64 N.t, .int .i64 N.s, .slice aW N.b.length cW]) N) := (ho1.below (below1 _ _)).rd
  have hB1 : Below w.heap.size w (w1.alloc (.cells #[.int .i64 N.k, .int .i64 N.g, .int .i64 N.t, .int .i64 N.s, .slice aW N.b.length cW] 26)) := hb1.alloc hb1.size _
  clear hb1 ho1
  go_wp2_with fail
  refine (IC.out _ hB1).mono ?_
  generalize hX1 : (w1.alloc (.cells #[.int .i64 N.k, .int .i64 N.g, .int .i64 N.t, .int .i64 N.s, .slice aW N.b.length cW] 26)) = X1 at *
  clear hX1
  rintro e w2 ⟨v2, rfl, ho2, hb2⟩
  obtain ⟨aG, cG, rfl⟩ := ho2.lay
  have hC2 : Below X1.heap.size X1 (w2.alloc (.cells #[.int .i64 N.k, .int .i64 N.g, .int .i64 N.t, .int .i64 N.s, .slice aG N.b.length cG] 26)) := hb2.alloc hb2.size _
  have hG2 : Var (w2.alloc (.cells #[.int .i64 N.k, .int .i64 N.g, .int .i64 N.t, .int .i64 N.s, .slice aG N.b.length cG] 26)) w2.heap.size #[.int .i64 N.k, .int .i64 N.g, .int .i64 N.t, .int .i64 N.s, .slice aG N.b.length cG] 26 := Var.made _ _ _
  have hO2 := ho2.below (below1 w2 (.cells #[.int .i64 N.k, .int .i64 N.g, .int .i64 N.t, .int .i64 N.s, .slice aG N.b.length cG] 26))
  have hs3 : X1.heap.size ≤ w2.heap.size := hb2.size
  have hs1 : w.heap.size ≤ X1.heap.size := hB1.size
  have HW1 : Hid (Var X1 w1.heap.size #[.int .i64 N.k, .int .i64 N.g, .int .i64 N.t, .int .i64 N.s, .slice aW N.b.length cW] 26) := hW1
  have HB1 : Hid (Below w.heap.size w X1) := hB1
  clear hb2 hB1 hW1 ho2
  have yG0 := hG2.cell 0
  have yG1 := hG2.cell 1
  have yG2 := hG2.cell 2
  have yG3 := hG2.cell 3
  have yG4 := hG2.cell 4
  simp at yG0 yG1 yG2 yG3 yG4
  have hW2 := HW1.out.new hC2
  have yW0 := hW2.cell 0
  have yW1 := hW2.cell 1
  have yW2 := hW2.cell 2
  have yW3 := hW2.cell 3
  have yW4 := hW2.cell 4
  simp at yW0 yW1 yW2 yW3 yW4
  go_wp2_with fail
  refine (eqNodeW _ _ N _ (by have := HL5.out; omega) hO2.rd (HRW.out.below hC2 (Nat.le_refl _))).mono ?_
  rintro e w3 ⟨rfl, hb3⟩
  clear hW2 yG0 yG1 yG2 yG3 yG4 yW0 yW1 yW2 yW3 yW4
  have hC3 : Below X1.heap.size X1 w3 := hC2.trans (hb3.mono hC2.size)
  have hG3 := hG2.new hb3
  have hO3 := hO2.below hb3
  clear hb3 hC2 hG2 hO2
  have yG0 := hG3.cell 0
  have yG1 := hG3.cell 1
  have yG2 := hG3.cell 2
  have yG3 := hG3.cell 3
  have yG4 := hG3.cell 4
  simp at yG0 yG1 yG2 yG3 yG4
  go_wp2_with fail
  refine (markNodeW aG cG 1 X1.heap.size N _ (by have := HL5.out; omega) (by omega) hO3).mono ?_
  rintro e w4 ⟨rfl, hO4, hg4⟩
  clear yG0 yG1 yG2 yG3 yG4
  have hob : ∀ j, (Value.slice aG N.b.length cG).ownBlock = some j → X1.heap.size ≤ j ∧ j ≠ w2.heap.size := by
    intro j hj
    obtain ⟨u, hu, ho⟩ := hO3
    unfold aggN at hu
    obtain rfl : u = .slice aG N.b.length cG := by simp at hu; exact hu.symm
    refine ⟨(ho.lt j hj).1, fun h => ?_⟩
    rcases ho.2 with ⟨he, _⟩ | ⟨g, cc, cur, he, _, hgg, _⟩
    · rw [he] at hj; cases hj
    · rw [he] at hj
      simp [Value.ownBlock] at hj
      have hvv : w3.heap[w2.heap.size]? = some (.cells #[.int .i64 N.k, .int .i64 N.g, .int .i64 N.t, .int .i64 N.s, .slice aG N.b.length cG] 26 (0, 0)) := hG3
      rw [← h, ← hj, hgg] at hvv
      injection hvv with hvv
      injection hvv with _ hty _
      exact absurd hty (by decide)
  have hC4 : Below X1.heap.size X1 w4 := hC3.grown hg4 hC3.size (fun j hj => (hob j hj).1)
  have hG4 : Var w4 w2.heap.size #[.int .i64 N.k, .int .i64 N.g, .int .i64 N.t, .int .i64 N.s, .slice aG N.b.length cG] 26 := hG3.only (Only.of_grown hg4) (fun h => (hob _ h).2 rfl)
  clear hg4 hC3 hG3 hO3 hob
  have hmq : ¬ ((1 + N.b.length : Nat) : Int) < 0 := by omega
  have yG0 := hG4.cell 0
  have yG1 := hG4.cell 1
  have yG2 := hG4.cell 2
  have yG3 := hG4.cell 3
  have yG4 := hG4.cell 4
  simp at yG0 yG1 yG2 yG3 yG4
  go_wp2_with fail
  refine (heldNodeW aG cG 1 X1.heap.size N _ (by have := HL5.out; omega) (by omega) hO4).mono ?_
  rintro e w5 ⟨rfl, hb5⟩
  clear yG0 yG1 yG2 yG3 yG4
  have hC5 : Below X1.heap.size X1 w5 := hC4.trans (hb5.mono hC4.size)
  have hG5 := hG4.new hb5
  have hO5 := hO4.below hb5
  clear hb5 hC4 hG4 hO4
  go_wp2_with fail
  refine (IC.out _ (HB1.out.trans (hC5.mono HB1.out.size))).mono ?_
  rintro e w6 ⟨v6, rfl, ho6, hb6⟩
  obtain ⟨aH, cH, rfl⟩ := ho6.lay
  have hA6 : Below w5.heap.size w5 (w6.alloc (.cells #[.int .i64 N.k, .int .i64 N.g, .int .i64 N.t, .int .i64 N.s, .slice aH N.b.length cH] 26)) := hb6.alloc hb6.size _
  have hH6 : Var (w6.alloc (.cells #[.int .i64 N.k, .int .i64 N.g, .int .i64 N.t, .int .i64 N.s, .slice aH N.b.length cH] 26)) w6.heap.size #[.int .i64 N.k, .int .i64 N.g, .int .i64 N.t, .int .i64 N.s, .slice aH N.b.length cH] 26 := Var.made _ _ _
  have hP6 := ho6.below (below1 w6 (.cells #[.int .i64 N.k, .int .i64 N.g, .int .i64 N.t, .int .i64 N.s, .slice aH N.b.length cH] 26))
  clear hb6 ho6
  have hC6 : Below X1.heap.size X1 (w6.alloc (.cells #[.int .i64 N.k, .int .i64 N.g, .int .i64 N.t, .int .i64 N.s, .slice aH N.b.length cH] 26)) := hC5.trans (hA6.mono hC5.size)
  have hG6 := hG5.new hA6
  have hO6 := hO5.below hA6
  clear hA6 hC5 hG5 hO5
  have hW6 := HW1.out.new hC6
  have yH0 := hH6.cell 0
  have yH1 := hH6.cell 1
  have yH2 := hH6.cell 2
  have yH3 := hH6.cell 3
  have yH4 := hH6.cell 4
  simp at yH0 yH1 yH2 yH3 yH4
  have yW0 := hW6.cell 0
  have yW1 := hW6.cell 1
  have yW2 := hW6.cell 2
  have yW3 := hW6.cell 3
  have yW4 := hW6.cell 4
  simp at yW0 yW1 yW2 yW3 yW4
  go_wp2_with fail
  refine (eqNodeW _ _ N _ (by have := HL5.out; omega) hP6.rd (HRW.out.below hC6 (Nat.le_refl _))).mono ?_
  rintro e w7 ⟨rfl, hb7⟩
  clear hW6 hH6 hP6 yH0 yH1 yH2 yH3 yH4 yW0 yW1 yW2 yW3 yW4
  have hC7 : Below X1.heap.size X1 w7 := hC6.trans (hb7.mono hC6.size)
  have hG7 := hG6.new hb7
  have hO7 := hO6.below hb7
  clear hb7 hC6 hG6 hO6
  have yG0 := hG7.cell 0
  have yG1 := hG7.cell 1
  have yG2 := hG7.cell 2
  have yG3 := hG7.cell 3
  have yG4 := hG7.cell 4
  simp at yG0 yG1 yG2 yG3 yG4
  go_wp2_with fail
  refine (heldNodeW aG cG 1 X1.heap.size N _ (by have := HL5.out; omega) (by omega) hO7).mono ?_
  rintro e w8 ⟨rfl, hb8⟩
  clear yG0 yG1 yG2 yG3 yG4
  have hC8 : Below X1.heap.size X1 w8 := hC7.trans (hb8.mono hC7.size)
  have hG8 := hG7.new hb8
  have hO8 := hO7.below hb8
  clear hb8 hC7 hG7 hO7
  go_wp2
  go_ret
  exact ⟨rfl, HB1.out.trans (hC8.mono HB1.out.size)⟩

set_option maxRecDepth 100000 in
theorem lifted (os : Os) (started : os.Started) (H : Type) (enc : TypeId × Value → H) :
    ReturnsInHanded {} Tryd.checked os 4 .any (fun w args => (Rows.fnExactNodeOfSpec.pre enc Tryd.prog Tryd.f4 Rows.fnExactNodeOfRow.domain false w args ∧ laidMetH Tryd.prog Rows.fnExactNodeOfRow.laid w) ∧ sizedMet enc Tryd.prog Tryd.f4 (OpenSpec.ofChange Rows.fnExactNodeOfSpec) false w args) (Rows.fnExactNodeOfSpec.post enc Tryd.prog Tryd.f4 false true false false) := by
  refine returnsInHanded_of_change_and (C := Tryd.checked) (X := fun w _ => laidMetH Tryd.prog Rows.fnExactNodeOfRow.laid w) (fun _ _ _ hh h => h.of_heap hh) own started (by kernel_rfl) Tryd.func4
    (ChangeSpec.witness_shaped (enc := enc) (C := Tryd.checked) (os := os) (X := fun w _ => laidMetH Tryd.prog Rows.fnExactNodeOfRow.laid w) false (World.doorLaid Tryd.prog 28 os) #[.string ByteArray.empty] 8 rfl (World.shaped_of_RefB (by kernel_rfl) (by kernel_rfl)) (by kernel_rfl) (by kernel_rfl) (by kernel_rfl) (door_met os _)) ?_
  intro W base args ds gs before hval0 hW _ _ hL _
  have hval : ∀ (j : Nat) t v, Tryd.f4.params[j]? = some t → args[j]? = some v → Value.okWide Tryd.prog W .any base t v := hval0
  have hW' := hW
  obtain ⟨p, q, hA0, hV, rfl, hfz, hnd⟩ := hW
  have hA : DataW.TrodAll enc Tryd.prog W 0 (fun _ => true) true Tryd.f4.params.toList args.toList ds p := hA0
  rw [Tryd.params4] at hA hval
  obtain ⟨v0, vs0, d0, ds0, p0, q0, hargs, rfl, rfl, h0, rr0⟩ := trodAll_cons hA
  obtain ⟨rfl, rfl, rfl⟩ := trodAll_nil rr0
  obtain rfl : args = #[v0] := by cases args; simp_all
  have hV1 : DataW.TrodVars enc Tryd.prog W (fun _ => true) ["loop.example/g00483/impl.errNoNum"] gs q := hV
  obtain ⟨xv, hv0⟩ := errVar (Rows.fnExactNodeOfRow.laid) rfl hL
  obtain ⟨rfl, rfl⟩ := hV1.unique (vars_read1 enc gErr tErr Tryd.underlying59 hv0 trivial _)
  have k0 := h0
  have lt0 : ∀ x ∈ p0, x.block < W.heap.size := by obtain ⟨m, hm⟩ := k0; exact DataW.trod_lt m _ _ _ hm
  obtain ⟨a0, rfl, rfl, rfl, w0⟩ := open_string Tryd.underlying9 (hval 0 9 v0 rfl rfl) h0
  clear hA0 hval0
  refine (walk a0 w0 W hL).mono fun e W' ⟨he, bel⟩ => ?_
  subst he
  exact ⟨_, rfl, _, _, _, [], _, [.cell errG 0], hW', trodAll_mk1 (shut_bool Tryd.underlying4 _), (trodAll_cons_mk (Below.trod laidOut (by kernel_rfl) (of_decide_eq_true (by kernel_rfl)) k0 bel lt0) trodAll_mk0), vars_read1 enc gErr tErr Tryd.underlying59 (Joins.var_stays gErr hv0 bel (Nat.le_refl _)) trivial _, bel.frame _, fun h => by cases h⟩

theorem over : Rows.fnExactNodeOfRow.holds Tryd.pinned (OpenSpec.ofChange Rows.fnExactNodeOfSpec) :=
  OpenClaim.holds_of_wide 4 Tryd.f4 rfl rfl rfl rfl rfl rfl rfl ⟨rfl, rfl, rfl, rfl, rfl⟩ rfl rfl rfl rfl rfl (by kernel_rfl) Tryd.func4 (by kernel_rfl)
    (of_decide_eq_true (by kernel_rfl)) (by unfold Func.isWrapper; first | (rw [if_pos (by decide +kernel)]; kernel_rfl) | (rw [if_neg (by decide +kernel)]; exact ⟨rfl, rfl⟩))
    (fun os started H enc _ => lifted os started H enc)

theorem plain (f : FuncId) (fn : Func) (hf : Tryd.pinned.checked.prog.funcNamed "loop.example/g00483/laws.FnExactNodeOf" = some f) (hfn : Tryd.pinned.checked.prog.funcs[f]? = some fn) :
    false = Tryd.pinned.checked.prog.looks [] ∧ ∀ (j : Nat) t, fn.params[j]? = some t → Tryd.pinned.checked.prog.wantsStandIn t = false := by
  obtain rfl : f = 4 := Option.some.inj ((show Tryd.prog.funcNamed "loop.example/g00483/laws.FnExactNodeOf" = some 4 by kernel_rfl).symm.trans hf) |>.symm
  obtain rfl : fn = Tryd.f4 := (Option.some.inj (Tryd.func4.symm.trans hfn)).symm
  refine ⟨by kernel_rfl, fun j t ht => ?_⟩
  rw [Tryd.params4] at ht
  have hm : t ∈ [9] := by simpa using Array.mem_of_getElem? ht
  have hall : ([9].all fun u => !Tryd.prog.wantsStandIn u) = true := by kernel_rfl
  exact (show Tryd.prog.wantsStandIn t = false by simpa using List.all_eq_true.1 hall t hm)

theorem card : Rows.FnExactNodeOfCardSaid :=
  Claim7.holds_tied_plain_at .later [] _ _ _ _ over (fun _ h => by cases h) (by kernel_rfl) (fun _ h => by cases h) fnExactNodeOf_row_tie rfl ⟨rfl, rfl⟩ (by kernel_rfl) rfl plain (by kernel_rfl)
#print axioms card
end Go.Proofs.YtgndkdoefmjdhaaDoor.fnExactNodeOf
