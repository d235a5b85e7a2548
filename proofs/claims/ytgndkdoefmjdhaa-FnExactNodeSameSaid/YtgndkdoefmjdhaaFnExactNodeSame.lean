/-
  For every two nodes the law FnExactNodeSame returns true, and what came in reads behind the call as it read before: no condition.
-/
import Derived.Test.YtgndkdoefmjdhaaNodeL
import Derived.Test.YtgndkdoefmjdhaaSNodeSW
import Derived.Test.YtgndkdoefmjdhaaINodeSW
import Derived.Deep.RegionHeld3
import Derived.Test.YtgndkdoefmjdhaaRows
import Derived.WalkKit
import Derived.ProofKit
import Derived.OpenShut
import Derived.ShutString
import Derived.ChangeOld
import Derived.Below
namespace Go.Proofs.Ytgndkdoefmjdhaa.fnExactNodeSame
open Go.ChangeShapes Go.WideShapes Go.ChangeAt Go.RowKit
open Go.ChangeMaps (open_string shut_string)
set_option linter.unusedVariables false

theorem own : ownKnob Try.prog.godebug = none := by kernel_rfl
theorem laidOut : laidOutB Try.prog = true := by kernel_rfl

set_option maxRecDepth 20000 in
set_option maxHeartbeats 4000000 in
theorem walk (v0 : Value) (N0 : NodeD) (f0 : FitNd N0) (v1 : Value) (N1 : NodeD) (f1 : FitNd N1) (w : World) (r0 : RdN w v0 N0) (r1 : RdN w v1 N1) :
    Calls Try.prog 6 #[v0, v1] w fun e w' => e = .returned (.bool true) ∧ Below w.heap.size w w' := by
  obtain ⟨a0, c0, rfl⟩ := r0.lay
  have HR0 : Hid (∀ W, Below w.heap.size w W → RdN W (.agg #[.int .i64 N0.k, .int .i64 N0.g, .int .i64 N0.t, .int .i64 N0.s, .slice a0 N0.b.length c0]) N0) := fun W h => r0.below h (Nat.le_refl _)
  have HF0 : Hid (FitNd N0) := f0
  clear r0 f0
  obtain ⟨a1, c1, rfl⟩ := r1.lay
  have HR1 : Hid (∀ W, Below w.heap.size w W → RdN W (.agg #[.int .i64 N1.k, .int .i64 N1.g, .int .i64 N1.t, .int .i64 N1.s, .slice a1 N1.b.length c1]) N1) := fun W h => r1.below h (Nat.le_refl _)
  have HF1 : Hid (FitNd N1) := f1
  clear r1 f1
  obtain ⟨Q, HQ⟩ : ∃ x, Hid (ndSame N0 N1 = x) := ⟨_, rfl⟩
  have SC : Hid (∀ v0 v1 W, N0.b.length ≤ 1048576 → N1.b.length ≤ 1048576 → RdN W v0 N0 → RdN W v1 N1 → Calls Try.prog 16 #[v0, v1] W fun e w' => e = .returned (.bool Q) ∧ Below W.heap.size W w') := by
    intro v0 v1 W hs0 hs1 hv0 hv1
    rw [← HQ.out]
    exact specNodeSame v0 v1 N0 N1 W (by omega) hv0 hv1
  have IC : Hid (∀ v0 v1 W, N0.b.length ≤ 1048576 → N1.b.length ≤ 1048576 → RdN W v0 N0 → RdN W v1 N1 → Calls Try.prog 17 #[v0, v1] W fun e w' => e = .returned (.bool Q) ∧ Below W.heap.size W w') := by
    intro v0 v1 W hs0 hs1 hv0 hv1
    rw [← HQ.out]
    exact implNodeSame v0 v1 N0 N1 W (by omega) hv0 hv1
  go_enter Try.func6, Try.ntmps6
  go_wp2_with fail
  refine (szNodeW _ N0 1048576 _ (by omega) (by omega) HF0.out.1 (HR0.out _ (below2 _ _ _))).mono ?_
  rintro e w1 ⟨s0, rfl, hsz0, s0le, hb1⟩
  have hVA0 : Var w1 w.heap.size #[.int .i64 N0.k, .int .i64 N0.g, .int .i64 N0.t, .int .i64 N0.s, .slice a0 N0.b.length c0] 26 := ((Var.made w _ _).alloc _).new hb1
  have hVA1 : Var w1 (w.heap.size + 1) #[.int .i64 N1.k, .int .i64 N1.g, .int .i64 N1.t, .int .i64 N1.s, .slice a1 N1.b.length c1] 26 := (Var.made2 w _ _ _).new hb1
  have hB1 : Below w.heap.size w w1 := (below2 w _ _).trans (hb1.mono (by simp; omega))
  by_cases hneg0 : s0 < 0
  · clear hsz0
    go_wp2
    go_ret
    exact ⟨rfl, hB1⟩
  have HS0 : Hid (N0.b.length ≤ 1048576) := by have := hsz0 (by omega); show _ ≤ _; omega
  clear hsz0 hb1
  have yA10 := hVA1.cell 0
  have yA11 := hVA1.cell 1
  have yA12 := hVA1.cell 2
  have yA13 := hVA1.cell 3
  have yA14 := hVA1.cell 4
  simp at yA10 yA11 yA12 yA13 yA14
  go_wp2_with fail
  refine (szNodeW _ N1 s0 _ (by omega) (by omega) HF1.out.1 (HR1.out _ hB1)).mono ?_
  rintro e w2 ⟨s1, rfl, hsz1, s1le, hb2⟩
  clear yA10 yA11 yA12 yA13 yA14
  have hB2 : Below w.heap.size w w2 := hB1.trans (hb2.mono hB1.size)
  have hVA0_2 : Var w2 w.heap.size #[.int .i64 N0.k, .int .i64 N0.g, .int .i64 N0.t, .int .i64 N0.s, .slice a0 N0.b.length c0] 26 := hVA0.new hb2
  have hVA1_2 : Var w2 (w.heap.size + 1) #[.int .i64 N1.k, .int .i64 N1.g, .int .i64 N1.t, .int .i64 N1.s, .slice a1 N1.b.length c1] 26 := hVA1.new hb2
  clear hB1 hVA0 hVA1
  by_cases hneg1 : s1 < 0
  · clear hsz1
    go_wp2
    go_ret
    exact ⟨rfl, hB2⟩
  have HS1 : Hid (N1.b.length ≤ 1048576) := by have := hsz1 (by omega); show _ ≤ _; omega
  clear hsz1 hb2
  have yA00 := hVA0_2.cell 0
  have yA01 := hVA0_2.cell 1
  have yA02 := hVA0_2.cell 2
  have yA03 := hVA0_2.cell 3
  have yA04 := hVA0_2.cell 4
  simp at yA00 yA01 yA02 yA03 yA04
  have yA10 := hVA1_2.cell 0
  have yA11 := hVA1_2.cell 1
  have yA12 := hVA1_2.cell 2
  have yA13 := hVA1_2.cell 3
  have yA14 := hVA1_2.cell 4
  simp at yA10 yA11 yA12 yA13 yA14
  have HVA0 : Hid (Var w2 w.heap.size #[.int .i64 N0.k, .int .i64 N0.g, .int .i64 N0.t, .int .i64 N0.s, .slice a0 N0.b.length c0] 26) := hVA0_2
  have HVA1 : Hid (Var w2 (w.heap.size + 1) #[.int .i64 N1.k, .int .i64 N1.g, .int .i64 N1.t, .int .i64 N1.s, .slice a1 N1.b.length c1] 26) := hVA1_2
  have HT6 : Hid (Calls Try.prog 11 #[(.agg #[.int .i64 N0.k, .int .i64 N0.g, .int .i64 N0.t, .int .i64 N0.s, .slice a0 N0.b.length c0])] w2.drew fun e w' => ∃ v', e = .returned v' ∧ OwnN w' w2.heap.size v' N0 ∧ Below w2.heap.size w2 w') := by
    refine (toNodeW _ N0 w2.drew HS0.out (HR0.out _ hB2.drew)).mono ?_
    rintro e w' ⟨v', rfl, h1, h2⟩
    exact ⟨v', rfl, h1, ⟨h2.os, h2.tape, h2.output, h2.size, h2.block⟩⟩
  go_wp2_with fail
  go_region_held3 (fun W => W.cell? ⟨w.heap.size, 0, none⟩ = some (.int .i64 N0.k) ∧ W.cell? ⟨w.heap.size, 1, none⟩ = some (.int .i64 N0.g) ∧ W.cell? ⟨w.heap.size, 2, none⟩ = some (.int .i64 N0.t) ∧ W.cell? ⟨w.heap.size, 3, none⟩ = some (.int .i64 N0.s) ∧ W.cell? ⟨w.heap.size, 4, none⟩ = some (.slice a0 N0.b.length c0) ∧ W.cell? ⟨(w.heap.size + 1), 0, none⟩ = some (.int .i64 N1.k) ∧ W.cell? ⟨(w.heap.size + 1), 1, none⟩ = some (.int .i64 N1.g) ∧ W.cell? ⟨(w.heap.size + 1), 2, none⟩ = some (.int .i64 N1.t) ∧ W.cell? ⟨(w.heap.size + 1), 3, none⟩ = some (.int .i64 N1.s) ∧ W.cell? ⟨(w.heap.size + 1), 4, none⟩ = some (.slice a1 N1.b.length c1)) (go_keep) (first
    | (go_at_call 16
       refine (SC.out _ _ _ HS0.out HS1.out (hp6.rd.below hbq (Nat.le_refl _)) hq6.rd).mono ?_
       rintro e w5 ⟨rfl, hbr⟩
       have hbJ : Below w2.heap.size w2 w5 := hbp2.trans (hbr.mono hbp2.size)
       obtain ⟨hv0, hv1, hv2, hv3, hv4, hv5, hv6, hv7, hv8, hv9⟩ : w5.cell? ⟨w.heap.size, 0, none⟩ = some (.int .i64 N0.k) ∧ w5.cell? ⟨w.heap.size, 1, none⟩ = some (.int .i64 N0.g) ∧ w5.cell? ⟨w.heap.size, 2, none⟩ = some (.int .i64 N0.t) ∧ w5.cell? ⟨w.heap.size, 3, none⟩ = some (.int .i64 N0.s) ∧ w5.cell? ⟨w.heap.size, 4, none⟩ = some (.slice a0 N0.b.length c0) ∧ w5.cell? ⟨(w.heap.size + 1), 0, none⟩ = some (.int .i64 N1.k) ∧ w5.cell? ⟨(w.heap.size + 1), 1, none⟩ = some (.int .i64 N1.g) ∧ w5.cell? ⟨(w.heap.size + 1), 2, none⟩ = some (.int .i64 N1.t) ∧ w5.cell? ⟨(w.heap.size + 1), 3, none⟩ = some (.int .i64 N1.s) ∧ w5.cell? ⟨(w.heap.size + 1), 4, none⟩ = some (.slice a1 N1.b.length c1) := ⟨(HVA0.out.new hbJ).cell 0, (HVA0.out.new hbJ).cell 1, (HVA0.out.new hbJ).cell 2, (HVA0.out.new hbJ).cell 3, (HVA0.out.new hbJ).cell 4, (HVA1.out.new hbJ).cell 0, (HVA1.out.new hbJ).cell 1, (HVA1.out.new hbJ).cell 2, (HVA1.out.new hbJ).cell 3, (HVA1.out.new hbJ).cell 4⟩
       clear hp6 hq6 hbp hbq hbr hbp2 ht0 ht1 ht2 ht3 ht4 ht5 ht6 ht7 ht8 ht9)
    | (go_at_call_of 11 (c1); 
       refine (toNodeW _ N1 _ HS1.out (HR1.out _ (hB2.trans (hbp.mono hB2.size)))).mono ?_
       rintro e w4 ⟨x7, rfl, hq6, hbq⟩
       have hbp2 : Below w2.heap.size w2 w4 := hbp.trans (hbq.mono hbp.size)
       obtain ⟨ht0, ht1, ht2, ht3, ht4, ht5, ht6, ht7, ht8, ht9⟩ : w4.cell? ⟨w.heap.size, 0, none⟩ = some (.int .i64 N0.k) ∧ w4.cell? ⟨w.heap.size, 1, none⟩ = some (.int .i64 N0.g) ∧ w4.cell? ⟨w.heap.size, 2, none⟩ = some (.int .i64 N0.t) ∧ w4.cell? ⟨w.heap.size, 3, none⟩ = some (.int .i64 N0.s) ∧ w4.cell? ⟨w.heap.size, 4, none⟩ = some (.slice a0 N0.b.length c0) ∧ w4.cell? ⟨(w.heap.size + 1), 0, none⟩ = some (.int .i64 N1.k) ∧ w4.cell? ⟨(w.heap.size + 1), 1, none⟩ = some (.int .i64 N1.g) ∧ w4.cell? ⟨(w.heap.size + 1), 2, none⟩ = some (.int .i64 N1.t) ∧ w4.cell? ⟨(w.heap.size + 1), 3, none⟩ = some (.int .i64 N1.s) ∧ w4.cell? ⟨(w.heap.size + 1), 4, none⟩ = some (.slice a1 N1.b.length c1) := ⟨(HVA0.out.new hbp2).cell 0, (HVA0.out.new hbp2).cell 1, (HVA0.out.new hbp2).cell 2, (HVA0.out.new hbp2).cell 3, (HVA0.out.new hbp2).cell 4, (HVA1.out.new hbp2).cell 0, (HVA1.out.new hbp2).cell 1, (HVA1.out.new hbp2).cell 2, (HVA1.out.new hbp2).cell 3, (HVA1.out.new hbp2).cell 4⟩
       clear hu0 hu1 hu2 hu3 hu4 hu5 hu6 hu7 hu8 hu9)
    | (go_at_call 11
       refine HT6.out.mono ?_
       rintro e w3 ⟨x6, rfl, hp6, hbp⟩
       obtain ⟨hu0, hu1, hu2, hu3, hu4, hu5, hu6, hu7, hu8, hu9⟩ : w3.cell? ⟨w.heap.size, 0, none⟩ = some (.int .i64 N0.k) ∧ w3.cell? ⟨w.heap.size, 1, none⟩ = some (.int .i64 N0.g) ∧ w3.cell? ⟨w.heap.size, 2, none⟩ = some (.int .i64 N0.t) ∧ w3.cell? ⟨w.heap.size, 3, none⟩ = some (.int .i64 N0.s) ∧ w3.cell? ⟨w.heap.size, 4, none⟩ = some (.slice a0 N0.b.length c0) ∧ w3.cell? ⟨(w.heap.size + 1), 0, none⟩ = some (.int .i64 N1.k) ∧ w3.cell? ⟨(w.heap.size + 1), 1, none⟩ = some (.int .i64 N1.g) ∧ w3.cell? ⟨(w.heap.size + 1), 2, none⟩ = some (.int .i64 N1.t) ∧ w3.cell? ⟨(w.heap.size + 1), 3, none⟩ = some (.int .i64 N1.s) ∧ w3.cell? ⟨(w.heap.size + 1), 4, none⟩ = some (.slice a1 N1.b.length c1) := ⟨(HVA0.out.new hbp).cell 0, (HVA0.out.new hbp).cell 1, (HVA0.out.new hbp).cell 2, (HVA0.out.new hbp).cell 3, (HVA0.out.new hbp).cell 4, (HVA1.out.new hbp).cell 0, (HVA1.out.new hbp).cell 1, (HVA1.out.new hbp).cell 2, (HVA1.out.new hbp).cell 3, (HVA1.out.new hbp).cell 4⟩
       skip))
  all_goals
    clear HVA0 HVA1 HT6 hv0 hv1 hv2 hv3 hv4 hv5 hv6 hv7 hv8 hv9 yA00 yA01 yA02 yA03 yA04 yA10 yA11 yA12 yA13 yA14
    have hB5 : Below w.heap.size w w5 := hB2.trans (hbJ.mono hB2.size)
    have hVA0_5 : Var w5 w.heap.size #[.int .i64 N0.k, .int .i64 N0.g, .int .i64 N0.t, .int .i64 N0.s, .slice a0 N0.b.length c0] 26 := hVA0_2.new hbJ
    have hVA1_5 : Var w5 (w.heap.size + 1) #[.int .i64 N1.k, .int .i64 N1.g, .int .i64 N1.t, .int .i64 N1.s, .slice a1 N1.b.length c1] 26 := hVA1_2.new hbJ
    clear hB2 hVA0_2 hVA1_2
    clear hbJ
    have yA00 := hVA0_5.cell 0
    have yA01 := hVA0_5.cell 1
    have yA02 := hVA0_5.cell 2
    have yA03 := hVA0_5.cell 3
    have yA04 := hVA0_5.cell 4
    simp at yA00 yA01 yA02 yA03 yA04
    go_wp2_with fail
    refine (toNodeW _ N0 _ HS0.out (HR0.out _ hB5)).mono ?_
    rintro e w6 ⟨z0, rfl, hox0, hb6⟩
    clear yA00 yA01 yA02 yA03 yA04
    have hB6 : Below w.heap.size w w6 := hB5.trans (hb6.mono hB5.size)
    have hVA0_6 : Var w6 w.heap.size #[.int .i64 N0.k, .int .i64 N0.g, .int .i64 N0.t, .int .i64 N0.s, .slice a0 N0.b.length c0] 26 := hVA0_5.new hb6
    have hVA1_6 : Var w6 (w.heap.size + 1) #[.int .i64 N1.k, .int .i64 N1.g, .int .i64 N1.t, .int .i64 N1.s, .slice a1 N1.b.length c1] 26 := hVA1_5.new hb6
    clear hB5 hVA0_5 hVA1_5
    clear hb6
    obtain ⟨aX0, cX0, rfl⟩ := hox0.lay
    have hB6a : Below w.heap.size w (w6.alloc (.cells #[.int .i64 N0.k, .int .i64 N0.g, .int .i64 N0.t, .int .i64 N0.s, .slice aX0 N0.b.length cX0] 29)) := hB6.trans ((below1 w6 (.cells #[.int .i64 N0.k, .int .i64 N0.g, .int .i64 N0.t, .int .i64 N0.s, .slice aX0 N0.b.length cX0] 29)).mono hB6.size)
    have hVA0_6a : Var (w6.alloc (.cells #[.int .i64 N0.k, .int .i64 N0.g, .int .i64 N0.t, .int .i64 N0.s, .slice aX0 N0.b.length cX0] 29)) w.heap.size #[.int .i64 N0.k, .int .i64 N0.g, .int .i64 N0.t, .int .i64 N0.s, .slice a0 N0.b.length c0] 26 := hVA0_6.new (below1 w6 (.cells #[.int .i64 N0.k, .int .i64 N0.g, .int .i64 N0.t, .int .i64 N0.s, .slice aX0 N0.b.length cX0] 29))
    have hVA1_6a : Var (w6.alloc (.cells #[.int .i64 N0.k, .int .i64 N0.g, .int .i64 N0.t, .int .i64 N0.s, .slice aX0 N0.b.length cX0] 29)) (w.heap.size + 1) #[.int .i64 N1.k, .int .i64 N1.g, .int .i64 N1.t, .int .i64 N1.s, .slice a1 N1.b.length c1] 26 := hVA1_6.new (below1 w6 (.cells #[.int .i64 N0.k, .int .i64 N0.g, .int .i64 N0.t, .int .i64 N0.s, .slice aX0 N0.b.length cX0] 29))
    have hOX0_6a := hox0.below (below1 w6 (.cells #[.int .i64 N0.k, .int .i64 N0.g, .int .i64 N0.t, .int .i64 N0.s, .slice aX0 N0.b.length cX0] 29))
    clear hB6 hVA0_6 hVA1_6 hox0
    have hVX0 : Var (w6.alloc (.cells #[.int .i64 N0.k, .int .i64 N0.g, .int .i64 N0.t, .int .i64 N0.s, .slice aX0 N0.b.length cX0] 29)) w6.heap.size #[.int .i64 N0.k, .int .i64 N0.g, .int .i64 N0.t, .int .i64 N0.s, .slice aX0 N0.b.length cX0] 29 := Var.made w6 _ _
    have yA10 := hVA1_6a.cell 0
    have yA11 := hVA1_6a.cell 1
    have yA12 := hVA1_6a.cell 2
    have yA13 := hVA1_6a.cell 3
    have yA14 := hVA1_6a.cell 4
    simp at yA10 yA11 yA12 yA13 yA14
    go_wp2_with fail
    refine (toNodeW _ N1 _ HS1.out (HR1.out _ hB6a)).mono ?_
    rintro e w7 ⟨z1, rfl, hox1, hb7⟩
    clear yA10 yA11 yA12 yA13 yA14
    have hB7 : Below w.heap.size w w7 := hB6a.trans (hb7.mono hB6a.size)
    have hVA0_7 : Var w7 w.heap.size #[.int .i64 N0.k, .int .i64 N0.g, .int .i64 N0.t, .int .i64 N0.s, .slice a0 N0.b.length c0] 26 := hVA0_6a.new hb7
    have hVA1_7 : Var w7 (w.heap.size + 1) #[.int .i64 N1.k, .int .i64 N1.g, .int .i64 N1.t, .int .i64 N1.s, .slice a1 N1.b.length c1] 26 := hVA1_6a.new hb7
    have hVX0_7 : Var w7 w6.heap.size #[.int .i64 N0.k, .int .i64 N0.g, .int .i64 N0.t, .int .i64 N0.s, .slice aX0 N0.b.length cX0] 29 := hVX0.new hb7
    have hOX0_7 := hOX0_6a.below hb7
    clear hB6a hVA0_6a hVA1_6a hVX0 hOX0_6a
    clear hb7
    obtain ⟨aX1, cX1, rfl⟩ := hox1.lay
    have hB7a : Below w.heap.size w (w7.alloc (.cells #[.int .i64 N1.k, .int .i64 N1.g, .int .i64 N1.t, .int .i64 N1.s, .slice aX1 N1.b.length cX1] 29)) := hB7.trans ((below1 w7 (.cells #[.int .i64 N1.k, .int .i64 N1.g, .int .i64 N1.t, .int .i64 N1.s, .slice aX1 N1.b.length cX1] 29)).mono hB7.size)
    have hVA0_7a : Var (w7.alloc (.cells #[.int .i64 N1.k, .int .i64 N1.g, .int .i64 N1.t, .int .i64 N1.s, .slice aX1 N1.b.length cX1] 29)) w.heap.size #[.int .i64 N0.k, .int .i64 N0.g, .int .i64 N0.t, .int .i64 N0.s, .slice a0 N0.b.length c0] 26 := hVA0_7.new (below1 w7 (.cells #[.int .i64 N1.k, .int .i64 N1.g, .int .i64 N1.t, .int .i64 N1.s, .slice aX1 N1.b.length cX1] 29))
    have hVA1_7a : Var (w7.alloc (.cells #[.int .i64 N1.k, .int .i64 N1.g, .int .i64 N1.t, .int .i64 N1.s, .slice aX1 N1.b.length cX1] 29)) (w.heap.size + 1) #[.int .i64 N1.k, .int .i64 N1.g, .int .i64 N1.t, .int .i64 N1.s, .slice a1 N1.b.length c1] 26 := hVA1_7.new (below1 w7 (.cells #[.int .i64 N1.k, .int .i64 N1.g, .int .i64 N1.t, .int .i64 N1.s, .slice aX1 N1.b.length cX1] 29))
    have hVX0_7a : Var (w7.alloc (.cells #[.int .i64 N1.k, .int .i64 N1.g, .int .i64 N1.t, .int .i64 N1.s, .slice aX1 N1.b.length cX1] 29)) w6.heap.size #[.int .i64 N0.k, .int .i64 N0.g, .int .i64 N0.t, .int .i64 N0.s, .slice aX0 N0.b.length cX0] 29 := hVX0_7.new (below1 w7 (.cells #[.int .i64 N1.k, .int .i64 N1.g, .int .i64 N1.t, .int .i64 N1.s, .slice aX1 N1.b.length cX1] 29))
    have hOX0_7a := hOX0_7.below (below1 w7 (.cells #[.int .i64 N1.k, .int .i64 N1.g, .int .i64 N1.t, .int .i64 N1.s, .slice aX1 N1.b.length cX1] 29))
    have hOX1_7a := hox1.below (below1 w7 (.cells #[.int .i64 N1.k, .int .i64 N1.g, .int .i64 N1.t, .int .i64 N1.s, .slice aX1 N1.b.length cX1] 29))
    clear hB7 hVA0_7 hVA1_7 hVX0_7 hOX0_7 hox1
    have hVX1 : Var (w7.alloc (.cells #[.int .i64 N1.k, .int .i64 N1.g, .int .i64 N1.t, .int .i64 N1.s, .slice aX1 N1.b.length cX1] 29)) w7.heap.size #[.int .i64 N1.k, .int .i64 N1.g, .int .i64 N1.t, .int .i64 N1.s, .slice aX1 N1.b.length cX1] 29 := Var.made w7 _ _
    have yX00 := hVX0_7a.cell 0
    have yX01 := hVX0_7a.cell 1
    have yX02 := hVX0_7a.cell 2
    have yX03 := hVX0_7a.cell 3
    have yX04 := hVX0_7a.cell 4
    simp at yX00 yX01 yX02 yX03 yX04
    have yX10 := hVX1.cell 0
    have yX11 := hVX1.cell 1
    have yX12 := hVX1.cell 2
    have yX13 := hVX1.cell 3
    have yX14 := hVX1.cell 4
    simp at yX10 yX11 yX12 yX13 yX14
    go_wp2_with fail
    refine (IC.out _ _ _ HS0.out HS1.out hOX0_7a.rd hOX1_7a.rd).mono ?_
    rintro e w8 ⟨rfl, hb8⟩
    clear yX00 yX01 yX02 yX03 yX04 yX10 yX11 yX12 yX13 yX14
    have hB8 : Below w.heap.size w w8 := hB7a.trans (hb8.mono hB7a.size)
    have hVA0_8 : Var w8 w.heap.size #[.int .i64 N0.k, .int .i64 N0.g, .int .i64 N0.t, .int .i64 N0.s, .slice a0 N0.b.length c0] 26 := hVA0_7a.new hb8
    have hVA1_8 : Var w8 (w.heap.size + 1) #[.int .i64 N1.k, .int .i64 N1.g, .int .i64 N1.t, .int .i64 N1.s, .slice a1 N1.b.length c1] 26 := hVA1_7a.new hb8
    have hVX0_8 : Var w8 w6.heap.size #[.int .i64 N0.k, .int .i64 N0.g, .int .i64 N0.t, .int .i64 N0.s, .slice aX0 N0.b.length cX0] 29 := hVX0_7a.new hb8
    have hVX1_8 : Var w8 w7.heap.size #[.int .i64 N1.k, .int .i64 N1.g, .int .i64 N1.t, .int .i64 N1.s, .slice aX1 N1.b.length cX1] 29 := hVX1.new hb8
    have hOX0_8 := hOX0_7a.below hb8
    have hOX1_8 := hOX1_7a.below hb8
    clear hB7a hVA0_7a hVA1_7a hVX0_7a hVX1 hOX0_7a hOX1_7a
    clear hb8
    have yX00 := hVX0_8.cell 0
    have yX01 := hVX0_8.cell 1
    have yX02 := hVX0_8.cell 2
    have yX03 := hVX0_8.cell 3
    have yX04 := hVX0_8.cell 4
    simp at yX00 yX01 yX02 yX03 yX04
    have yA00 := hVA0_8.cell 0
    have yA01 := hVA0_8.cell 1
    have yA02 := hVA0_8.cell 2
    have yA03 := hVA0_8.cell 3
    have yA04 := hVA0_8.cell 4
    simp at yA00 yA01 yA02 yA03 yA04
    have HVX : Hid (Var w8 w6.heap.size #[.int .i64 N0.k, .int .i64 N0.g, .int .i64 N0.t, .int .i64 N0.s, .slice aX0 N0.b.length cX0] 29) := hVX0_8
    have HRX : Hid (RdN w8 (.agg #[.int .i64 N0.k, .int .i64 N0.g, .int .i64 N0.t, .int .i64 N0.s, .slice aX0 N0.b.length cX0]) N0) := hOX0_8.rd
    have HVG : Hid (Var w8 w.heap.size #[.int .i64 N0.k, .int .i64 N0.g, .int .i64 N0.t, .int .i64 N0.s, .slice a0 N0.b.length c0] 26) := hVA0_8
    have HT6 : Hid (Calls Try.prog 11 #[(.agg #[.int .i64 N0.k, .int .i64 N0.g, .int .i64 N0.t, .int .i64 N0.s, .slice a0 N0.b.length c0])] w8.drew fun e w' => ∃ v', e = .returned v' ∧ OwnN w' w8.heap.size v' N0 ∧ Below w8.heap.size w8 w') := by
      refine (toNodeW _ N0 w8.drew HS0.out (HR0.out _ hB8.drew)).mono ?_
      rintro e w' ⟨v', rfl, h1, h2⟩
      exact ⟨v', rfl, h1, ⟨h2.os, h2.tape, h2.output, h2.size, h2.block⟩⟩
    go_wp2_with fail
    go_region_held3 (fun W => W.cell? ⟨w6.heap.size, 0, none⟩ = some (.int .i64 N0.k) ∧ W.cell? ⟨w6.heap.size, 1, none⟩ = some (.int .i64 N0.g) ∧ W.cell? ⟨w6.heap.size, 2, none⟩ = some (.int .i64 N0.t) ∧ W.cell? ⟨w6.heap.size, 3, none⟩ = some (.int .i64 N0.s) ∧ W.cell? ⟨w6.heap.size, 4, none⟩ = some (.slice aX0 N0.b.length cX0) ∧ W.cell? ⟨w.heap.size, 0, none⟩ = some (.int .i64 N0.k) ∧ W.cell? ⟨w.heap.size, 1, none⟩ = some (.int .i64 N0.g) ∧ W.cell? ⟨w.heap.size, 2, none⟩ = some (.int .i64 N0.t) ∧ W.cell? ⟨w.heap.size, 3, none⟩ = some (.int .i64 N0.s) ∧ W.cell? ⟨w.heap.size, 4, none⟩ = some (.slice a0 N0.b.length c0)) (go_keep) (first
      | (go_at_call 11
         refine HT6.out.mono ?_
         rintro e w9 ⟨x6, rfl, ho6, hb9⟩
         obtain ⟨hu0, hu1, hu2, hu3, hu4, hu5, hu6, hu7, hu8, hu9⟩ : w9.cell? ⟨w6.heap.size, 0, none⟩ = some (.int .i64 N0.k) ∧ w9.cell? ⟨w6.heap.size, 1, none⟩ = some (.int .i64 N0.g) ∧ w9.cell? ⟨w6.heap.size, 2, none⟩ = some (.int .i64 N0.t) ∧ w9.cell? ⟨w6.heap.size, 3, none⟩ = some (.int .i64 N0.s) ∧ w9.cell? ⟨w6.heap.size, 4, none⟩ = some (.slice aX0 N0.b.length cX0) ∧ w9.cell? ⟨w.heap.size, 0, none⟩ = some (.int .i64 N0.k) ∧ w9.cell? ⟨w.heap.size, 1, none⟩ = some (.int .i64 N0.g) ∧ w9.cell? ⟨w.heap.size, 2, none⟩ = some (.int .i64 N0.t) ∧ w9.cell? ⟨w.heap.size, 3, none⟩ = some (.int .i64 N0.s) ∧ w9.cell? ⟨w.heap.size, 4, none⟩ = some (.slice a0 N0.b.length c0) := ⟨(HVX.out.new hb9).cell 0, (HVX.out.new hb9).cell 1, (HVX.out.new hb9).cell 2, (HVX.out.new hb9).cell 3, (HVX.out.new hb9).cell 4, (HVG.out.new hb9).cell 0, (HVG.out.new hb9).cell 1, (HVG.out.new hb9).cell 2, (HVG.out.new hb9).cell 3, (HVG.out.new hb9).cell 4⟩
         skip)
      | (go_at_call 13
         refine (eqNodeW _ x6 N0 _ (by have := HS0.out; omega) (HRX.out.below hb9 (Nat.le_refl _)) ho6.rd).mono ?_
         rintro e w10 ⟨rfl, hb10⟩
         have hbJ : Below w8.heap.size w8 w10 := hb9.trans (hb10.mono hb9.size)
         obtain ⟨hv0, hv1, hv2, hv3, hv4, hv5, hv6, hv7, hv8, hv9⟩ : w10.cell? ⟨w6.heap.size, 0, none⟩ = some (.int .i64 N0.k) ∧ w10.cell? ⟨w6.heap.size, 1, none⟩ = some (.int .i64 N0.g) ∧ w10.cell? ⟨w6.heap.size, 2, none⟩ = some (.int .i64 N0.t) ∧ w10.cell? ⟨w6.heap.size, 3, none⟩ = some (.int .i64 N0.s) ∧ w10.cell? ⟨w6.heap.size, 4, none⟩ = some (.slice aX0 N0.b.length cX0) ∧ w10.cell? ⟨w.heap.size, 0, none⟩ = some (.int .i64 N0.k) ∧ w10.cell? ⟨w.heap.size, 1, none⟩ = some (.int .i64 N0.g) ∧ w10.cell? ⟨w.heap.size, 2, none⟩ = some (.int .i64 N0.t) ∧ w10.cell? ⟨w.heap.size, 3, none⟩ = some (.int .i64 N0.s) ∧ w10.cell? ⟨w.heap.size, 4, none⟩ = some (.slice a0 N0.b.length c0) := ⟨(HVX.out.new hbJ).cell 0, (HVX.out.new hbJ).cell 1, (HVX.out.new hbJ).cell 2, (HVX.out.new hbJ).cell 3, (HVX.out.new hbJ).cell 4, (HVG.out.new hbJ).cell 0, (HVG.out.new hbJ).cell 1, (HVG.out.new hbJ).cell 2, (HVG.out.new hbJ).cell 3, (HVG.out.new hbJ).cell 4⟩
         clear hu0 hu1 hu2 hu3 hu4 hu5 hu6 hu7 hu8 hu9 ho6 hb9 hb10))
    all_goals
      clear HVX HVG HRX HT6 hv0 hv1 hv2 hv3 hv4 hv5 hv6 hv7 hv8 hv9 yX00 yX01 yX02 yX03 yX04 yA00 yA01 yA02 yA03 yA04
      have hB10 : Below w.heap.size w w10 := hB8.trans (hbJ.mono hB8.size)
      have hVA0_10 : Var w10 w.heap.size #[.int .i64 N0.k, .int .i64 N0.g, .int .i64 N0.t, .int .i64 N0.s, .slice a0 N0.b.length c0] 26 := hVA0_8.new hbJ
      have hVA1_10 : Var w10 (w.heap.size + 1) #[.int .i64 N1.k, .int .i64 N1.g, .int .i64 N1.t, .int .i64 N1.s, .slice a1 N1.b.length c1] 26 := hVA1_8.new hbJ
      have hVX0_10 : Var w10 w6.heap.size #[.int .i64 N0.k, .int .i64 N0.g, .int .i64 N0.t, .int .i64 N0.s, .slice aX0 N0.b.length cX0] 29 := hVX0_8.new hbJ
      have hVX1_10 : Var w10 w7.heap.size #[.int .i64 N1.k, .int .i64 N1.g, .int .i64 N1.t, .int .i64 N1.s, .slice aX1 N1.b.length cX1] 29 := hVX1_8.new hbJ
      have hOX0_10 := hOX0_8.below hbJ
      have hOX1_10 := hOX1_8.below hbJ
      clear hB8 hVA0_8 hVA1_8 hVX0_8 hVX1_8 hOX0_8 hOX1_8
      clear hbJ
      have yX10 := hVX1_10.cell 0
      have yX11 := hVX1_10.cell 1
      have yX12 := hVX1_10.cell 2
      have yX13 := hVX1_10.cell 3
      have yX14 := hVX1_10.cell 4
      simp at yX10 yX11 yX12 yX13 yX14
      have yA10 := hVA1_10.cell 0
      have yA11 := hVA1_10.cell 1
      have yA12 := hVA1_10.cell 2
      have yA13 := hVA1_10.cell 3
      have yA14 := hVA1_10.cell 4
      simp at yA10 yA11 yA12 yA13 yA14
      have HVX : Hid (Var w10 w7.heap.size #[.int .i64 N1.k, .int .i64 N1.g, .int .i64 N1.t, .int .i64 N1.s, .slice aX1 N1.b.length cX1] 29) := hVX1_10
      have HRX : Hid (RdN w10 (.agg #[.int .i64 N1.k, .int .i64 N1.g, .int .i64 N1.t, .int .i64 N1.s, .slice aX1 N1.b.length cX1]) N1) := hOX1_10.rd
      have HVG : Hid (Var w10 (w.heap.size + 1) #[.int .i64 N1.k, .int .i64 N1.g, .int .i64 N1.t, .int .i64 N1.s, .slice a1 N1.b.length c1] 26) := hVA1_10
      have HT6 : Hid (Calls Try.prog 11 #[(.agg #[.int .i64 N1.k, .int .i64 N1.g, .int .i64 N1.t, .int .i64 N1.s, .slice a1 N1.b.length c1])] w10.drew fun e w' => ∃ v', e = .returned v' ∧ OwnN w' w10.heap.size v' N1 ∧ Below w10.heap.size w10 w') := by
        refine (toNodeW _ N1 w10.drew HS1.out (HR1.out _ hB10.drew)).mono ?_
        rintro e w' ⟨v', rfl, h1, h2⟩
        exact ⟨v', rfl, h1, ⟨h2.os, h2.tape, h2.output, h2.size, h2.block⟩⟩
      go_wp2_with fail
      go_region_held3 (fun W => W.cell? ⟨w7.heap.size, 0, none⟩ = some (.int .i64 N1.k) ∧ W.cell? ⟨w7.heap.size, 1, none⟩ = some (.int .i64 N1.g) ∧ W.cell? ⟨w7.heap.size, 2, none⟩ = some (.int .i64 N1.t) ∧ W.cell? ⟨w7.heap.size, 3, none⟩ = some (.int .i64 N1.s) ∧ W.cell? ⟨w7.heap.size, 4, none⟩ = some (.slice aX1 N1.b.length cX1) ∧ W.cell? ⟨(w.heap.size + 1), 0, none⟩ = some (.int .i64 N1.k) ∧ W.cell? ⟨(w.heap.size + 1), 1, none⟩ = some (.int .i64 N1.g) ∧ W.cell? ⟨(w.heap.size + 1), 2, none⟩ = some (.int .i64 N1.t) ∧ W.cell? ⟨(w.heap.size + 1), 3, none⟩ = some (.int .i64 N1.s) ∧ W.cell? ⟨(w.heap.size + 1), 4, none⟩ = some (.slice a1 N1.b.length c1)) (go_keep) (first
        | (go_at_call 11
           refine HT6.out.mono ?_
           rintro e w11 ⟨x6, rfl, ho6, hb11⟩
           obtain ⟨hu0, hu1, hu2, hu3, hu4, hu5, hu6, hu7, hu8, hu9⟩ : w11.cell? ⟨w7.heap.size, 0, none⟩ = some (.int .i64 N1.k) ∧ w11.cell? ⟨w7.heap.size, 1, none⟩ = some (.int .i64 N1.g) ∧ w11.cell? ⟨w7.heap.size, 2, none⟩ = some (.int .i64 N1.t) ∧ w11.cell? ⟨w7.heap.size, 3, none⟩ = some (.int .i64 N1.s) ∧ w11.cell? ⟨w7.heap.size, 4, none⟩ = some (.slice aX1 N1.b.length cX1) ∧ w11.cell? ⟨(w.heap.size + 1), 0, none⟩ = some (.int .i64 N1.k) ∧ w11.cell? ⟨(w.heap.size + 1), 1, none⟩ = some (.int .i64 N1.g) ∧ w11.cell? ⟨(w.heap.size + 1), 2, none⟩ = some (.int .i64 N1.t) ∧ w11.cell? ⟨(w.heap.size + 1), 3, none⟩ = some (.int .i64 N1.s) ∧ w11.cell? ⟨(w.heap.size + 1), 4, none⟩ = some (.slice a1 N1.b.length c1) := ⟨(HVX.out.new hb11).cell 0, (HVX.out.new hb11).cell 1, (HVX.out.new hb11).cell 2, (HVX.out.new hb11).cell 3, (HVX.out.new hb11).cell 4, (HVG.out.new hb11).cell 0, (HVG.out.new hb11).cell 1, (HVG.out.new hb11).cell 2, (HVG.out.new hb11).cell 3, (HVG.out.new hb11).cell 4⟩
           skip)
        | (go_at_call 13
           refine (eqNodeW _ x6 N1 _ (by have := HS1.out; omega) (HRX.out.below hb11 (Nat.le_refl _)) ho6.rd).mono ?_
           rintro e w12 ⟨rfl, hb12⟩
           have hbJ : Below w10.heap.size w10 w12 := hb11.trans (hb12.mono hb11.size)
           obtain ⟨hv0, hv1, hv2, hv3, hv4, hv5, hv6, hv7, hv8, hv9⟩ : w12.cell? ⟨w7.heap.size, 0, none⟩ = some (.int .i64 N1.k) ∧ w12.cell? ⟨w7.heap.size, 1, none⟩ = some (.int .i64 N1.g) ∧ w12.cell? ⟨w7.heap.size, 2, none⟩ = some (.int .i64 N1.t) ∧ w12.cell? ⟨w7.heap.size, 3, none⟩ = some (.int .i64 N1.s) ∧ w12.cell? ⟨w7.heap.size, 4, none⟩ = some (.slice aX1 N1.b.length cX1) ∧ w12.cell? ⟨(w.heap.size + 1), 0, none⟩ = some (.int .i64 N1.k) ∧ w12.cell? ⟨(w.heap.size + 1), 1, none⟩ = some (.int .i64 N1.g) ∧ w12.cell? ⟨(w.heap.size + 1), 2, none⟩ = some (.int .i64 N1.t) ∧ w12.cell? ⟨(w.heap.size + 1), 3, none⟩ = some (.int .i64 N1.s) ∧ w12.cell? ⟨(w.heap.size + 1), 4, none⟩ = some (.slice a1 N1.b.length c1) := ⟨(HVX.out.new hbJ).cell 0, (HVX.out.new hbJ).cell 1, (HVX.out.new hbJ).cell 2, (HVX.out.new hbJ).cell 3, (HVX.out.new hbJ).cell 4, (HVG.out.new hbJ).cell 0, (HVG.out.new hbJ).cell 1, (HVG.out.new hbJ).cell 2, (HVG.out.new hbJ).cell 3, (HVG.out.new hbJ).cell 4⟩
           clear hu0 hu1 hu2 hu3 hu4 hu5 hu6 hu7 hu8 hu9 ho6 hb11 hb12))
      all_goals
        clear HVX HVG HRX HT6 hv0 hv1 hv2 hv3 hv4 hv5 hv6 hv7 hv8 hv9 yX10 yX11 yX12 yX13 yX14 yA10 yA11 yA12 yA13 yA14
        have hB12 : Below w.heap.size w w12 := hB10.trans (hbJ.mono hB10.size)
        have hVA0_12 : Var w12 w.heap.size #[.int .i64 N0.k, .int .i64 N0.g, .int .i64 N0.t, .int .i64 N0.s, .slice a0 N0.b.length c0] 26 := hVA0_10.new hbJ
        have hVA1_12 : Var w12 (w.heap.size + 1) #[.int .i64 N1.k, .int .i64 N1.g, .int .i64 N1.t, .int .i64 N1.s, .slice a1 N1.b.length c1] 26 := hVA1_10.new hbJ
        have hVX0_12 : Var w12 w6.heap.size #[.int .i64 N0.k, .int .i64 N0.g, .int .i64 N0.t, .int .i64 N0.s, .slice aX0 N0.b.length cX0] 29 := hVX0_10.new hbJ
        have hVX1_12 : Var w12 w7.heap.size #[.int .i64 N1.k, .int .i64 N1.g, .int .i64 N1.t, .int .i64 N1.s, .slice aX1 N1.b.length cX1] 29 := hVX1_10.new hbJ
        have hOX0_12 := hOX0_10.below hbJ
        have hOX1_12 := hOX1_10.below hbJ
        clear hB10 hVA0_10 hVA1_10 hVX0_10 hVX1_10 hOX0_10 hOX1_10
        clear hbJ
        go_wp2
        go_ret
        exact ⟨rfl, hB12⟩

set_option maxRecDepth 100000 in
theorem lifted (os : Os) (started : os.Started) (H : Type) (enc : TypeId × Value → H) :
    ReturnsInHanded {} Try.checked os 6 .any (Rows.fnExactNodeSameSpec.pre6 enc Try.prog Try.f6 Rows.fnExactNodeSameRow.domain false) (Rows.fnExactNodeSameSpec.post enc Try.prog Try.f6 false true false false) := by
  refine returnsInHanded_of_change (C := Try.checked) own started (by kernel_rfl) Try.func6
    (ChangeSpec.witness6 (enc := enc) (C := Try.checked) false ⟨#[], #[.agg #[.int .i64 0, .int .i64 0, .int .i64 0, .int .i64 0, .slice none 0 0], .agg #[.int .i64 0, .int .i64 0, .int .i64 0, .int .i64 0, .slice none 0 0]], []⟩ 8 (by kernel_rfl) (by kernel_rfl) (by kernel_rfl) (by kernel_rfl)) ?_
  intro W base args ds gs before hval0 hW hcnd _
  have hval : ∀ (j : Nat) t v, Try.f6.params[j]? = some t → args[j]? = some v → Value.okWide Try.prog W .any base t v := hval0
  have hW' := hW
  obtain ⟨p, q, hA0, hV, rfl, hfz, hnd⟩ := hW
  have hA : DataW.TrodAll enc Try.prog W 0 (fun _ => true) true Try.f6.params.toList args.toList ds p := hA0
  rw [Try.params6] at hA hval
  obtain ⟨v0, vs0, d0, ds0, p0, q0, hargs, rfl, rfl, h0, rr0⟩ := trodAll_cons hA
  obtain ⟨v1, vs1, d1, ds1, p1, q1, rfl, rfl, rfl, h1, rr1⟩ := trodAll_cons rr0
  obtain ⟨rfl, rfl, rfl⟩ := trodAll_nil rr1
  obtain rfl : args = #[v0, v1] := by cases args; simp_all
  obtain ⟨rfl, rfl⟩ := trodVars_none hV
  have k0 := h0
  have lt0 : ∀ x ∈ p0, x.block < W.heap.size := by obtain ⟨m, hm⟩ := k0; exact DataW.trod_lt m _ _ _ hm
  have k1 := h1
  have lt1 : ∀ x ∈ p1, x.block < W.heap.size := by obtain ⟨m, hm⟩ := k1; exact DataW.trod_lt m _ _ _ hm
  obtain ⟨N0, f0, r0⟩ := open_Node (hval 0 26 v0 rfl rfl) h0
  obtain ⟨N1, f1, r1⟩ := open_Node (hval 1 26 v1 rfl rfl) h1
  clear hA0 hval0
  refine (walk v0 N0 f0 v1 N1 f1 W r0 r1).mono fun e W' ⟨he, bel⟩ => ?_
  subst he
  exact ⟨_, rfl, _, _, _, [], _, [], hW', trodAll_mk1 (shut_bool Try.underlying4 _), (trodAll_cons_mk (Below.trod laidOut (by kernel_rfl) (of_decide_eq_true (by kernel_rfl)) k0 bel lt0) (trodAll_cons_mk (Below.trod laidOut (by kernel_rfl) (of_decide_eq_true (by kernel_rfl)) k1 bel lt1) trodAll_mk0)), rfl, bel.frame _, fun h => by cases h⟩

theorem over : Rows.fnExactNodeSameRow.holds Try.pinned (OpenSpec.ofChange Rows.fnExactNodeSameSpec) :=
  OpenClaim.holds_of_wide 6 Try.f6 rfl rfl rfl rfl rfl rfl rfl ⟨rfl, rfl, rfl, rfl, rfl⟩ rfl rfl rfl rfl rfl (by kernel_rfl) Try.func6 (by kernel_rfl)
    (of_decide_eq_true (by kernel_rfl)) (by unfold Func.isWrapper; first | (rw [if_pos (by decide +kernel)]; kernel_rfl) | (rw [if_neg (by decide +kernel)]; exact ⟨rfl, rfl⟩))
    (fun os started H enc _ => lifted os started H enc)

theorem proved : Rows.FnExactNodeSameSaid := over
#print axioms proved
end Go.Proofs.Ytgndkdoefmjdhaa.fnExactNodeSame
