/-
  For every slice of bytes the law FnFlushed returns true (what was flushed stays, whatever falls; what is read is what was written last), and what came in reads behind the call as it read before: no condition.
-/
import Derived.Test.YtddjgfkklgjagaaDTopW
import Derived.Deep.RegionHeld3
import Derived.Test.YtddjgfkklgjagaaBigW
import Derived.Test.YtddjgfkklgjagaaOpenB
import Derived.Test.YtddjgfkklgjagaaIDiskW
import Derived.Test.YtddjgfkklgjagaaRows
import Derived.WalkKit
import Derived.ProofKit
import Derived.OpenShut
import Derived.ShutString
import Derived.ChangeOld
import Derived.Below
namespace Go.Proofs.Ytddjgfkklgjagaa.fnFlushed
open Go.ChangeShapes Go.WideShapes Go.ChangeAt Go.RowKit
open Go.ChangeMaps (open_string shut_string)
set_option linter.unusedVariables false

theorem own : ownKnob Try.prog.godebug = none := by kernel_rfl
theorem laidOut : laidOutB Try.prog = true := by kernel_rfl

set_option maxRecDepth 20000 in
set_option maxHeartbeats 4000000 in
theorem walk (a0 : Option Addr) (cap0 : Nat) (l0 : List Int) (u0 : U8 l0) (w : World) (r0 : Rd .u8 w a0 l0) :
    Calls Try.prog 3 #[.slice a0 l0.length cap0] w fun e w' => e = .returned (.bool true) ∧ Below w.heap.size w w' := by
  by_cases hbig : 1048576 < l0.length
  · have hbg : decide ((1048576 : Int) < (l0.length : Int)) = true := by simp; omega
    go_enter Try.func3, Try.ntmps3
    go_wp2_with (go_at_call 12; refine (bigL _ _ _ _).mono ?_; rintro e w1 ⟨rfl, hw1⟩; subst w1; rw [hbg])
    go_ret
    exact ⟨rfl, Below.refl _ _⟩
  have hbg : decide ((1048576 : Int) < (l0.length : Int)) = false := by simp; omega
  have HR : Hid (∀ W, Below w.heap.size w W → Rd .u8 W a0 l0) := fun W h => r0.below h (Nat.le_refl _)
  have HU : Hid (U8 l0) := u0
  clear r0 u0
  go_enter Try.func3, Try.ntmps3
  go_wp2_with fail
  refine (bigL _ _ _ _).mono ?_
  rintro e w0 ⟨rfl, hw0⟩
  subst w0
  rw [hbg]
  go_wp2_with fail
  refine (drawWrite _ _ l0 _ (by omega) HU.out (HR.out _ (Below.refl _ _))).mono ?_
  rintro e w1 ⟨v1, d, at1, s, rfl, hO1, hd1, hd2, hsm, hs5, hb1⟩
  have HSM : Hid (SmD d) := hsm
  clear hsm
  obtain ⟨aD, caD, bD, cbD, rfl⟩ := hO1.shape
  have hB1a : Below w.heap.size w (w1.alloc (.cells #[.slice aD d.1.length caD, .slice bD d.2.length cbD] 27)) := hb1.trans ((below1 w1 (.cells #[.slice aD d.1.length caD, .slice bD d.2.length cbD] 27)).mono hb1.size)
  have hOD_1a := hO1.below (below1 w1 (.cells #[.slice aD d.1.length caD, .slice bD d.2.length cbD] 27))
  clear hb1 hO1
  have hVD : Var (w1.alloc (.cells #[.slice aD d.1.length caD, .slice bD d.2.length cbD] 27)) w1.heap.size #[.slice aD d.1.length caD, .slice bD d.2.length cbD] 27 := Var.made w1 _ _
  go_wp2_with fail
  refine (drawFall _ _ l0 _ (by omega) HU.out (HR.out _ hB1a)).mono ?_
  rintro e w2 ⟨v2, d2, q, qc, ks, rfl, hO2, hk1, hk2, _, hk9, hrk, hb2⟩
  have hB2 : Below w.heap.size w w2 := hB1a.trans (hb2.mono hB1a.size)
  have hVD_2 : Var w2 w1.heap.size #[.slice aD d.1.length caD, .slice bD d.2.length cbD] 27 := hVD.new hb2
  have hOD_2 := hOD_1a.below hb2
  clear hB1a hVD hOD_1a
  clear hb2
  obtain ⟨aK, caK, bK, cbK, rfl⟩ := hO2.shape
  clear hO2
  have HRK : Hid (RdF encB 1 w2 q ks) := hrk
  clear hrk
  have hCk : Below w2.heap.size w2 w2 := Below.refl _ _
  have hB2a : Below w.heap.size w (w2.alloc (.cells #[.slice aK d2.1.length caK, .slice bK d2.2.length cbK] 27)) := hB2.trans ((below1 w2 (.cells #[.slice aK d2.1.length caK, .slice bK d2.2.length cbK] 27)).mono hB2.size)
  have hVD_2a : Var (w2.alloc (.cells #[.slice aK d2.1.length caK, .slice bK d2.2.length cbK] 27)) w1.heap.size #[.slice aD d.1.length caD, .slice bD d.2.length cbD] 27 := hVD_2.new (below1 w2 (.cells #[.slice aK d2.1.length caK, .slice bK d2.2.length cbK] 27))
  have hOD_2a := hOD_2.below (below1 w2 (.cells #[.slice aK d2.1.length caK, .slice bK d2.2.length cbK] 27))
  have hCk_2a : Below w2.heap.size w2 (w2.alloc (.cells #[.slice aK d2.1.length caK, .slice bK d2.2.length cbK] 27)) := hCk.trans ((below1 w2 (.cells #[.slice aK d2.1.length caK, .slice bK d2.2.length cbK] 27)).mono hCk.size)
  clear hB2 hVD_2 hOD_2 hCk
  have hVK : Var (w2.alloc (.cells #[.slice aK d2.1.length caK, .slice bK d2.2.length cbK] 27)) w2.heap.size #[.slice aK d2.1.length caK, .slice bK d2.2.length cbK] 27 := Var.made w2 _ _
  obtain ⟨E, HE⟩ : ∃ E, Hid (wrD d at1 s = E) := ⟨_, rfl⟩
  obtain ⟨Q, HQ⟩ : ∃ Q, Hid (wrOk d at1 s = Q) := ⟨_, rfl⟩
  have SW : Hid (∀ v W, RdD W v d → Calls Try.prog 16 #[v, .int .i64 at1, .string s] W fun e w' => ∃ v', e = .returned (.tuple #[v', .bool Q]) ∧ OwnD w' W.heap.size v' E ∧ Below W.heap.size W w') := by
    intro v W hv
    rw [← HE.out, ← HQ.out]
    exact specSectorWrite v d at1 s W ⟨by omega, by omega⟩ hv
  have IW : Hid (∀ v W lo, OwnD W lo v d → Calls Try.prog 15 #[v, .int .i64 at1, .string s] W fun e w' => ∃ v', e = .returned (.tuple #[v', .bool Q]) ∧ OwnD w' W.heap.size v' E ∧ Below W.heap.size W w') := by
    intro v W lo hv
    rw [← HE.out, ← HQ.out]
    exact implSectorWrite v d at1 s W lo ⟨by omega, by omega⟩ HSM.out hv
  have HEL : Hid (E.1.length ≤ 4194303 ∧ E.2.length ≤ 4194303) := by show _ ∧ _; rw [← HE.out]; exact len_write3 hd1 hd2
  have HNO : Hid (Q = false → dkSame E d = true) := fun h => by rw [← HE.out, (wr_false (by rw [HQ.out]; exact h)), dkSame_refl]
  have HYE : Hid (Q = true → rdTx E at1 = s ∧ rdOk E at1 = true ∧ rdTx (dkFlush E) at1 = s ∧ rdOk (dkFlush E) at1 = true ∧ (dkFlush E).2.length = 0 ∧ dkFall (dkFlush E) ks = dkFlush E ∧ dkFlush (dkFlush E) = dkFlush E ∧ (dkFlush E).1.length ≤ 4194303) := fun h => by rw [← HE.out]; exact wr_true (by rw [HQ.out]; exact h) ks
  have HSE : Hid (Q = true → SmD E ∧ SmD (dkFlush E)) := fun h => by rw [← HE.out]; exact wr_sm (by rw [HQ.out]; exact h)
  clear HE HQ
  have yD0 := hVD_2a.cell 0
  have yD1 := hVD_2a.cell 1
  simp at yD0 yD1
  go_wp2_with fail
  refine (IW.out _ _ _ hOD_2a).mono ?_
  rintro e w3 ⟨v3, rfl, hO3, hb3⟩
  clear yD0 yD1
  have hB3 : Below w.heap.size w w3 := hB2a.trans (hb3.mono hB2a.size)
  have hVD_3 : Var w3 w1.heap.size #[.slice aD d.1.length caD, .slice bD d.2.length cbD] 27 := hVD_2a.new hb3
  have hVK_3 : Var w3 w2.heap.size #[.slice aK d2.1.length caK, .slice bK d2.2.length cbK] 27 := hVK.new hb3
  have hOD_3 := hOD_2a.below hb3
  have hCk_3 : Below w2.heap.size w2 w3 := hCk_2a.trans (hb3.mono hCk_2a.size)
  clear hB2a hVD_2a hVK hOD_2a hCk_2a
  clear hb3
  obtain ⟨aW, caW, bW, cbW, rfl⟩ := hO3.shape
  have hB3a : Below w.heap.size w (w3.alloc (.cells #[.slice aW E.1.length caW, .slice bW E.2.length cbW] 27)) := hB3.trans ((below1 w3 (.cells #[.slice aW E.1.length caW, .slice bW E.2.length cbW] 27)).mono hB3.size)
  have hVD_3a : Var (w3.alloc (.cells #[.slice aW E.1.length caW, .slice bW E.2.length cbW] 27)) w1.heap.size #[.slice aD d.1.length caD, .slice bD d.2.length cbD] 27 := hVD_3.new (below1 w3 (.cells #[.slice aW E.1.length caW, .slice bW E.2.length cbW] 27))
  have hVK_3a : Var (w3.alloc (.cells #[.slice aW E.1.length caW, .slice bW E.2.length cbW] 27)) w2.heap.size #[.slice aK d2.1.length caK, .slice bK d2.2.length cbK] 27 := hVK_3.new (below1 w3 (.cells #[.slice aW E.1.length caW, .slice bW E.2.length cbW] 27))
  have hOD_3a := hOD_3.below (below1 w3 (.cells #[.slice aW E.1.length caW, .slice bW E.2.length cbW] 27))
  have hOW_3a := hO3.below (below1 w3 (.cells #[.slice aW E.1.length caW, .slice bW E.2.length cbW] 27))
  have hCk_3a : Below w2.heap.size w2 (w3.alloc (.cells #[.slice aW E.1.length caW, .slice bW E.2.length cbW] 27)) := hCk_3.trans ((below1 w3 (.cells #[.slice aW E.1.length caW, .slice bW E.2.length cbW] 27)).mono hCk_3.size)
  clear hB3 hVD_3 hVK_3 hOD_3 hO3 hCk_3
  have hVW : Var (w3.alloc (.cells #[.slice aW E.1.length caW, .slice bW E.2.length cbW] 27)) w3.heap.size #[.slice aW E.1.length caW, .slice bW E.2.length cbW] 27 := Var.made w3 _ _
  have yD0 := hVD_3a.cell 0
  have yD1 := hVD_3a.cell 1
  simp at yD0 yD1
  go_wp2_with fail
  refine (SW.out _ _ hOD_3a.rd).mono ?_
  rintro e w4 ⟨v4, rfl, hO4, hb4⟩
  clear yD0 yD1
  have hB4 : Below w.heap.size w w4 := hB3a.trans (hb4.mono hB3a.size)
  have hVD_4 : Var w4 w1.heap.size #[.slice aD d.1.length caD, .slice bD d.2.length cbD] 27 := hVD_3a.new hb4
  have hVK_4 : Var w4 w2.heap.size #[.slice aK d2.1.length caK, .slice bK d2.2.length cbK] 27 := hVK_3a.new hb4
  have hVW_4 : Var w4 w3.heap.size #[.slice aW E.1.length caW, .slice bW E.2.length cbW] 27 := hVW.new hb4
  have hOD_4 := hOD_3a.below hb4
  have hOW_4 := hOW_3a.below hb4
  have hCk_4 : Below w2.heap.size w2 w4 := hCk_3a.trans (hb4.mono hCk_3a.size)
  clear hB3a hVD_3a hVK_3a hVW hOD_3a hOW_3a hCk_3a
  clear hb4
  obtain ⟨aS, caS, bS, cbS, rfl⟩ := hO4.shape
  clear hO4
  have hB4a : Below w.heap.size w (w4.alloc (.cells #[.slice aS E.1.length caS, .slice bS E.2.length cbS] 27)) := hB4.trans ((below1 w4 (.cells #[.slice aS E.1.length caS, .slice bS E.2.length cbS] 27)).mono hB4.size)
  have hVD_4a : Var (w4.alloc (.cells #[.slice aS E.1.length caS, .slice bS E.2.length cbS] 27)) w1.heap.size #[.slice aD d.1.length caD, .slice bD d.2.length cbD] 27 := hVD_4.new (below1 w4 (.cells #[.slice aS E.1.length caS, .slice bS E.2.length cbS] 27))
  have hVK_4a : Var (w4.alloc (.cells #[.slice aS E.1.length caS, .slice bS E.2.length cbS] 27)) w2.heap.size #[.slice aK d2.1.length caK, .slice bK d2.2.length cbK] 27 := hVK_4.new (below1 w4 (.cells #[.slice aS E.1.length caS, .slice bS E.2.length cbS] 27))
  have hVW_4a : Var (w4.alloc (.cells #[.slice aS E.1.length caS, .slice bS E.2.length cbS] 27)) w3.heap.size #[.slice aW E.1.length caW, .slice bW E.2.length cbW] 27 := hVW_4.new (below1 w4 (.cells #[.slice aS E.1.length caS, .slice bS E.2.length cbS] 27))
  have hOD_4a := hOD_4.below (below1 w4 (.cells #[.slice aS E.1.length caS, .slice bS E.2.length cbS] 27))
  have hOW_4a := hOW_4.below (below1 w4 (.cells #[.slice aS E.1.length caS, .slice bS E.2.length cbS] 27))
  have hCk_4a : Below w2.heap.size w2 (w4.alloc (.cells #[.slice aS E.1.length caS, .slice bS E.2.length cbS] 27)) := hCk_4.trans ((below1 w4 (.cells #[.slice aS E.1.length caS, .slice bS E.2.length cbS] 27)).mono hCk_4.size)
  clear hB4 hVD_4 hVK_4 hVW_4 hOD_4 hOW_4 hCk_4
  have hVS : Var (w4.alloc (.cells #[.slice aS E.1.length caS, .slice bS E.2.length cbS] 27)) w4.heap.size #[.slice aS E.1.length caS, .slice bS E.2.length cbS] 27 := Var.made w4 _ _
  cases Q with
  | false =>
    have HN := HNO.out rfl
    have HN' : Hid (dkSame E d = true) := HN
    clear HN
    have HC : Hid (Calls Try.prog 17 #[(.agg #[.slice aW E.1.length caW, .slice bW E.2.length cbW]), (.agg #[.slice aD d.1.length caD, .slice bD d.2.length cbD])] (w4.alloc (.cells #[.slice aS E.1.length caS, .slice bS E.2.length cbS] 27)) fun r w' => r = .returned (.bool true) ∧ Below (w4.alloc (.cells #[.slice aS E.1.length caS, .slice bS E.2.length cbS] 27)).heap.size (w4.alloc (.cells #[.slice aS E.1.length caS, .slice bS E.2.length cbS] 27)) w') := by
      rw [← HN'.out]
      exact specDiskSame _ _ E d _ ⟨by have := HEL.out; omega, by have := HEL.out; omega⟩ hOW_4a.rd hOD_4a.rd
    have yD0 := hVD_4a.cell 0
    have yD1 := hVD_4a.cell 1
    simp at yD0 yD1
    have yW0 := hVW_4a.cell 0
    have yW1 := hVW_4a.cell 1
    simp at yW0 yW1
    go_wp2_with fail
    refine (HC.out).mono ?_
    rintro e w5 ⟨rfl, hb5⟩
    clear yD0 yD1 yW0 yW1
    go_wp2
    go_ret
    exact ⟨rfl, hB4a.trans (hb5.mono hB4a.size)⟩
  | true =>
    obtain ⟨y1, y2, y3, y4, y5, y6, y7, y8⟩ := HYE.out rfl
    obtain ⟨s1, s2⟩ := HSE.out rfl
    have HF1 : Hid (∀ v W, RdD W v E → Calls Try.prog 18 #[v, .int .i64 at1] W fun e w' => e = .returned (.tuple #[.string s, .bool true]) ∧ Below W.heap.size W w') := by
      intro v W hv
      have h := implSectorRead v E at1 W ⟨by have := HEL.out; omega, by have := HEL.out; omega⟩ hv
      rw [y1, y2] at h
      exact h
    obtain ⟨F, hF⟩ : ∃ F, dkFlush E = F := ⟨_, rfl⟩
    rw [hF] at y3 y4 y5 y6 y7 y8 s2
    have HF2 : Hid (∀ v W, RdD W v E → Calls Try.prog 19 #[v] W fun e w' => ∃ v', e = .returned v' ∧ OwnD w' W.heap.size v' F ∧ Below W.heap.size W w') := by
      intro v W hv
      rw [← hF]
      exact implFlush v E W HEL.out s1 hv
    have HF3 : Hid (∀ v W, RdD W v F → Calls Try.prog 18 #[v, .int .i64 at1] W fun e w' => e = .returned (.tuple #[.string s, .bool true]) ∧ Below W.heap.size W w') := by
      intro v W hv
      have h := implSectorRead v F at1 W ⟨by omega, by omega⟩ hv
      rw [y3, y4] at h
      exact h
    have HF4 : Hid (∀ v W a c, RdD W v F → RdF encB 1 W a ks → Calls Try.prog 21 #[v, .slice a ks.length c] W fun e w' => ∃ v', e = .returned v' ∧ OwnD w' W.heap.size v' F ∧ Below W.heap.size W w') := by
      intro v W a c hv hk
      have h := implFall v F a c ks W ⟨by omega, by omega⟩ s2 hv hk
      rw [y6] at h
      exact h
    have HF5 : Hid (∀ v W, RdD W v F → Calls Try.prog 19 #[v] W fun e w' => ∃ v', e = .returned v' ∧ OwnD w' W.heap.size v' F ∧ Below W.heap.size W w') := by
      intro v W hv
      have h := implFlush v F W ⟨by omega, by omega⟩ s2 hv
      rw [y7] at h
      exact h
    have HF6 : Hid (∀ v u W, RdD W v F → RdD W u F → Calls Try.prog 20 #[v, u] W fun r w' => r = .returned (.bool true) ∧ Below W.heap.size W w') := by
      intro v u W hv hu
      have h := implDiskSame v u F F W ⟨by omega, by omega⟩ hv hu
      rw [dkSame_refl] at h
      exact h
    have HF0 : Hid (F.2.length = 0) := y5
    clear y1 y2 y3 y4 y5 y6 y7 y8 s1 s2 hF HYE HNO HSE
    have yW0 := hVW_4a.cell 0
    have yW1 := hVW_4a.cell 1
    simp at yW0 yW1
    go_wp2_with fail
    refine (HF1.out _ _ hOW_4a.rd).mono ?_
    rintro e w5 ⟨rfl, hb5⟩
    clear yW0 yW1
    have hB5 : Below w.heap.size w w5 := hB4a.trans (hb5.mono hB4a.size)
    have hVD_5 : Var w5 w1.heap.size #[.slice aD d.1.length caD, .slice bD d.2.length cbD] 27 := hVD_4a.new hb5
    have hVK_5 : Var w5 w2.heap.size #[.slice aK d2.1.length caK, .slice bK d2.2.length cbK] 27 := hVK_4a.new hb5
    have hVW_5 : Var w5 w3.heap.size #[.slice aW E.1.length caW, .slice bW E.2.length cbW] 27 := hVW_4a.new hb5
    have hVS_5 : Var w5 w4.heap.size #[.slice aS E.1.length caS, .slice bS E.2.length cbS] 27 := hVS.new hb5
    have hOD_5 := hOD_4a.below hb5
    have hOW_5 := hOW_4a.below hb5
    have hCk_5 : Below w2.heap.size w2 w5 := hCk_4a.trans (hb5.mono hCk_4a.size)
    clear hB4a hVD_4a hVK_4a hVW_4a hVS hOD_4a hOW_4a hCk_4a
    clear hb5
    have yW0 := hVW_5.cell 0
    have yW1 := hVW_5.cell 1
    simp at yW0 yW1
    go_wp2_with fail
    refine (HF2.out _ _ hOW_5.rd).mono ?_
    rintro e w6 ⟨v6, rfl, hO6, hb6⟩
    clear yW0 yW1
    have hB6 : Below w.heap.size w w6 := hB5.trans (hb6.mono hB5.size)
    have hVD_6 : Var w6 w1.heap.size #[.slice aD d.1.length caD, .slice bD d.2.length cbD] 27 := hVD_5.new hb6
    have hVK_6 : Var w6 w2.heap.size #[.slice aK d2.1.length caK, .slice bK d2.2.length cbK] 27 := hVK_5.new hb6
    have hVW_6 : Var w6 w3.heap.size #[.slice aW E.1.length caW, .slice bW E.2.length cbW] 27 := hVW_5.new hb6
    have hVS_6 : Var w6 w4.heap.size #[.slice aS E.1.length caS, .slice bS E.2.length cbS] 27 := hVS_5.new hb6
    have hOD_6 := hOD_5.below hb6
    have hOW_6 := hOW_5.below hb6
    have hCk_6 : Below w2.heap.size w2 w6 := hCk_5.trans (hb6.mono hCk_5.size)
    clear hB5 hVD_5 hVK_5 hVW_5 hVS_5 hOD_5 hOW_5 hCk_5
    clear hb6
    obtain ⟨aF, caF, bF, cbF, rfl⟩ := hO6.shape
    have hB6a : Below w.heap.size w (w6.alloc (.cells #[.slice aF F.1.length caF, .slice bF F.2.length cbF] 27)) := hB6.trans ((below1 w6 (.cells #[.slice aF F.1.length caF, .slice bF F.2.length cbF] 27)).mono hB6.size)
    have hVD_6a : Var (w6.alloc (.cells #[.slice aF F.1.length caF, .slice bF F.2.length cbF] 27)) w1.heap.size #[.slice aD d.1.length caD, .slice bD d.2.length cbD] 27 := hVD_6.new (below1 w6 (.cells #[.slice aF F.1.length caF, .slice bF F.2.length cbF] 27))
    have hVK_6a : Var (w6.alloc (.cells #[.slice aF F.1.length caF, .slice bF F.2.length cbF] 27)) w2.heap.size #[.slice aK d2.1.length caK, .slice bK d2.2.length cbK] 27 := hVK_6.new (below1 w6 (.cells #[.slice aF F.1.length caF, .slice bF F.2.length cbF] 27))
    have hVW_6a : Var (w6.alloc (.cells #[.slice aF F.1.length caF, .slice bF F.2.length cbF] 27)) w3.heap.size #[.slice aW E.1.length caW, .slice bW E.2.length cbW] 27 := hVW_6.new (below1 w6 (.cells #[.slice aF F.1.length caF, .slice bF F.2.length cbF] 27))
    have hVS_6a : Var (w6.alloc (.cells #[.slice aF F.1.length caF, .slice bF F.2.length cbF] 27)) w4.heap.size #[.slice aS E.1.length caS, .slice bS E.2.length cbS] 27 := hVS_6.new (below1 w6 (.cells #[.slice aF F.1.length caF, .slice bF F.2.length cbF] 27))
    have hOD_6a := hOD_6.below (below1 w6 (.cells #[.slice aF F.1.length caF, .slice bF F.2.length cbF] 27))
    have hOW_6a := hOW_6.below (below1 w6 (.cells #[.slice aF F.1.length caF, .slice bF F.2.length cbF] 27))
    have hOF_6a := hO6.below (below1 w6 (.cells #[.slice aF F.1.length caF, .slice bF F.2.length cbF] 27))
    have hCk_6a : Below w2.heap.size w2 (w6.alloc (.cells #[.slice aF F.1.length caF, .slice bF F.2.length cbF] 27)) := hCk_6.trans ((below1 w6 (.cells #[.slice aF F.1.length caF, .slice bF F.2.length cbF] 27)).mono hCk_6.size)
    clear hB6 hVD_6 hVK_6 hVW_6 hVS_6 hOD_6 hOW_6 hO6 hCk_6
    have hVF : Var (w6.alloc (.cells #[.slice aF F.1.length caF, .slice bF F.2.length cbF] 27)) w6.heap.size #[.slice aF F.1.length caF, .slice bF F.2.length cbF] 27 := Var.made w6 _ _
    have yF0 := hVF.cell 0
    have yF1 := hVF.cell 1
    simp at yF0 yF1
    go_wp2_with fail
    refine (HF3.out _ _ hOF_6a.rd).mono ?_
    rintro e w7 ⟨rfl, hb7⟩
    clear yF0 yF1
    have hB7 : Below w.heap.size w w7 := hB6a.trans (hb7.mono hB6a.size)
    have hVD_7 : Var w7 w1.heap.size #[.slice aD d.1.length caD, .slice bD d.2.length cbD] 27 := hVD_6a.new hb7
    have hVK_7 : Var w7 w2.heap.size #[.slice aK d2.1.length caK, .slice bK d2.2.length cbK] 27 := hVK_6a.new hb7
    have hVW_7 : Var w7 w3.heap.size #[.slice aW E.1.length caW, .slice bW E.2.length cbW] 27 := hVW_6a.new hb7
    have hVS_7 : Var w7 w4.heap.size #[.slice aS E.1.length caS, .slice bS E.2.length cbS] 27 := hVS_6a.new hb7
    have hVF_7 : Var w7 w6.heap.size #[.slice aF F.1.length caF, .slice bF F.2.length cbF] 27 := hVF.new hb7
    have hOD_7 := hOD_6a.below hb7
    have hOW_7 := hOW_6a.below hb7
    have hOF_7 := hOF_6a.below hb7
    have hCk_7 : Below w2.heap.size w2 w7 := hCk_6a.trans (hb7.mono hCk_6a.size)
    clear hB6a hVD_6a hVK_6a hVW_6a hVS_6a hVF hOD_6a hOW_6a hOF_6a hCk_6a
    clear hb7
    have yF0 := hVF_7.cell 0
    have yF1 := hVF_7.cell 1
    simp at yF0 yF1
    have hss : (s.toList == s.toList) = true := by simp
    have HVF : Hid (Var w7 w6.heap.size #[.slice aF F.1.length caF, .slice bF F.2.length cbF] 27) := hVF_7
    have HRF : Hid (∀ W, Below w7.heap.size w7 W → RdD W (.agg #[.slice aF F.1.length caF, .slice bF F.2.length cbF]) F) := fun W h => hOF_7.rd.below h (Nat.le_refl _)
    have HKF : Hid (∀ W, Below w7.heap.size w7 W → RdF encB 1 W q ks) := fun W h => (HRK.out.below hCk_7 (Nat.le_refl _)).below h (Nat.le_refl _)
    have HCL : Hid (∀ W, Below w7.heap.size w7 W → W.cell? ⟨w6.heap.size, 0, none⟩ = some (.slice aF F.1.length caF) ∧ W.cell? ⟨w6.heap.size, 1, none⟩ = some (.slice bF F.2.length cbF)) := fun W h => ⟨(HVF.out.new h).cell 0, (HVF.out.new h).cell 1⟩
    have hF0i : ((F.2.length : Nat) : Int) = 0 := by have := HF0.out; omega
    go_wp2_with fail
    go_region_held3 (fun W => W.cell? ⟨w6.heap.size, 0, none⟩ = some (.slice aF F.1.length caF) ∧ W.cell? ⟨w6.heap.size, 1, none⟩ = some (.slice bF F.2.length cbF)) (go_keep)
      (first
        | (go_at_call 20
           refine (HF6.out _ _ _ ho10.rd (HRF.out _ hc10)).mono ?_
           rintro e w11 ⟨rfl, hb11⟩
           have hc11 : Below w7.heap.size w7 w11 := hc10.trans (hb11.mono hc10.size)
           obtain ⟨y11, z11⟩ := HCL.out _ hc11
           clear hc10 hb11 ho10 y10 z10)
        | (go_at_call 19
           refine (HF5.out _ _ (HRF.out _ hc9)).mono ?_
           rintro e w10 ⟨v10, rfl, ho10, hb10⟩
           have hc10 : Below w7.heap.size w7 w10 := hc9.trans (hb10.mono hc9.size)
           obtain ⟨y10, z10⟩ := HCL.out _ hc10
           clear hc9 hb10 y9 z9)
        | (go_at_call 20
           refine (HF6.out _ _ _ ho8.rd (HRF.out _ hc8)).mono ?_
           rintro e w9 ⟨rfl, hb9⟩
           have hc9 : Below w7.heap.size w7 w9 := hc8.trans (hb9.mono hc8.size)
           obtain ⟨y9, z9⟩ := HCL.out _ hc9
           clear hc8 hb9 ho8 y8 z8)
        | (go_at_call 21
           refine (HF4.out _ w7.drew q _ (HRF.out _ (Below.refl _ _).drew) (HKF.out _ (Below.refl _ _).drew)).mono ?_
           rintro e w8 ⟨v8, rfl, ho8, hb8⟩
           have hc8 : Below w7.heap.size w7 w8 := (Below.refl _ _).drew.trans hb8
           obtain ⟨y8, z8⟩ := HCL.out _ hc8
           clear hb8))
    go_wp2
    go_ret
    exact ⟨rfl, hB7.trans (hc11.mono hB7.size)⟩

set_option maxRecDepth 100000 in
theorem lifted (os : Os) (started : os.Started) (H : Type) (enc : TypeId × Value → H) :
    ReturnsInHanded {} Try.checked os 3 .any (Rows.fnFlushedSpec.pre6 enc Try.prog Try.f3 Rows.fnFlushedRow.domain false) (Rows.fnFlushedSpec.post enc Try.prog Try.f3 false true false false) := by
  refine returnsInHanded_of_change (C := Try.checked) own started (by kernel_rfl) Try.func3
    (ChangeSpec.witness6 (enc := enc) (C := Try.checked) false ⟨#[], #[.slice none 0 0], []⟩ 8 (by kernel_rfl) (by kernel_rfl) (by kernel_rfl) (by kernel_rfl)) ?_
  intro W base args ds gs before hval0 hW hcnd _
  have hval : ∀ (j : Nat) t v, Try.f3.params[j]? = some t → args[j]? = some v → Value.okWide Try.prog W .any base t v := hval0
  have hW' := hW
  obtain ⟨p, q, hA0, hV, rfl, hfz, hnd⟩ := hW
  have hA : DataW.TrodAll enc Try.prog W 0 (fun _ => true) true Try.f3.params.toList args.toList ds p := hA0
  rw [Try.params3] at hA hval
  obtain ⟨v0, vs0, d0, ds0, p0, q0, hargs, rfl, rfl, h0, rr0⟩ := trodAll_cons hA
  obtain ⟨rfl, rfl, rfl⟩ := trodAll_nil rr0
  obtain rfl : args = #[v0] := by cases args; simp_all
  obtain ⟨rfl, rfl⟩ := trodVars_none hV
  have k0 := h0
  have lt0 : ∀ x ∈ p0, x.block < W.heap.size := by obtain ⟨m, hm⟩ := k0; exact DataW.trod_lt m _ _ _ hm
  obtain ⟨a0, cap0, l0, rfl, u0, r0⟩ := open_Bytes (hval 0 22 v0 rfl rfl) h0
  clear hA0 hval0
  refine (walk a0 cap0 l0 u0 W r0).mono fun e W' ⟨he, bel⟩ => ?_
  subst he
  exact ⟨_, rfl, _, _, _, [], _, [], hW', trodAll_mk1 (shut_bool Try.underlying4 _), (trodAll_cons_mk (Below.trod laidOut (by kernel_rfl) (of_decide_eq_true (by kernel_rfl)) k0 bel lt0) trodAll_mk0), rfl, bel.frame _, fun h => by cases h⟩

theorem over : Rows.fnFlushedRow.holds Try.pinned (OpenSpec.ofChange Rows.fnFlushedSpec) :=
  OpenClaim.holds_of_wide 3 Try.f3 rfl rfl rfl rfl rfl rfl rfl ⟨rfl, rfl, rfl, rfl, rfl⟩ rfl rfl rfl rfl rfl (by kernel_rfl) Try.func3 (by kernel_rfl)
    (of_decide_eq_true (by kernel_rfl)) (by unfold Func.isWrapper; first | (rw [if_pos (by decide +kernel)]; kernel_rfl) | (rw [if_neg (by decide +kernel)]; exact ⟨rfl, rfl⟩))
    (fun os started H enc _ => lifted os started H enc)

theorem proved : Rows.FnFlushedSaid := over
#print axioms proved
end Go.Proofs.Ytddjgfkklgjagaa.fnFlushed
