/-
  For every slice of bytes the law FnFallen returns true (a sector behind a fall is as it was, or as one of the pending writes made it), and what came in reads behind the call as it read before: no condition.
-/
import Derived.Test.YtddjgfkklgjagaaDTopW
import Derived.Deep.RegionHeld3
import Derived.Test.YtddjgfkklgjagaaBigW
import Derived.Test.YtddjgfkklgjagaaOpenB
import Derived.Test.YtddjgfkklgjagaaFallMath
import Derived.Test.YtddjgfkklgjagaaIDiskW
import Derived.BigQuiet
import Derived.Test.YtddjgfkklgjagaaRows
import Derived.WalkKit
import Derived.ProofKit
import Derived.OpenShut
import Derived.ShutString
import Derived.ChangeOld
import Derived.Below
namespace Go.Proofs.Ytddjgfkklgjagaa.fnFallen
open Go.ChangeShapes Go.WideShapes Go.ChangeAt Go.RowKit
open Go.ChangeMaps (open_string shut_string)
set_option linter.unusedVariables false

theorem own : ownKnob Try.prog.godebug = none := by kernel_rfl
theorem laidOut : laidOutB Try.prog = true := by kernel_rfl

set_option maxRecDepth 20000 in
set_option maxHeartbeats 4000000 in
theorem walk (a0 : Option Addr) (cap0 : Nat) (l0 : List Int) (u0 : U8 l0) (w : World) (r0 : Rd .u8 w a0 l0) :
    Calls Try.prog 4 #[.slice a0 l0.length cap0] w fun e w' => e = .returned (.bool true) ∧ Below w.heap.size w w' := by
  by_cases hbig : 1048576 < l0.length
  · have hbg : decide ((1048576 : Int) < (l0.length : Int)) = true := by simp; omega
    go_enter Try.func4, Try.ntmps4
    go_wp2_with (go_at_call 12; refine (bigL _ _ _ _).mono ?_; rintro e w1 ⟨rfl, hw1⟩; subst w1; rw [hbg])
    go_ret
    exact ⟨rfl, Below.refl _ _⟩
  have hbg : decide ((1048576 : Int) < (l0.length : Int)) = false := by simp; omega
  have HR : Hid (∀ W, Below w.heap.size w W → Rd .u8 W a0 l0) := fun W h => r0.below h (Nat.le_refl _)
  have HU : Hid (U8 l0) := u0
  clear r0 u0
  go_enter Try.func4, Try.ntmps4
  go_wp2_with fail
  refine (bigL _ _ _ _).mono ?_
  rintro e w0 ⟨rfl, hw0⟩
  subst w0
  rw [hbg]
  go_wp2_with fail
  refine (drawFall _ _ l0 _ (by omega) HU.out (HR.out _ (Below.refl _ _))).mono ?_
  rintro e w1 ⟨v1, d, q, qc, ks, rfl, hO1, hd1, hd2, hsm, hk9, hrk, hb1⟩
  have HSM : Hid (SmD d) := hsm
  clear hsm
  obtain ⟨aD, caD, bD, cbD, rfl⟩ := hO1.shape
  have HRK : Hid (RdF encB 1 w1 q ks) := hrk
  clear hrk
  have hCk : Below w1.heap.size w1 w1 := Below.refl _ _
  have hB1a : Below w.heap.size w (w1.alloc (.cells #[.slice aD d.1.length caD, .slice bD d.2.length cbD] 27)) := hb1.trans ((below1 w1 (.cells #[.slice aD d.1.length caD, .slice bD d.2.length cbD] 27)).mono hb1.size)
  have hOD_1a := hO1.below (below1 w1 (.cells #[.slice aD d.1.length caD, .slice bD d.2.length cbD] 27))
  have hCk_1a : Below w1.heap.size w1 (w1.alloc (.cells #[.slice aD d.1.length caD, .slice bD d.2.length cbD] 27)) := hCk.trans ((below1 w1 (.cells #[.slice aD d.1.length caD, .slice bD d.2.length cbD] 27)).mono hCk.size)
  clear hb1 hO1 hCk
  have hVD : Var (w1.alloc (.cells #[.slice aD d.1.length caD, .slice bD d.2.length cbD] 27)) w1.heap.size #[.slice aD d.1.length caD, .slice bD d.2.length cbD] 27 := Var.made w1 _ _
  obtain ⟨F, HF⟩ : ∃ F, Hid (dkFall d ks = F) := ⟨_, rfl⟩
  obtain ⟨Q, HQ⟩ : ∃ Q, Hid (dkOk d = Q) := ⟨_, rfl⟩
  have IF : Hid (∀ v W, RdD W v d → RdF encB 1 W q ks → Calls Try.prog 21 #[v, .slice q ks.length qc] W fun e w' => ∃ v', e = .returned v' ∧ OwnD w' W.heap.size v' F ∧ Below W.heap.size W w') := by
    intro v W hv hk
    rw [← HF.out]
    exact implFall v d q qc ks W ⟨by omega, by omega⟩ HSM.out hv hk
  have SK : Hid (∀ v W, RdD W v d → Calls Try.prog 22 #[v] W fun e w' => e = .returned (.bool Q) ∧ Below W.heap.size W w') := by
    intro v W hv
    rw [← HQ.out]
    exact specDiskOk v d W ⟨by omega, by omega⟩ hv
  have yD0 := hVD.cell 0
  have yD1 := hVD.cell 1
  simp at yD0 yD1
  go_wp2_with fail
  refine (IF.out _ _ hOD_1a.rd (HRK.out.below hCk_1a (Nat.le_refl _))).mono ?_
  rintro e w2 ⟨v2, rfl, hO2, hb2⟩
  clear yD0 yD1
  have hB2 : Below w.heap.size w w2 := hB1a.trans (hb2.mono hB1a.size)
  have hVD_2 : Var w2 w1.heap.size #[.slice aD d.1.length caD, .slice bD d.2.length cbD] 27 := hVD.new hb2
  have hOD_2 := hOD_1a.below hb2
  have hCk_2 : Below w1.heap.size w1 w2 := hCk_1a.trans (hb2.mono hCk_1a.size)
  clear hB1a hVD hOD_1a hCk_1a
  clear hb2
  obtain ⟨aF, caF, bF, cbF, rfl⟩ := hO2.shape
  have hB2a : Below w.heap.size w (w2.alloc (.cells #[.slice aF F.1.length caF, .slice bF F.2.length cbF] 27)) := hB2.trans ((below1 w2 (.cells #[.slice aF F.1.length caF, .slice bF F.2.length cbF] 27)).mono hB2.size)
  have hVD_2a : Var (w2.alloc (.cells #[.slice aF F.1.length caF, .slice bF F.2.length cbF] 27)) w1.heap.size #[.slice aD d.1.length caD, .slice bD d.2.length cbD] 27 := hVD_2.new (below1 w2 (.cells #[.slice aF F.1.length caF, .slice bF F.2.length cbF] 27))
  have hOD_2a := hOD_2.below (below1 w2 (.cells #[.slice aF F.1.length caF, .slice bF F.2.length cbF] 27))
  have hOF_2a := hO2.below (below1 w2 (.cells #[.slice aF F.1.length caF, .slice bF F.2.length cbF] 27))
  have hCk_2a : Below w1.heap.size w1 (w2.alloc (.cells #[.slice aF F.1.length caF, .slice bF F.2.length cbF] 27)) := hCk_2.trans ((below1 w2 (.cells #[.slice aF F.1.length caF, .slice bF F.2.length cbF] 27)).mono hCk_2.size)
  clear hB2 hVD_2 hOD_2 hO2 hCk_2
  have hVF : Var (w2.alloc (.cells #[.slice aF F.1.length caF, .slice bF F.2.length cbF] 27)) w2.heap.size #[.slice aF F.1.length caF, .slice bF F.2.length cbF] 27 := Var.made w2 _ _
  have yD0 := hVD_2a.cell 0
  have yD1 := hVD_2a.cell 1
  simp at yD0 yD1
  go_wp2_with fail
  refine (SK.out _ _ hOD_2a.rd).mono ?_
  rintro e w3 ⟨rfl, hb3⟩
  clear yD0 yD1
  have hB3 : Below w.heap.size w w3 := hB2a.trans (hb3.mono hB2a.size)
  have hVD_3 : Var w3 w1.heap.size #[.slice aD d.1.length caD, .slice bD d.2.length cbD] 27 := hVD_2a.new hb3
  have hVF_3 : Var w3 w2.heap.size #[.slice aF F.1.length caF, .slice bF F.2.length cbF] 27 := hVF.new hb3
  have hOD_3 := hOD_2a.below hb3
  have hOF_3 := hOF_2a.below hb3
  have hCk_3 : Below w1.heap.size w1 w3 := hCk_2a.trans (hb3.mono hCk_2a.size)
  clear hB2a hVD_2a hVF hOD_2a hOF_2a hCk_2a
  clear hb3
  clear IF SK
  cases Q with
  | false =>
    have HN : Hid (F = d) := by show _ = _; rw [← HF.out]; exact fall_bad HQ.out ks
    have HC : Hid (Calls Try.prog 17 #[(.agg #[.slice aF F.1.length caF, .slice bF F.2.length cbF]), (.agg #[.slice aD d.1.length caD, .slice bD d.2.length cbD])] w3 fun r w' => r = .returned (.bool true) ∧ Below w3.heap.size w3 w') := by
      have h := specDiskSame (.agg #[.slice aF F.1.length caF, .slice bF F.2.length cbF]) (.agg #[.slice aD d.1.length caD, .slice bD d.2.length cbD]) F d w3 (by rw [HN.out]; exact ⟨by omega, by omega⟩) hOF_3.rd hOD_3.rd
      have hs : dkSame F d = true := by rw [HN.out, dkSame_refl]
      rw [hs] at h
      exact h
    have yD0 := hVD_3.cell 0
    have yD1 := hVD_3.cell 1
    simp at yD0 yD1
    have yF0 := hVF_3.cell 0
    have yF1 := hVF_3.cell 1
    simp at yF0 yF1
    go_wp2_with fail
    refine (HC.out).mono ?_
    rintro e w4 ⟨rfl, hb4⟩
    clear yD0 yD1 yF0 yF1
    go_wp2
    go_ret
    exact ⟨rfl, hB3.trans (hb4.mono hB3.size)⟩
  | true =>
    have yD0 := hVD_3.cell 0
    have yD1 := hVD_3.cell 1
    simp at yD0 yD1
    have yF0 := hVF_3.cell 0
    have yF1 := hVF_3.cell 1
    simp at yF0 yF1
    obtain ⟨hf1, hf2⟩ : F.1.length = d.1.length ∧ F.2.length = 0 := by rw [← HF.out]; obtain ⟨h1, h2⟩ := fall_len HQ.out ks; exact ⟨h1, by rw [h2]; rfl⟩
    obtain ⟨i0, hi, hz0, hz1, hz2⟩ := info_parts Try.infoBool
    have HVD : Hid (Var w3 w1.heap.size #[.slice aD d.1.length caD, .slice bD d.2.length cbD] 27) := hVD_3
    have HVF : Hid (Var w3 w2.heap.size #[.slice aF d.1.length caF, .slice bF 0 cbF] 27) := by have h := hVF_3; rw [hf1, hf2] at h; exact h
    have HFL : Hid (F.1.length = d.1.length) := hf1
    have HCL : Hid (∀ W, Below w3.heap.size w3 W → W.cell? ⟨w1.heap.size, 0, none⟩ = some (.slice aD d.1.length caD) ∧ W.cell? ⟨w1.heap.size, 1, none⟩ = some (.slice bD d.2.length cbD) ∧ W.cell? ⟨w2.heap.size, 0, none⟩ = some (.slice aF d.1.length caF) ∧ W.cell? ⟨w2.heap.size, 1, none⟩ = some (.slice bF 0 cbF)) := fun W h => ⟨(HVD.out.new h).cell 0, (HVD.out.new h).cell 1, (HVF.out.new h).cell 0, (HVF.out.new h).cell 1⟩
    have HRD : Hid (∀ W, Below w3.heap.size w3 W → RdD W (.agg #[.slice aD d.1.length caD, .slice bD d.2.length cbD]) d) := fun W h => hOD_3.rd.below h (Nat.le_refl _)
    have HRF : Hid (∀ W, Below w3.heap.size w3 W → RdD W (.agg #[.slice aF F.1.length caF, .slice bF F.2.length cbF]) F) := fun W h => hOF_3.rd.below h (Nat.le_refl _)
    have HB3 : Hid (Below w.heap.size w w3) := hB3
    have ho0 : (w3.alloc (.cells #[] 4)).ownsRow w3.heap.size 4 1 (.slice (some ⟨w3.heap.size, 0, none⟩) 0 0) 0 [] := World.ownsRow_made w3 #[] 0 (Nat.le_refl _) (Nat.zero_le _) rfl
    have hb0 : Below w3.heap.size w3 (w3.alloc (.cells #[] 4)) := below1 w3 _
    have HA : Hid (∀ v W c2, RdD W v d → ∀ a, RdF encB 1 W a (List.replicate d.2.length true) → Calls Try.prog 21 #[v, .slice a d.2.length c2] W fun e w' => ∃ v', e = .returned v' ∧ OwnD w' W.heap.size v' (dkFlush d) ∧ Below W.heap.size W w') := by
      intro v W c2 hv a ha
      have h := implFall v d a c2 (List.replicate d.2.length true) W ⟨by omega, by omega⟩ HSM.out hv ha
      rw [fall_all, List.length_replicate] at h
      exact h
    have HFl : Hid (∀ v W, RdD W v d → Calls Try.prog 19 #[v] W fun e w' => ∃ v', e = .returned v' ∧ OwnD w' W.heap.size v' (dkFlush d) ∧ Below W.heap.size W w') := fun v W hv => implFlush v d W ⟨by omega, by omega⟩ HSM.out hv
    have HSm : Hid (∀ v u W, RdD W v (dkFlush d) → RdD W u (dkFlush d) → Calls Try.prog 20 #[v, u] W fun r w' => r = .returned (.bool true) ∧ Below W.heap.size W w') := by
      intro v u W hv hu
      have hl : (dkFlush d).1.length ≤ 4194304 ∧ (dkFlush d).2.length ≤ 4194304 := by
        rw [← fall_all]; obtain ⟨h1, h2⟩ := fall_len HQ.out (List.replicate d.2.length true); exact ⟨by rw [h1]; omega, by rw [h2]; simp⟩
      have h := implDiskSame v u (dkFlush d) (dkFlush d) W hl hv hu
      rw [dkSame_refl] at h
      exact h
    obtain ⟨N, HN⟩ : ∃ N, Hid (dkFall d [] = N) := ⟨_, rfl⟩
    have HNn : Hid (∀ v W, RdD W v d → Calls Try.prog 21 #[v, .slice none 0 0] W fun e w' => ∃ v', e = .returned v' ∧ OwnD w' W.heap.size v' N ∧ Below W.heap.size W w') := by
      intro v W hv
      rw [← HN.out]
      exact implFall v d none 0 [] W ⟨by omega, by omega⟩ HSM.out hv (.inl rfl)
    have HRs : Hid (∀ v W (k : Nat), k < d.1.length → RdD W v N → Calls Try.prog 18 #[v, .int .i64 (k : Int)] W fun e w' => e = .returned (.tuple #[.string (d.1.getD k ⟨#[]⟩), .bool true]) ∧ Below W.heap.size W w') := by
      intro v W k hk hv
      have hl : N.1.length ≤ 4194304 ∧ N.2.length ≤ 4194304 := by rw [← HN.out, fall_nil HQ.out]; exact ⟨by show d.1.length ≤ _; omega, by simp⟩
      have h := implSectorRead v N (k : Int) W hl hv
      have e1 : dkRead N (k : Int) = some (d.1.getD k ⟨#[]⟩) := by rw [← HN.out]; exact read_fallen HQ.out hk
      simp only [rdTx, rdOk, e1, Option.getD_some, Option.isSome_some] at h
      exact h
    have HSD : Hid (∀ W, Below w3.heap.size w3 W → ∀ k, k < d.1.length → ∃ b off, aD = some ⟨b, off, none⟩ ∧ W.cell? ⟨b, off + k, none⟩ = some (.string (d.1.getD k ⟨#[]⟩))) := by
      intro W h k hk
      obtain ⟨x1, x2, x3, x4, he, r1, _⟩ := HRD.out W h
      cases he
      rcases r1 with h0 | ⟨b, off, h1, _, h2⟩
      · simp [h0] at hk
      exact ⟨b, off, h1, by rw [h2 k hk]; simp [List.getD, hk]⟩
    have HSP : Hid (∀ W, Below w3.heap.size w3 W → ∀ k, k < d.2.length → ∃ b off, bD = some ⟨b, off, none⟩ ∧ W.cell? ⟨b, off + k * 2, none⟩ = some (.int .i64 (d.2.getD k (0, ⟨#[]⟩)).1) ∧ W.cell? ⟨b, off + k * 2 + 1, none⟩ = some (.string (d.2.getD k (0, ⟨#[]⟩)).2)) := by
      intro W h k hk
      obtain ⟨x1, x2, x3, x4, he, _, r2⟩ := HRD.out W h
      cases he
      obtain ⟨b, off, h1, _, h2⟩ := r2.at k hk
      refine ⟨b, off, h1, ?_, ?_⟩
      · have := h2 0 (by omega); rw [Nat.add_zero] at this; rw [this]; simp [List.getD, hk, encP]
      · have := h2 1 (by omega); rw [this]; simp [List.getD, hk, encP]
    have HSF : Hid (∀ W, Below w3.heap.size w3 W → ∀ k, k < d.1.length → ∃ b off, aF = some ⟨b, off, none⟩ ∧ W.cell? ⟨b, off + k, none⟩ = some (.string (F.1.getD k ⟨#[]⟩))) := by
      intro W h k hk
      obtain ⟨x1, x2, x3, x4, he, r1, _⟩ := HRF.out W h
      cases he
      have hk' : k < F.1.length := by rw [HFL.out]; exact hk
      rcases r1 with h0 | ⟨b, off, h1, _, h2⟩
      · simp [h0] at hk'
      exact ⟨b, off, h1, by rw [h2 k hk']; simp [List.getD, hk']⟩
    clear yD0 yD1 yF0 yF1 hVD_3 hVF_3 hOD_3 hOF_3 hf1 hf2
    go_wp2
    go_loopw [6, 7] (fun v i wr => ∃ k : Nat, k ≤ d.2.length ∧ i = .int .i64 k ∧ wr.ownsRow w3.heap.size 4 1 v k ((List.replicate k true).map Value.bool) ∧ Below w3.heap.size w3 wr) (fun _ i _ => d.2.length - (intOf i).toNat)
    case atStart => exact ⟨0, Nat.zero_le _, rfl, ho0, hb0⟩
    case round =>
      obtain ⟨k, hk, rfl, hown, hbel⟩ := hrel
      clear ho0 hb0
      obtain ⟨y0, y1, y2, y3⟩ := HCL.out _ hbel
      by_cases hlt2 : k < d.2.length
      · go_wp2_with (at_builtin; refine wpList_append_own _ rfl _ _ 30 rfl w3.heap.size 4 i0 (.bool false) 1 1 Try.underlying30 hi hz0 hz1 hz2 rfl (by decide) _ _ _ rfl (hown.alloc _) ⟨wr.heap.size, 0, none⟩ 1 1 [.bool true] rfl rfl ?c1 ?c2 ?c3 ?c4 ?c5 ?_)
        case c1 =>
          intro j u hj
          match j, hj with
          | 0, hj => simp at hj; subst hj; simp [Addr.add]
        case c2 => intro u hu; simp at hu; subst hu; rfl
        case c3 => unfold maxLen; omega
        case c4 => omega
        case c5 => have := hbel.size; simp; omega
        intro v2 w4 hown2 hgrow _
        have hbel2 : Below w3.heap.size w3 w4 := (hbel.alloc hbel.size _).grown hgrow (by have := hbel.size; simp; omega) (fun j hj => (hown.lt j hj).1)
        have ho2 : w4.ownsRow w3.heap.size 4 1 v2 (k + 1) ((List.replicate (k + 1) true).map Value.bool) := by rw [List.replicate_succ']; simpa using hown2
        clear hgrow hown2 hown hbel y0 y1 y2 y3
        go_wp2
        go_roundw
        case rel => exact ⟨k + 1, by omega, by go_num, ho2, hbel2⟩
        case measure => simp [intOf]; omega
      · obtain rfl : k = d.2.length := by omega
        rw [← flatB] at hown
        obtain ⟨qa, qn, rfl, _, hra⟩ := own_rdF encB_len hown (by simp)
        have HRA : Hid (RdF encB 1 wr qa (List.replicate d.2.length true)) := hra
        have HBL : Hid (Below w3.heap.size w3 wr) := hbel
        clear hra hown hbel
        go_wp2_with fail
        go_region_held3 (fun W => W.cell? ⟨w1.heap.size, 0, none⟩ = some (.slice aD d.1.length caD) ∧ W.cell? ⟨w1.heap.size, 1, none⟩ = some (.slice bD d.2.length cbD) ∧ W.cell? ⟨w2.heap.size, 0, none⟩ = some (.slice aF d.1.length caF) ∧ W.cell? ⟨w2.heap.size, 1, none⟩ = some (.slice bF 0 cbF)) (go_keep) (first
          | (go_at_call 20
             refine (HSm.out _ _ _ (ho4.rd.below hb5 (Nat.le_refl _)) ho5.rd).mono ?_
             rintro e w6 ⟨rfl, hb6⟩
             have hc6 : Below w3.heap.size w3 w6 := hc5.trans (hb6.mono hc5.size)
             obtain ⟨y0, y1, y2, y3⟩ := HCL.out _ hc6
             clear hb6 hc5 hb5 ho4 ho5)
          | (go_at_call 19
             refine (HFl.out _ _ (HRD.out _ hc4)).mono ?_
             rintro e w5 ⟨v5, rfl, ho5, hb5⟩
             have hc5 : Below w3.heap.size w3 w5 := hc4.trans (hb5.mono hc4.size)
             obtain ⟨y0, y1, y2, y3⟩ := HCL.out _ hc5
             clear hc4)
          | (go_at_call 21
             refine (HA.out _ wr.drew _ (HRD.out _ HBL.out.drew) qa (HRA.out.below (Below.refl _ _).drew (Nat.le_refl _))).mono ?_
             rintro e w4 ⟨v4, rfl, ho4, hb4⟩
             have hc4 : Below w3.heap.size w3 w4 := HBL.out.drew.trans (hb4.mono HBL.out.size)
             obtain ⟨y0, y1, y2, y3⟩ := HCL.out _ hc4
             clear hb4))
        clear HA HFl HSm HRA HBL
        go_wp2_with fail
        refine (HNn.out _ _ (HRD.out _ hc6)).mono ?_
        rintro e w7 ⟨v7, rfl, ho7, hb7⟩
        clear y0 y1 y2 y3 HNn
        obtain ⟨aN, caN, bN, cbN, rfl⟩ := ho7.shape
        have hc7 : Below w3.heap.size w3 w7 := hc6.trans (hb7.mono hc6.size)
        have hb8 := below1 w7 (.cells #[.slice aN N.1.length caN, .slice bN N.2.length cbN] 27)
        have HC8 : Hid (∀ W, Below (w7.heap.size + 1) (w7.alloc (.cells #[.slice aN N.1.length caN, .slice bN N.2.length cbN] 27)) W → Below w3.heap.size w3 W) := fun W h => (hc7.trans (hb8.mono hc7.size)).trans (h.mono (by have := hc7.size; omega))
        have HRN : Hid (∀ W, Below (w7.heap.size + 1) (w7.alloc (.cells #[.slice aN N.1.length caN, .slice bN N.2.length cbN] 27)) W → RdD W (.agg #[.slice aN N.1.length caN, .slice bN N.2.length cbN]) N ∧ W.cell? ⟨w7.heap.size, 0, none⟩ = some (.slice aN N.1.length caN) ∧ W.cell? ⟨w7.heap.size, 1, none⟩ = some (.slice bN N.2.length cbN)) :=
          fun W h => ⟨(ho7.below hb8).rd.below h (by simp), ((Var.made w7 _ _).below h (by simp)).cell 0, ((Var.made w7 _ _).below h (by simp)).cell 1⟩
        clear ho7 hb7 hb8 hc6 hc7
        go_wp2
        go_loopw [9] (fun i wr => ∃ k : Nat, k ≤ d.1.length ∧ i = .int .i64 k ∧ Below (w7.heap.size + 1) (w7.alloc (.cells #[.slice aN N.1.length caN, .slice bN N.2.length cbN] 27)) wr) (fun i _ => d.1.length - (intOf i).toNat)
        case atStart => exact ⟨0, Nat.zero_le _, rfl, Below.refl _ _⟩
        case round =>
          obtain ⟨k, hk, rfl, hbel⟩ := hrel
          obtain ⟨y0, y1, y2, y3⟩ := HCL.out _ (HC8.out _ hbel)
          by_cases hlt3 : k < d.1.length
          · obtain ⟨bd, od, rfl, hcd⟩ := HSD.out _ (HC8.out _ hbel) k hlt3
            obtain ⟨bf, of, rfl, hcf⟩ := HSF.out _ (HC8.out _ hbel) k hlt3
            have hi0 : (0 : Int) ≤ (k : Int) := by omega
            have hi1 : (k : Int) < (d.1.length : Int) := by omega
            have HAT := fallen_at HQ.out ks hlt3
            rw [HF.out] at HAT
            have HAT2 : Hid _ := HAT
            clear HAT
            have HRs2 : Hid _ := fun v W => HRs.out v W k hlt3
            have HCX : Hid (∀ W, Below w3.heap.size w3 W → W.cell? ⟨bd, od + k, none⟩ = some (.string (d.1.getD k ⟨#[]⟩)) ∧ W.cell? ⟨bf, of + k, none⟩ = some (.string (F.1.getD k ⟨#[]⟩))) := by
              intro W h
              obtain ⟨_, _, he, h1⟩ := HSD.out W h k hlt3
              cases he
              obtain ⟨_, _, he, h2⟩ := HSF.out W h k hlt3
              cases he
              exact ⟨h1, h2⟩
            generalize F.1.getD k ⟨#[]⟩ = X at *
            generalize d.1.getD k ⟨#[]⟩ = Y at *
            go_wp2
            go_region_held3 (fun W => W.cell? ⟨w1.heap.size, 0, none⟩ = some (.slice (some ⟨bd, od, none⟩) d.1.length caD) ∧ W.cell? ⟨w1.heap.size, 1, none⟩ = some (.slice bD d.2.length cbD) ∧ W.cell? ⟨w2.heap.size, 0, none⟩ = some (.slice (some ⟨bf, of, none⟩) d.1.length caF) ∧ W.cell? ⟨w2.heap.size, 1, none⟩ = some (.slice bF 0 cbF) ∧ W.cell? ⟨bd, od + k, none⟩ = some (.string Y) ∧ W.cell? ⟨bf, of + k, none⟩ = some (.string X)) (go_keep) (fail)
            go_wp2
            go_loopw [10, 11] (fun o i wr2 => ∃ m : Nat, m ≤ d.2.length ∧ o = .bool ((X.toList == Y.toList) || madeIt (d.2.take m) k X) ∧ i = .int .i64 m ∧ Below (w7.heap.size + 1) (w7.alloc (.cells #[.slice aN N.1.length caN, .slice bN N.2.length cbN] 27)) wr2) (fun _ i _ => d.2.length - (intOf i).toNat)
            case atStart => exact ⟨0, Nat.zero_le _, by simp [madeIt], rfl, by first | exact hbel | exact hbel.drew⟩
            case round =>
              obtain ⟨m, hm, rfl, rfl, hbel2⟩ := hrel
              clear y0 y1 y2 y3 hcd hcf
              obtain ⟨y0, y1, y2, y3⟩ := HCL.out _ (HC8.out _ hbel2)
              obtain ⟨hcd, hcf⟩ := HCX.out _ (HC8.out _ hbel2)
              by_cases hlt4 : m < d.2.length
              · obtain ⟨bp, op, rfl, hp0, hp1⟩ := HSP.out _ (HC8.out _ hbel2) m hlt4
                have HTK : Hid _ := madeIt_succ (i := k) (x := X) hlt4
                have hj0 : (0 : Int) ≤ (m : Int) := by omega
                have hj1 : (m : Int) < (d.2.length : Int) := by omega
                generalize (d.2.getD m (0, ⟨#[]⟩)).1 = pa at *
                generalize (d.2.getD m (0, ⟨#[]⟩)).2 = px at *
                obtain ⟨B, HBB⟩ : ∃ B, Hid (((X.toList == Y.toList) || madeIt (d.2.take m) k X) = B) := ⟨_, rfl⟩
                rw [HBB.out]
                have HNX : Hid (((X.toList == Y.toList) || madeIt (d.2.take (m + 1)) k X) = (B || (decide (pa = (k : Int)) && (px.toList == X.toList)))) := by
                  show _ = _; rw [HTK.out, ← Bool.or_assoc, HBB.out]
                clear HTK HBB
                go_wp2
                cases B with
                | true =>
                  go_quiet (fail)
                  go_wp2
                  go_roundw
                  case rel => exact ⟨m + 1, by omega, by rw [HNX.out]; simp, by go_num, by first | exact hbel2 | exact hbel2.drew | exact hbel2.trans ⟨rfl, rfl, rfl, Nat.le_refl _, fun _ _ => rfl⟩⟩
                  case measure => simp [intOf]; omega
                | false =>
                  by_cases hpk : pa = (k : Int)
                  · subst hpk
                    go_quiet (fail)
                    go_wp2
                    go_roundw
                    case rel => exact ⟨m + 1, by omega, by rw [HNX.out]; simp, by go_num, by first | exact hbel2 | exact hbel2.drew | exact hbel2.trans ⟨rfl, rfl, rfl, Nat.le_refl _, fun _ _ => rfl⟩⟩
                    case measure => simp [intOf]; omega
                  · have hpd : decide (pa = (k : Int)) = false := by simp [hpk]
                    go_quiet (fail)
                    go_wp2
                    go_roundw
                    case rel => exact ⟨m + 1, by omega, by rw [HNX.out]; simp [hpk], by go_num, by first | exact hbel2 | exact hbel2.drew | exact hbel2.trans ⟨rfl, rfl, rfl, Nat.le_refl _, fun _ _ => rfl⟩⟩
                    case measure => simp [intOf]; omega
              · obtain rfl : m = d.2.length := by omega
                have hte : ((X.toList == Y.toList) || madeIt (d.2.take d.2.length) k X) = true := by rw [List.take_length]; exact HAT2.out
                rw [hte]
                obtain ⟨hrn, hn0, hn1⟩ := HRN.out _ hbel2
                have HRN2 : Hid (RdD wr (.agg #[.slice aN N.1.length caN, .slice bN N.2.length cbN]) N) := hrn
                have hyy : (Y.toList == Y.toList) = true := by simp
                clear hrn hte
                go_wp2_with fail
                refine (HRs2.out _ _ HRN2.out).mono ?_
                rintro e w9 ⟨rfl, hb9⟩
                have hbel9 : Below (w7.heap.size + 1) (w7.alloc (.cells #[.slice aN N.1.length caN, .slice bN N.2.length cbN] 27)) w9 := hbel2.trans (hb9.mono (by have := hbel2.size; simp at this; omega))
                clear y0 y1 y2 y3 hcd hcf hn0 hn1
                obtain ⟨y0, y1, y2, y3⟩ := HCL.out _ (HC8.out _ hbel9)
                obtain ⟨hcd, hcf⟩ := HCX.out _ (HC8.out _ hbel9)
                go_wp2
                go_roundw
                case rel => exact ⟨k + 1, by omega, by go_num, hbel9⟩
                case measure => simp [intOf]; omega
          · obtain rfl : k = d.1.length := by omega
            go_wp2
            go_ret
            exact ⟨rfl, HB3.out.trans ((HC8.out _ hbel).mono HB3.out.size)⟩

set_option maxRecDepth 100000 in
theorem lifted (os : Os) (started : os.Started) (H : Type) (enc : TypeId × Value → H) :
    ReturnsInHanded {} Try.checked os 4 .any (Rows.fnFallenSpec.pre6 enc Try.prog Try.f4 Rows.fnFallenRow.domain false) (Rows.fnFallenSpec.post enc Try.prog Try.f4 false true false false) := by
  refine returnsInHanded_of_change (C := Try.checked) own started (by kernel_rfl) Try.func4
    (ChangeSpec.witness6 (enc := enc) (C := Try.checked) false ⟨#[], #[.slice none 0 0], []⟩ 8 (by kernel_rfl) (by kernel_rfl) (by kernel_rfl) (by kernel_rfl)) ?_
  intro W base args ds gs before hval0 hW hcnd _
  have hval : ∀ (j : Nat) t v, Try.f4.params[j]? = some t → args[j]? = some v → Value.okWide Try.prog W .any base t v := hval0
  have hW' := hW
  obtain ⟨p, q, hA0, hV, rfl, hfz, hnd⟩ := hW
  have hA : DataW.TrodAll enc Try.prog W 0 (fun _ => true) true Try.f4.params.toList args.toList ds p := hA0
  rw [Try.params4] at hA hval
  obtain ⟨v0, vs0, d0, ds0, p0, q0, hargs, rfl, rfl, h0, rr0⟩ := trodAll_cons hA
  obtain ⟨rfl, rfl, rfl⟩ := trodAll_nil rr0
  obtain rfl : args = #[v0] := by cases args; simp_all
  obtain ⟨rfl, rfl⟩ := trodVars_none hV
  have k0 := h0
  have lt0 : ∀ x ∈ p0, x.block < W.heap.size := by obtain ⟨m, hm⟩ := k0; exact DataW.trod_lt m _ _ _ hm
  obtain ⟨a0, cap0, l0, rfl, u0, r0⟩ := open_Bytes (hval 0 22 v0 rfl rfl) h0
  clear hA0 hval0
  refine (walk a0 cap0 l0 u0 W r0).mono fun e W' ⟨he, bel⟩ => ?_
  subst he
  exact ⟨_, rfl, _, _, _, [], _, [], hW', trodAll_mk1 (shut_bool Try.underlying4 _), (trodAll_cons_mk (Below.trod laidOut (by kernel_rfl) (of_decide_eq_true (by kernel_rfl)) k0 bel lt0) trodAll_mk0), rfl, bel.frame _, fun h => by cases h⟩

theorem over : Rows.fnFallenRow.holds Try.pinned (OpenSpec.ofChange Rows.fnFallenSpec) :=
  OpenClaim.holds_of_wide 4 Try.f4 rfl rfl rfl rfl rfl rfl rfl ⟨rfl, rfl, rfl, rfl, rfl⟩ rfl rfl rfl rfl rfl (by kernel_rfl) Try.func4 (by kernel_rfl)
    (of_decide_eq_true (by kernel_rfl)) (by unfold Func.isWrapper; first | (rw [if_pos (by decide +kernel)]; kernel_rfl) | (rw [if_neg (by decide +kernel)]; exact ⟨rfl, rfl⟩))
    (fun os started H enc _ => lifted os started H enc)

theorem proved : Rows.FnFallenSaid := over
#print axioms proved
end Go.Proofs.Ytddjgfkklgjagaa.fnFallen
