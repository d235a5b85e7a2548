/-
  Own text: whether entries are right, by the program.
-/
import Derived.Test.YtogpgocldgdeaaaDoorIEokB
import Derived.Test.YtogpgocldgdeaaaDoorIEntTW
namespace Go.Proofs.YtogpgocldgdeaaaDoor
open Go.RowKit

def NamP (l : List EntD) (i : Nat) : Prop := ∀ k (hk : k < l.length), k < i → enName (l[k]).1 = true
theorem enP_iff (l : List EntD) : EnP l ↔ NamP l l.length ∧ OrdP l l.length ∧ NdsP l l.length ∧ (enText l).length ≤ 80 := by
  constructor
  · rintro ⟨h, h8⟩
    exact ⟨fun k hk hi => (h k hk hi).1.1, fun k hk hi h0 h1 => (h k hk hi).2.1 h0 h1, fun k hk hi => ⟨(h k hk hi).1.2, (h k hk hi).2.2⟩, h8⟩
  · rintro ⟨h1, h2, h3, h8⟩
    exact ⟨fun k hk hi => ⟨⟨h1 k hk hi, (h3 k hk hi).1⟩, fun h0 h => h2 k hk hi h0 h, (h3 k hk hi).2⟩, h8⟩

set_option maxRecDepth 20000 in
set_option maxHeartbeats 2000000 in
theorem implEntriesOk (a : Option Addr) (c : Nat) (l : List EntD) (w : World) (hl : SmE l) (hr : RdF encN 2 w a l) :
    Calls Tryd.prog 10 #[.slice a l.length c] w fun e w' => e = .returned (.bool (enOk l)) ∧ Below w.heap.size w w' := by
  have hll := szEn_len l
  have hl1 := hl.1
  have HCS : Hid (∀ k (hk : k < l.length), ∃ b off, a = some ⟨b, off, none⟩ ∧ b < w.heap.size ∧ ∀ j, j < 2 → w.cell? ⟨b, off + k * 2 + j, none⟩ = (encN l[k])[j]?) := fun k hk => hr.at k hk
  have HRD : Hid (∀ W, Below w.heap.size w W → RdF encN 2 W a l) := fun W h => hr.below h (Nat.le_refl _)
  have HBAD : Hid (∀ k (hk : k < l.length), enName (l[k]).1 = false → enOk l = false) := fun k hk h => enOk_no fun h2 => by have := ((enP_iff l).1 h2).1 k hk hk; rw [h] at this; cases this
  have HO : Hid (ordOk l = false → enOk l = false) := fun h => enOk_no fun h2 => by have := ordOk_yes ((enP_iff l).1 h2).2.1; rw [h] at this; cases this
  have HN : Hid (ndsOk l = false → enOk l = false) := fun h => enOk_no fun h2 => by have := ndsOk_yes ((enP_iff l).1 h2).2.2.1; rw [h] at this; cases this
  have HFIN : Hid (NamP l l.length → ordOk l = true → ndsOk l = true → enOk l = decide (((enTextS l).size : Int) ≤ 80)) := fun h1 h2 h3 => by
    have h2' : OrdP l l.length := by unfold ordOk at h2; exact @of_decide_eq_true _ (Classical.propDecidable _) h2
    have h3' : NdsP l l.length := by unfold ndsOk at h3; exact @of_decide_eq_true _ (Classical.propDecidable _) h3
    have e : (enTextS l).size = (enText l).length := by simp [enTextS, baOf, ByteArray.size]
    rw [e]
    by_cases h8 : (enText l).length ≤ 80
    · rw [enOk_yes ((enP_iff l).2 ⟨h1, h2', h3', h8⟩), decide_eq_true (by omega)]
    · rw [enOk_no fun hp => h8 hp.2, decide_eq_false (by omega)]
  have HTL : Hid ((enTextS l).size ≤ 30000000) := by show _ ≤ _; have h1 := enText_len l; simp [enTextS, baOf, ByteArray.size]; omega
  clear hr
  go_enter Tryd.func10, Tryd.ntmps10
  go_wp2
  go_loopw [7] (fun i wr => ∃ k : Nat, k ≤ l.length ∧ i = .int .i64 k ∧ Hid (NamP l k) ∧ Below w.heap.size w wr) (fun i _ => l.length - (intOf i).toNat)
  case atStart => exact ⟨0, Nat.zero_le _, rfl, (fun k _ h => by omega), Below.refl _ _⟩
  case round =>
    obtain ⟨k, hk, rfl, HP, hB⟩ := hrel
    by_cases hlt : k < l.length
    · obtain ⟨b, off, rfl, hblt, hcell⟩ := HCS.out k hlt
      have hc0 : wr.cell? ⟨b, off + k * 2, none⟩ = some (.string l[k].1) := (hB.cell hblt).trans (hcell 0 (by omega))
      have hc1 : wr.cell? ⟨b, off + k * 2 + 1, none⟩ = some (.int .i64 l[k].2) := (hB.cell hblt).trans (hcell 1 (by omega))
      have hB2 : Below w.heap.size w (wr.alloc (.cells #[.string l[k].1, .int .i64 l[k].2] 32)) := hB.alloc hB.size _
      have HNX : Hid (enName (l[k]).1 = true → NamP l (k + 1)) := fun h i hi hik => by
        by_cases e : i = k
        · subst e; exact h
        · exact HP.out i hi (by omega)
      have HB1 := HBAD.out k hlt
      have HE1 : Hid (bt (l[k]).1 = [126] → enName (l[k]).1 = true) := fun h => by unfold enName; rw [@decide_eq_true _ (Classical.propDecidable _) h]; rfl
      have HE2 : Hid (¬ bt (l[k]).1 = [126] → enName (l[k]).1 = nmOk (bt (l[k]).1)) := fun h => by unfold enName; rw [@decide_eq_false _ (Classical.propDecidable _) h]; rfl
      by_cases hh : bt (l[k]).1 = [126]
      · have ht := lit_same hh
        have HP2 : Hid (NamP l (k + 1)) := HNX.out (HE1.out hh)
        clear hh HNX HB1 HE1 HE2 hcell HP
        generalize (l[k]).1 = s at *
        generalize (l[k]).2 = n at *
        go_wp2
        go_roundw
        case rel => exact ⟨k + 1, by omega, by go_num, HP2, hB2⟩
        case measure => simp [intOf]; omega
      · have ht := lit_other hh
        have he := HE2.out hh
        obtain ⟨q, hq⟩ : ∃ q, enName (l[k]).1 = q := ⟨_, rfl⟩
        have hq2 : nmOk (bt (l[k]).1) = q := by rw [← he, hq]
        have HNM : Hid (∀ W, Calls Tryd.prog 28 #[.string (l[k]).1] W fun e w' => e = .returned (.bool q) ∧ Below W.heap.size W w') := fun W => by rw [← hq2]; exact implName _ W
        cases q with
        | true =>
          have HP2 : Hid (NamP l (k + 1)) := HNX.out hq
          clear hh HNX HB1 HE1 HE2 hcell HP hq hq2 he
          generalize (l[k]).1 = s at *
          generalize (l[k]).2 = n at *
          go_wp2_with fail
          refine (HNM.out _).mono ?_
          rintro e w3 ⟨rfl, hb3⟩
          have hB3 := hB2.trans (hb3.mono hB2.size)
          go_wp2
          go_roundw
          case rel => exact ⟨k + 1, by omega, by go_num, HP2, hB3⟩
          case measure => simp [intOf]; omega
        | false =>
          have HE : Hid (enOk l = false) := HB1 hq
          clear hh HNX HB1 HE1 HE2 hcell HP hq hq2 he
          generalize (l[k]).1 = s at *
          generalize (l[k]).2 = n at *
          go_wp2_with fail
          refine (HNM.out _).mono ?_
          rintro e w3 ⟨rfl, hb3⟩
          have hB3 := hB2.trans (hb3.mono hB2.size)
          go_wp2
          go_ret
          exact ⟨by rw [HE.out]; rfl, hB3⟩
    · obtain rfl : k = l.length := by omega
      have HI : Hid (∀ W, Below w.heap.size w W → Calls Tryd.prog 29 #[.slice a l.length c] W fun e w' => e = .returned (.bool (ordOk l)) ∧ Below W.heap.size W w') := fun W h => implInOrder a c l W (by omega) (HRD.out W h)
      have HJ : Hid (∀ W, Below w.heap.size w W → Calls Tryd.prog 30 #[.slice a l.length c] W fun e w' => e = .returned (.bool (ndsOk l)) ∧ Below W.heap.size W w') := fun W h => implNodesOk a c l W (by omega) (HRD.out W h)
      have HT : Hid (∀ W, Below w.heap.size w W → Calls Tryd.prog 13 #[.slice a l.length c] W fun e w' => e = .returned (.string (enTextS l)) ∧ Below W.heap.size W w') := fun W h => implDirText a c l W hl (HRD.out W h)
      have HF := HFIN.out HP.out
      have HO2 := HO.out
      have HN2 := HN.out
      have hT := HTL.out
      clear HCS HRD HBAD HO HN HFIN HTL HP
      cases hq : ordOk l with
      | false =>
        have HE : Hid (enOk l = false) := HO2 hq
        rw [hq] at HI
        clear hq HF HO2 HN2 HJ HT hT
        go_wp2_with fail
        refine (HI.out _ hB).mono ?_
        rintro e w3 ⟨rfl, hb3⟩
        have hB3 := hB.trans (hb3.mono hB.size)
        go_wp2
        go_ret
        exact ⟨by rw [HE.out]; rfl, hB3⟩
      | true =>
        cases hq2 : ndsOk l with
        | false =>
          have HE : Hid (enOk l = false) := HN2 hq2
          rw [hq] at HI
          rw [hq2] at HJ
          clear hq hq2 HF HO2 HN2 HT hT
          go_wp2_with fail
          refine (HI.out _ hB).mono ?_
          rintro e w3 ⟨rfl, hb3⟩
          have hB3 := hB.trans (hb3.mono hB.size)
          go_wp2_with fail
          refine (HJ.out _ hB3).mono ?_
          rintro e w4 ⟨rfl, hb4⟩
          have hB4 := hB3.trans (hb4.mono hB3.size)
          go_wp2
          go_ret
          exact ⟨by rw [HE.out]; rfl, hB4⟩
        | true =>
          have HE : Hid (enOk l = decide (((enTextS l).size : Int) ≤ 80)) := HF hq hq2
          rw [hq] at HI
          rw [hq2] at HJ
          clear hq hq2 HF HO2 HN2
          generalize enTextS l = T at *
          go_wp2_with fail
          refine (HI.out _ hB).mono ?_
          rintro e w3 ⟨rfl, hb3⟩
          have hB3 := hB.trans (hb3.mono hB.size)
          go_wp2_with fail
          refine (HJ.out _ hB3).mono ?_
          rintro e w4 ⟨rfl, hb4⟩
          have hB4 := hB3.trans (hb4.mono hB3.size)
          go_wp2_with fail
          refine (HT.out _ hB4).mono ?_
          rintro e w5 ⟨rfl, hb5⟩
          have hB5 := hB4.trans (hb5.mono hB4.size)
          go_wp2
          go_ret
          exact ⟨by rw [HE.out]; rfl, hB5⟩
end Go.Proofs.YtogpgocldgdeaaaDoor
