/-
  Own texts, several together.
-/
import Derived.Test.YthfgfhbinggpfaaDoorBunZF
import Derived.Test.YthfgfhbinggpfaaDoorIEokB
import Derived.Test.YthfgfhbinggpfaaDoorBunZH
import Derived.Test.YthfgfhbinggpfaaDoorBunZM
import Derived.Test.YthfgfhbinggpfaaDoorBunZJ
import Derived.Test.YthfgfhbinggpfaaDoorBunZL
/-
  Own text: the text of entries, as the program writes it.
-/
namespace Go.Proofs.YthfgfhbinggpfaaDoor
open Go.RowKit

set_option maxRecDepth 20000 in
set_option maxHeartbeats 2000000 in
theorem implDirText (a : Option Addr) (c : Nat) (l : List EntD) (w : World) (hl : SmE l) (hr : RdF encN 2 w a l) :
    Calls Tryd.prog 96 #[.slice a l.length c] w fun e w' => e = .returned (.string (enTextS l)) ∧ Below w.heap.size w w' := by
  obtain ⟨i0, hi, hz0, hz1, hz2⟩ := info_parts Tryd.infoU8T
  have hll := szEn_len l
  have hl1 := hl.1
  have HCS : Hid (∀ k (hk : k < l.length), ∃ b off, a = some ⟨b, off, none⟩ ∧ b < w.heap.size ∧ ∀ j, j < 2 → w.cell? ⟨b, off + k * 2 + j, none⟩ = (encN l[k])[j]?) := fun k hk => hr.at k hk
  have HLEN : Hid (∀ k, (enText (l.take k)).length ≤ 30000000) := fun k => by have h1 := enText_len (l.take k); have h2 := szEn_takeLe l k; omega
  have HSZ : Hid (∀ e ∈ l, e.1.size ≤ 1048576) := hl.2
  have HO0 : Hid (w.ownsRow w.heap.size 5 1 (.slice none 0 0) (enText (l.take 0)).length ((enText (l.take 0)).map (Value.int .u8))) := World.ownsRow_nil _ _ _ _
  have hb0 : Below w.heap.size w w := Below.refl _ _
  clear hr
  go_enter Tryd.func96, Tryd.ntmps96
  go_wp2
  go_loopw [3, 8] (fun v i wr => ∃ (k : Nat) (v' : Value), v' = v ∧ k ≤ l.length ∧ i = .int .i64 k ∧ Hid (wr.ownsRow w.heap.size 5 1 v' (enText (l.take k)).length ((enText (l.take k)).map (Value.int .u8))) ∧ Below w.heap.size w wr) (fun _ i _ => l.length - (intOf i).toNat)
  case atStart => exact ⟨0, _, rfl, Nat.zero_le _, rfl, HO0, hb0⟩
  case round =>
    clear HO0 hb0
    obtain ⟨k, v', rfl, hk, rfl, HO, hbel⟩ := hrel
    by_cases hlt : k < l.length
    · obtain ⟨b, off, rfl, hblt, hcell⟩ := HCS.out k hlt
      have hc0 : wr.cell? ⟨b, off + k * 2, none⟩ = some (.string l[k].1) := (hbel.cell hblt).trans (hcell 0 (by omega))
      have hc1 : wr.cell? ⟨b, off + k * 2 + 1, none⟩ = some (.int .i64 l[k].2) := (hbel.cell hblt).trans (hcell 1 (by omega))
      have HV : Hid (Var (wr.alloc (.cells #[.string l[k].1, .int .i64 l[k].2] 74)) wr.heap.size #[.string l[k].1, .int .i64 l[k].2] 74) := Var.made _ _ _
      have HBV : Hid (Below w.heap.size w (wr.alloc (.cells #[.string l[k].1, .int .i64 l[k].2] 74))) := hbel.alloc hbel.size _
      have HTK : Hid (enText (l.take (k + 1)) = enText (l.take k) ++ putText (l[k]).1 ++ putNum (l[k]).2) := enText_take hlt
      have hes := HSZ.out _ (List.getElem_mem hlt)
      have hL := HLEN.out k
      have hT5 := putText_len (l[k]).1
      have hN5 := putNum_len (l[k]).2
      clear hcell
      generalize (l[k]).1 = t at *
      generalize (l[k]).2 = n at *
      obtain ⟨B, hB⟩ : ∃ B, enText (l.take k) = B := ⟨_, rfl⟩
      rw [hB] at HO HTK hL
      clear hB
      obtain ⟨av, cv, rfl⟩ : ∃ av cv, v' = .slice av B.length cv := by
        rcases HO.out.2 with ⟨rfl, h0⟩ | ⟨g, cap, cur, rfl, _⟩
        · exact ⟨none, 0, by rw [h0]⟩
        · exact ⟨_, _, rfl⟩
      have HAP0 : ∀ j, (Value.slice av B.length cv).ownBlock = some j → j ≠ wr.heap.size := fun j hj => by have := (HO.out.lt j hj).2; omega
      go_wp2_with fail
      refine (implPutText t _ hes).mono ?_
      rintro e w1 ⟨v1, rfl, ho1, hb1⟩
      have hO1 := ownsRow_below (ownsRow_below HO.out (below1 wr _) (Nat.le_refl _)) hb1 (Nat.le_refl _)
      have hbel1 := HBV.out.trans (hb1.mono HBV.out.size)
      have HV1 : Hid (Var w1 wr.heap.size #[.string t, .int .i64 n] 74) := HV.out.new hb1
      have hwr := hbel.size
      have HS1 : Hid (Src Tryd.prog 1 94 v1 (putText t).length ((putText t).map (Value.int .u8)) w1) := src_own8 Tryd.underlying94 ho1 (oneU8 _)
      have HO1 : Hid (w1.ownsRow w.heap.size 5 1 (.slice av B.length cv) B.length (B.map (Value.int .u8))) := hO1
      obtain ⟨a1, c1, rfl⟩ : ∃ a1 c1, v1 = .slice a1 (putText t).length c1 := by
        rcases ho1.2 with ⟨rfl, h0⟩ | ⟨g, cap, cur, rfl, _⟩
        · exact ⟨none, 0, by rw [h0]⟩
        · exact ⟨_, _, rfl⟩
      clear ho1 hb1 hO1 HO hc0 hc1 HV HBV hbel
      have HAP : Hid (∀ j, (Value.slice av B.length cv).ownBlock = some j → j ≠ wr.heap.size) := HAP0
      clear HAP0
      generalize putText t = PT at *
      go_wp2_with (at_builtin; refine wpList_append_own_src _ rfl (.tmp 12) (.tmp 15) 94 94 rfl w.heap.size 5 i0 (.int .u8 0) 1 1 Tryd.underlying94 hi hz0 hz1 hz2 rfl _ _ _ rfl HO1.out _ PT.length (PT.map (Value.int .u8)) rfl HS1.out (by unfold maxLen; omega) (by omega) hbel1.size ?_)
      intro v2 w2 ho2 hg2
      have hbel2 : Below w.heap.size w w2 := hbel1.grown hg2 hbel1.size (fun q hq => (HO1.out.lt q hq).1)
      have HO2 : Hid (w2.ownsRow w.heap.size 5 1 v2 (B ++ PT).length ((B ++ PT).map (Value.int .u8))) := by show World.ownsRow _ _ _ _ _ _ _; rw [List.length_append, List.map_append]; exact ho2
      obtain ⟨a2, c2, rfl⟩ : ∃ a2 c2, v2 = .slice a2 (B ++ PT).length c2 := by
        rcases HO2.out.2 with ⟨rfl, h0⟩ | ⟨g, cap, cur, rfl, _⟩
        · exact ⟨none, 0, by rw [h0]⟩
        · exact ⟨_, _, rfl⟩
      have hBP : (B ++ PT).length ≤ 41000000 := by rw [List.length_append]; omega
      have HV2 : Hid (Var w2 wr.heap.size #[.string t, .int .i64 n] 74) := HV1.out.only (Only.of_grown hg2) (fun h => HAP.out _ h rfl)
      clear ho2 hg2 HO1 HS1 hbel1 HV1 HAP
      generalize B ++ PT = B2 at *
      have hc1 : w2.cell? ⟨wr.heap.size, 1, none⟩ = some (.int .i64 n) := (HV2.out).cell 1
      go_wp2_with fail
      refine (implPutNum n _).mono ?_
      rintro e w3 ⟨v3, rfl, ho3, hb3⟩
      have hO3 := ownsRow_below HO2.out hb3 (Nat.le_refl _)
      have hbel3 := hbel2.trans (hb3.mono hbel2.size)
      have HS3 : Hid (Src Tryd.prog 1 94 v3 (putNum n).length ((putNum n).map (Value.int .u8)) w3) := src_own8 Tryd.underlying94 ho3 (oneU8 _)
      have HO3 : Hid (w3.ownsRow w.heap.size 5 1 (.slice a2 B2.length c2) B2.length (B2.map (Value.int .u8))) := hO3
      obtain ⟨a3, c3, rfl⟩ : ∃ a3 c3, v3 = .slice a3 (putNum n).length c3 := by
        rcases ho3.2 with ⟨rfl, h0⟩ | ⟨g, cap, cur, rfl, _⟩
        · exact ⟨none, 0, by rw [h0]⟩
        · exact ⟨_, _, rfl⟩
      clear ho3 hb3 hO3 HO2 hc1
      generalize putNum n = PN at *
      go_wp2_with (at_builtin; refine wpList_append_own_src _ rfl (.tmp 17) (.tmp 20) 94 94 rfl w.heap.size 5 i0 (.int .u8 0) 1 1 Tryd.underlying94 hi hz0 hz1 hz2 rfl _ _ _ rfl HO3.out _ PN.length (PN.map (Value.int .u8)) rfl HS3.out (by unfold maxLen; omega) (by omega) hbel3.size ?_)
      intro v4 w4 ho4 hg4
      have hbel4 : Below w.heap.size w w4 := hbel3.grown hg4 hbel3.size (fun q hq => (HO3.out.lt q hq).1)
      have HO4 : Hid (w4.ownsRow w.heap.size 5 1 v4 (enText (l.take (k + 1))).length ((enText (l.take (k + 1))).map (Value.int .u8))) := by show World.ownsRow _ _ _ _ _ _ _; rw [HTK.out, List.length_append, List.map_append]; exact ho4
      clear ho4 hg4 HO3 HS3 hbel3
      go_wp2
      go_roundw
      case rel => exact ⟨k + 1, _, rfl, by omega, by go_num, HO4, hbel4⟩
      case measure => simp [intOf]; omega
    · obtain rfl : k = l.length := by omega
      have hO := HO.out
      rw [List.take_length] at hO
      have hcv := conv_own8 (enText_u8 l) hO
      have HTS : Hid (enTextS l = baOf (enText l)) := rfl
      generalize enText l = X at *
      go_wp2
      go_ret
      exact ⟨by rw [HTS.out]; rfl, hbel⟩
end Go.Proofs.YthfgfhbinggpfaaDoor

/-
  Own text: whether entries are right, by the program.
-/
namespace Go.Proofs.YthfgfhbinggpfaaDoor
open Go.RowKit

def NamP (l : List EntD) (i : Nat) : Prop := ∀ k (hk : k < l.length), k < i → enName (l[k]).1 = true
theorem enP_iff (l : List EntD) : EnP l ↔ NamP l l.length ∧ OrdP l l.length ∧ NdsP l l.length ∧ (enText l).length ≤ 80 := by
  constructor
  · rintro ⟨h, h8⟩
    exact ⟨fun k hk hi => (h k hk hi).1.1, fun k hk hi h0 h1 => (h k hk hi).2.1 h0 h1, fun k hk hi => ⟨(h k hk hi).1.2, (h k hk hi).2.2⟩, h8⟩
  · rintro ⟨h1, h2, h3, h8⟩
    exact ⟨fun k hk hi => ⟨⟨h1 k hk hi, (h3 k hk hi).1⟩, fun h0 h => h2 k hk hi h0 h, (h3 k hk hi).2⟩, h8⟩

set_option maxRecDepth 20000 in
set_option maxHeartbeats 2000000 in
theorem implEntriesOk (a : Option Addr) (c : Nat) (l : List EntD) (w : World) (hl : SmE l) (hr : RdF encN 2 w a l) :
    Calls Tryd.prog 81 #[.slice a l.length c] w fun e w' => e = .returned (.bool (enOk l)) ∧ Below w.heap.size w w' := by
  have hll := szEn_len l
  have hl1 := hl.1
  have HCS : Hid (∀ k (hk : k < l.length), ∃ b off, a = some ⟨b, off, none⟩ ∧ b < w.heap.size ∧ ∀ j, j < 2 → w.cell? ⟨b, off + k * 2 + j, none⟩ = (encN l[k])[j]?) := fun k hk => hr.at k hk
  have HRD : Hid (∀ W, Below w.heap.size w W → RdF encN 2 W a l) := fun W h => hr.below h (Nat.le_refl _)
  have HBAD : Hid (∀ k (hk : k < l.length), enName (l[k]).1 = false → enOk l = false) := fun k hk h => enOk_no fun h2 => by have := ((enP_iff l).1 h2).1 k hk hk; rw [h] at this; cases this
  have HO : Hid (ordOk l = false → enOk l = false) := fun h => enOk_no fun h2 => by have := ordOk_yes ((enP_iff l).1 h2).2.1; rw [h] at this; cases this
  have HN : Hid (ndsOk l = false → enOk l = false) := fun h => enOk_no fun h2 => by have := ndsOk_yes ((enP_iff l).1 h2).2.2.1; rw [h] at this; cases this
  have HFIN : Hid (NamP l l.length → ordOk l = true → ndsOk l = true → enOk l = decide (((enTextS l).size : Int) ≤ 80)) := fun h1 h2 h3 => by
    have h2' : OrdP l l.length := by unfold ordOk at h2; exact @of_decide_eq_true _ (Classical.propDecidable _) h2
    have h3' : NdsP l l.length := by unfold ndsOk at h3; exact @of_decide_eq_true _ (Classical.propDecidable _) h3
    have e : (enTextS l).size = (enText l).length := by simp [enTextS, baOf, ByteArray.size]
    rw [e]
    by_cases h8 : (enText l).length ≤ 80
    · rw [enOk_yes ((enP_iff l).2 ⟨h1, h2', h3', h8⟩), decide_eq_true (by omega)]
    · rw [enOk_no fun hp => h8 hp.2, decide_eq_false (by omega)]
  have HTL : Hid ((enTextS l).size ≤ 30000000) := by show _ ≤ _; have h1 := enText_len l; simp [enTextS, baOf, ByteArray.size]; omega
  clear hr
  go_enter Tryd.func81, Tryd.ntmps81
  go_wp2
  go_loopw [7] (fun i wr => ∃ k : Nat, k ≤ l.length ∧ i = .int .i64 k ∧ Hid (NamP l k) ∧ Below w.heap.size w wr) (fun i _ => l.length - (intOf i).toNat)
  case atStart => exact ⟨0, Nat.zero_le _, rfl, (fun k _ h => by omega), Below.refl _ _⟩
  case round =>
    obtain ⟨k, hk, rfl, HP, hB⟩ := hrel
    by_cases hlt : k < l.length
    · obtain ⟨b, off, rfl, hblt, hcell⟩ := HCS.out k hlt
      have hc0 : wr.cell? ⟨b, off + k * 2, none⟩ = some (.string l[k].1) := (hB.cell hblt).trans (hcell 0 (by omega))
      have hc1 : wr.cell? ⟨b, off + k * 2 + 1, none⟩ = some (.int .i64 l[k].2) := (hB.cell hblt).trans (hcell 1 (by omega))
      have hB2 : Below w.heap.size w (wr.alloc (.cells #[.string l[k].1, .int .i64 l[k].2] 74)) := hB.alloc hB.size _
      have HNX : Hid (enName (l[k]).1 = true → NamP l (k + 1)) := fun h i hi hik => by
        by_cases e : i = k
        · subst e; exact h
        · exact HP.out i hi (by omega)
      have HB1 := HBAD.out k hlt
      have HE1 : Hid (bt (l[k]).1 = [126] → enName (l[k]).1 = true) := fun h => by unfold enName; rw [@decide_eq_true _ (Classical.propDecidable _) h]; rfl
      have HE2 : Hid (¬ bt (l[k]).1 = [126] → enName (l[k]).1 = nmOk (bt (l[k]).1)) := fun h => by unfold enName; rw [@decide_eq_false _ (Classical.propDecidable _) h]; rfl
      by_cases hh : bt (l[k]).1 = [126]
      · have ht := lit_same hh
        have HP2 : Hid (NamP l (k + 1)) := HNX.out (HE1.out hh)
        clear hh HNX HB1 HE1 HE2 hcell HP
        generalize (l[k]).1 = s at *
        generalize (l[k]).2 = n at *
        go_wp2
        go_roundw
        case rel => exact ⟨k + 1, by omega, by go_num, HP2, hB2⟩
        case measure => simp [intOf]; omega
      · have ht := lit_other hh
        have he := HE2.out hh
        obtain ⟨q, hq⟩ : ∃ q, enName (l[k]).1 = q := ⟨_, rfl⟩
        have hq2 : nmOk (bt (l[k]).1) = q := by rw [← he, hq]
        have HNM : Hid (∀ W, Calls Tryd.prog 90 #[.string (l[k]).1] W fun e w' => e = .returned (.bool q) ∧ Below W.heap.size W w') := fun W => by rw [← hq2]; exact implName _ W
        cases q with
        | true =>
          have HP2 : Hid (NamP l (k + 1)) := HNX.out hq
          clear hh HNX HB1 HE1 HE2 hcell HP hq hq2 he
          generalize (l[k]).1 = s at *
          generalize (l[k]).2 = n at *
          go_wp2_with fail
          refine (HNM.out _).mono ?_
          rintro e w3 ⟨rfl, hb3⟩
          have hB3 := hB2.trans (hb3.mono hB2.size)
          go_wp2
          go_roundw
          case rel => exact ⟨k + 1, by omega, by go_num, HP2, hB3⟩
          case measure => simp [intOf]; omega
        | false =>
          have HE : Hid (enOk l = false) := HB1 hq
          clear hh HNX HB1 HE1 HE2 hcell HP hq hq2 he
          generalize (l[k]).1 = s at *
          generalize (l[k]).2 = n at *
          go_wp2_with fail
          refine (HNM.out _).mono ?_
          rintro e w3 ⟨rfl, hb3⟩
          have hB3 := hB2.trans (hb3.mono hB2.size)
          go_wp2
          go_ret
          exact ⟨by rw [HE.out]; rfl, hB3⟩
    · obtain rfl : k = l.length := by omega
      have HI : Hid (∀ W, Below w.heap.size w W → Calls Tryd.prog 94 #[.slice a l.length c] W fun e w' => e = .returned (.bool (ordOk l)) ∧ Below W.heap.size W w') := fun W h => implInOrder a c l W (by omega) (HRD.out W h)
      have HJ : Hid (∀ W, Below w.heap.size w W → Calls Tryd.prog 95 #[.slice a l.length c] W fun e w' => e = .returned (.bool (ndsOk l)) ∧ Below W.heap.size W w') := fun W h => implNodesOk a c l W (by omega) (HRD.out W h)
      have HT : Hid (∀ W, Below w.heap.size w W → Calls Tryd.prog 96 #[.slice a l.length c] W fun e w' => e = .returned (.string (enTextS l)) ∧ Below W.heap.size W w') := fun W h => implDirText a c l W hl (HRD.out W h)
      have HF := HFIN.out HP.out
      have HO2 := HO.out
      have HN2 := HN.out
      have hT := HTL.out
      clear HCS HRD HBAD HO HN HFIN HTL HP
      cases hq : ordOk l with
      | false =>
        have HE : Hid (enOk l = false) := HO2 hq
        rw [hq] at HI
        clear hq HF HO2 HN2 HJ HT hT
        go_wp2_with fail
        refine (HI.out _ hB).mono ?_
        rintro e w3 ⟨rfl, hb3⟩
        have hB3 := hB.trans (hb3.mono hB.size)
        go_wp2
        go_ret
        exact ⟨by rw [HE.out]; rfl, hB3⟩
      | true =>
        cases hq2 : ndsOk l with
        | false =>
          have HE : Hid (enOk l = false) := HN2 hq2
          rw [hq] at HI
          rw [hq2] at HJ
          clear hq hq2 HF HO2 HN2 HT hT
          go_wp2_with fail
          refine (HI.out _ hB).mono ?_
          rintro e w3 ⟨rfl, hb3⟩
          have hB3 := hB.trans (hb3.mono hB.size)
          go_wp2_with fail
          refine (HJ.out _ hB3).mono ?_
          rintro e w4 ⟨rfl, hb4⟩
          have hB4 := hB3.trans (hb4.mono hB3.size)
          go_wp2
          go_ret
          exact ⟨by rw [HE.out]; rfl, hB4⟩
        | true =>
          have HE : Hid (enOk l = decide (((enTextS l).size : Int) ≤ 80)) := HF hq hq2
          rw [hq] at HI
          rw [hq2] at HJ
          clear hq hq2 HF HO2 HN2
          generalize enTextS l = T at *
          go_wp2_with fail
          refine (HI.out _ hB).mono ?_
          rintro e w3 ⟨rfl, hb3⟩
          have hB3 := hB.trans (hb3.mono hB.size)
          go_wp2_with fail
          refine (HJ.out _ hB3).mono ?_
          rintro e w4 ⟨rfl, hb4⟩
          have hB4 := hB3.trans (hb4.mono hB3.size)
          go_wp2_with fail
          refine (HT.out _ hB4).mono ?_
          rintro e w5 ⟨rfl, hb5⟩
          have hB5 := hB4.trans (hb5.mono hB4.size)
          go_wp2
          go_ret
          exact ⟨by rw [HE.out]; rfl, hB5⟩
end Go.Proofs.YthfgfhbinggpfaaDoor

/-
  Own text: a directory is read from its text, by the program.
-/
namespace Go.Proofs.YthfgfhbinggpfaaDoor
open Go.RowKit

theorem ownNilE (w : World) (lo hi : Nat) : OwnEn w lo hi (.slice none 0 0) [] := ⟨World.ownsRow_nil _ _ _ _, fun j hj => by cases hj⟩
theorem catchDir (u : TypeId) (pv : Value) (older : List PanicEntry) (w : World) :
    CallsD Tryd.prog 79 #[] (.panicking ({ v := .iface u pv, recovered := false } :: older)) w fun e u' w' =>
      e = .returned (.tuple #[]) ∧ u' = .panicking ({ v := .iface u pv, recovered := true } :: older) ∧ w' = w := by
  refine callsD_of_wpS Tryd.func79 rfl fun c₀ cs hu => ?_
  apply wpS_region
  simp [wpOpsS, go_sem, recoverD, hu, Tryd.ntmps79, bodyPostS, results, Tryd.results79]
theorem idleDir (w : World) :
    CallsD Tryd.prog 79 #[] .returning w fun e u' w' => e = .returned (.tuple #[]) ∧ u' = .returning ∧ w' = w := by
  refine callsD_of_wpS Tryd.func79 rfl fun c₀ cs hu => ?_
  apply wpS_region
  simp [wpOpsS, go_sem, recoverD, hu, Tryd.ntmps79]
  cases c₀
  simp_all [bodyPostS, results, Tryd.results79]

theorem numAnyE (x : Option Addr) (cap : Nat) (l : List Int) (p : Nat) (a : Addr) (w : World) (hx : Came w x cap l) (he : ErrAt a w) :
    Calls Tryd.prog 93 #[.slice x l.length cap, .int .i64 p] w fun e w' => ((∃ n next, Good l p n next ∧ e = .returned (.tuple #[.int .i64 (n : Nat), .int .i64 (next : Nat)])) ∨ ((∀ n next, ¬ Good l p n next) ∧ e = thePanic a)) ∧ Below w.heap.size w w' := by
  by_cases hp : p < l.length
  · obtain ⟨b, off, rfl, hb, hc⟩ : ∃ b off, x = some ⟨b, off, none⟩ ∧ b < w.heap.size ∧ ∀ i, i < l.length → w.cell? ⟨b, off + i, none⟩ = some (.int .u8 (l.getD i 0)) := by
      rcases hx.hrd with h | h
      · subst h; simp at hp
      · exact h
    exact atIn b off cap l p a w hx.hsmall hx.hu8 hx.hcap hx.hmax hp hb hc he.lt he.cell
  · refine (atOut x cap l.length (p : Int) a w (.inr (by omega)) he.cell).mono ?_
    rintro e w' ⟨rfl, rfl⟩
    refine ⟨.inr ⟨?_, rfl⟩, Below.refl _ _⟩
    rintro n next ⟨p', k, hp', ⟨_, h2, _, _⟩, _⟩
    omega
theorem textAnyE (x : Option Addr) (cap : Nat) (l : List Int) (p : Nat) (a : Addr) (w : World) (hx : Came w x cap l) (he : ErrAt a w) (hp : p < l.length) :
    Calls Tryd.prog 92 #[.slice x l.length cap, .int .i64 p] w fun e w' => ((∃ s fin, GoodT l p s fin ∧ e = .returned (.tuple #[.string s, .int .i64 (fin : Nat)])) ∨ ((∀ s fin, ¬ GoodT l p s fin) ∧ e = thePanic a)) ∧ Below w.heap.size w w' := by
  obtain ⟨b, off, rfl, hb, hc⟩ : ∃ b off, x = some ⟨b, off, none⟩ ∧ b < w.heap.size ∧ ∀ i, i < l.length → w.cell? ⟨b, off + i, none⟩ = some (.int .u8 (l.getD i 0)) := by
    rcases hx.hrd with h | h
    · subst h; simp at hp
    · exact h
  exact textIn b off cap l p a w hx.hsmall hx.hu8 hx.hcap hx.hmax hp hb hc he.lt he.cell

set_option maxRecDepth 20000 in
set_option maxHeartbeats 4000000 in
theorem implEntriesIn (x : Option Addr) (cap : Nat) (b : List Int) (a : Addr) (w : World) (hx : Came w x cap b) (he : ErrAt a w) (hl : b.length ≤ 1048576) :
    Calls Tryd.prog 80 #[.slice x b.length cap] w fun e w' => ((∃ v es, e = .returned v ∧ ReadsE b 0 es ∧ SmE es ∧ w'.ownsRow w.heap.size 74 2 v es.length (es.flatMap encN)) ∨ ((∀ es, ¬ ReadsE b 0 es) ∧ e = thePanic a)) ∧ Below w.heap.size w w' := by
  obtain ⟨i0, hi, hz0, hz1, hz2⟩ := info_parts Tryd.infoEnt
  have HAC0 : Hid (Acc b [] 0) := Acc.start _
  have HO0 : Hid (w.ownsRow w.heap.size 74 2 (.slice none 0 0) ([] : List EntD).length (([] : List EntD).flatMap encN)) := World.ownsRow_nil _ _ _ _
  have HGT : Hid (∀ W' (p : Nat), Below w.heap.size w W' → p < b.length → Calls Tryd.prog 92 #[.slice x b.length cap, .int .i64 (p : Int)] W' fun e w' => ((∃ s fin, GoodT b (p : Int) s fin ∧ e = .returned (.tuple #[.string s, .int .i64 (fin : Nat)])) ∨ ((∀ s fin, ¬ GoodT b (p : Int) s fin) ∧ e = thePanic a)) ∧ Below W'.heap.size W' w') :=
    fun W' p h hp => textAnyE x cap b p a W' ⟨hx.hsmall, hx.hu8, hx.hcap, hx.hmax, hx.hrd.below h (Nat.le_refl _)⟩ (he.below h) hp
  have HGN : Hid (∀ W' (p : Nat), Below w.heap.size w W' → Calls Tryd.prog 93 #[.slice x b.length cap, .int .i64 (p : Int)] W' fun e w' => ((∃ n next, Good b (p : Int) n next ∧ e = .returned (.tuple #[.int .i64 (n : Nat), .int .i64 (next : Nat)])) ∨ ((∀ n next, ¬ Good b (p : Int) n next) ∧ e = thePanic a)) ∧ Below W'.heap.size W' w') :=
    fun W' p h => numAnyE x cap b p a W' ⟨hx.hsmall, hx.hu8, hx.hcap, hx.hmax, hx.hrd.below h (Nat.le_refl _)⟩ (he.below h)
  clear hx he
  go_enter Tryd.func80, Tryd.ntmps80
  go_wp2
  go_loopw [3, 4] (fun v i wr => ∃ (p : Nat) (v' : Value) (acc : List EntD), v' = v ∧ i = .int .i64 p ∧ Hid (Acc b acc p) ∧ Hid (wr.ownsRow w.heap.size 74 2 v' acc.length (acc.flatMap encN)) ∧ Below w.heap.size w wr ∧ p ≤ b.length) (fun _ i _ => b.length - (intOf i).toNat)
  case atStart => exact ⟨0, _, [], rfl, rfl, HAC0, HO0, Below.refl _ _, Nat.zero_le _⟩
  case round =>
    clear HAC0 HO0
    obtain ⟨p, v', acc, rfl, rfl, HA, HO, hB, hpb⟩ := hrel
    by_cases hlt : p < b.length
    · have hBa : Below w.heap.size w (wr.alloc (.cells #[.string ⟨#[]⟩, .int .i64 0] 74)) := hB.alloc hB.size _
      have HVa : Hid (Var (wr.alloc (.cells #[.string ⟨#[]⟩, .int .i64 0] 74)) wr.heap.size #[.string ⟨#[]⟩, .int .i64 0] 74) := Var.made _ _ _
      go_wp2_with fail
      refine (HGT.out _ p hBa hlt).mono ?_
      rintro e w1 ⟨⟨t, q, hT, rfl⟩ | ⟨hno, rfl⟩, hb1⟩
      rotate_left
      · have HP : Hid (∀ es, ¬ ReadsE b 0 es) := HA.out.noText hlt hno
        have hB2 := hBa.trans (hb1.mono hBa.size)
        clear hno HA HO HVa
        unfold thePanic
        go_wp2
        exact ⟨rfl, .inr ⟨HP.out, rfl⟩, hB2⟩
      · have hTn := goodT_next hT
        have HT : Hid (GoodT b p t q) := hT
        have hB1 := hBa.trans (hb1.mono hBa.size)
        have HV1 : Hid (Var w1 wr.heap.size #[.string ⟨#[]⟩, .int .i64 0] 74) := HVa.out.new hb1
        have HO1 : Hid (w1.ownsRow w.heap.size 74 2 v' acc.length (acc.flatMap encN)) := ownsRow_below (ownsRow_below HO.out (below1 wr _) (Nat.le_refl _)) hb1 (Nat.le_refl _)
        have HAP : Hid (∀ j, v'.ownBlock = some j → j ≠ wr.heap.size) := fun j hj => by have := (HO.out.lt j hj).2; omega
        have hwr := hB.size
        have f0 := HV1.out.frozen 0
        have c0 := HV1.out.cell 0
        simp at c0
        have HV2 : Hid (Var (w1.setCell ⟨wr.heap.size, 0, none⟩ (.string t)) wr.heap.size #[.string t, .int .i64 0] 74) := by
          have := HV1.out.set 0 (.string t)
          show Var _ _ _ _
          simpa using this
        have hB2 : Below w.heap.size w (w1.setCell ⟨wr.heap.size, 0, none⟩ (.string t)) := hB1.setCell (by exact hwr) _
        have HO2 : Hid ((w1.setCell ⟨wr.heap.size, 0, none⟩ (.string t)).ownsRow w.heap.size 74 2 v' acc.length (acc.flatMap encN)) := own_only HO1.out (Only.setCell (S := fun j => j = wr.heap.size) (Only.refl _ _) (p := ⟨wr.heap.size, 0, none⟩) rfl _) (fun k hk hh => HAP.out k hk hh)
        clear hT HO HVa hBa hb1 hB1 HV1 HO1
        go_wp2_with fail
        clear f0 c0
        generalize w1.setCell ⟨wr.heap.size, 0, none⟩ (.string t) = w2 at *
        refine (HGN.out _ q hB2).mono ?_
        rintro e w3 ⟨⟨n, r, hN, rfl⟩ | ⟨hno, rfl⟩, hb3⟩
        rotate_left
        · have HP : Hid (∀ es, ¬ ReadsE b 0 es) := HA.out.noNum hlt HT.out hno
          have hB3 := hB2.trans (hb3.mono hB2.size)
          clear hno HA HO2 HV2 HT
          unfold thePanic
          go_wp2
          exact ⟨rfl, .inr ⟨HP.out, rfl⟩, hB3⟩
        · have hNn := good_nextE hN
          have HA2 : Hid (Acc b (acc ++ [(t, (n : Int))]) r) := HA.out.step hlt HT.out hN
          have hal := HA.out.siz
          have hal2 := szEn_len acc
          have hB3 := hB2.trans (hb3.mono hB2.size)
          have HV3 : Hid (Var w3 wr.heap.size #[.string t, .int .i64 0] 74) := HV2.out.new hb3
          have HO3 : Hid (w3.ownsRow w.heap.size 74 2 v' acc.length (acc.flatMap encN)) := ownsRow_below HO2.out hb3 (Nat.le_refl _)
          have f1 := HV3.out.frozen 1
          have c1 := HV3.out.cell 1
          simp at c1
          have HV4 : Hid (Var (w3.setCell ⟨wr.heap.size, 1, none⟩ (.int .i64 (n : Int))) wr.heap.size #[.string t, .int .i64 (n : Int)] 74) := by
            have := HV3.out.set 1 (.int .i64 (n : Int))
            show Var _ _ _ _
            simpa using this
          have hB4 : Below w.heap.size w (w3.setCell ⟨wr.heap.size, 1, none⟩ (.int .i64 (n : Int))) := hB3.setCell (by exact hwr) _
          have HO4 : Hid ((w3.setCell ⟨wr.heap.size, 1, none⟩ (.int .i64 (n : Int))).ownsRow w.heap.size 74 2 v' acc.length (acc.flatMap encN)) := own_only HO3.out (Only.setCell (S := fun j => j = wr.heap.size) (Only.refl _ _) (p := ⟨wr.heap.size, 1, none⟩) rfl _) (fun k hk hh => HAP.out k hk hh)
          have hnl : (acc ++ [(t, (n : Int))]).length = acc.length + 1 := by simp
          have hfl : (acc ++ [(t, (n : Int))]).flatMap encN = acc.flatMap encN ++ [.string t, .int .i64 (n : Int)] := by rw [List.flatMap_append]; simp [encN]
          have HM : Hid ((acc ++ [(t, (n : Int))]).length = acc.length + 1 ∧ (acc ++ [(t, (n : Int))]).flatMap encN = acc.flatMap encN ++ [.string t, .int .i64 (n : Int)]) := ⟨hnl, hfl⟩
          obtain ⟨av, cv, rfl⟩ : ∃ av cv, v' = .slice av acc.length cv := by
            rcases HO3.out.2 with ⟨rfl, h0⟩ | ⟨g, cap, cur, rfl, _⟩
            · exact ⟨none, 0, by rw [h0]⟩
            · exact ⟨_, _, rfl⟩
          generalize acc ++ [(t, (n : Int))] = acc2 at *
          generalize acc.length = al at *
          generalize acc.flatMap encN = X at *
          clear hN HT HO2 HO3 hB2 hB3 hb3 HV2 HV3 HA hnl hfl hB HAP
          go_upto_region 7 with fail
          clear f1 c1
          generalize w3.setCell ⟨wr.heap.size, 1, none⟩ (.int .i64 (n : Int)) = w4 at *
          have d0 := HV4.out.cell 0
          have d1 := HV4.out.cell 1
          simp at d0 d1
          have HO5 : Hid ((w4.alloc (.cells #[.string t, .int .i64 (n : Int)] 74)).ownsRow w.heap.size 74 2 (.slice av al cv) al X) := ownsRow_below HO4.out (below1 _ _) (Nat.le_refl _)
          have HS5 : Hid (Src Tryd.prog 2 61 (.slice (some ⟨w4.heap.size, 0, none⟩) 1 1) 1 [.string t, .int .i64 (n : Int)] (w4.alloc (.cells #[.string t, .int .i64 (n : Int)] 74))) := srcEnOne w4 t n
          have hB5 : Below w.heap.size w (w4.alloc (.cells #[.string t, .int .i64 (n : Int)] 74)) := hB4.alloc hB4.size _
          clear HO4 HV4 hB4
          go_wp2_with (at_builtin; refine wpList_append_own_src _ rfl (.tmp 24) (.tmp 26) 61 61 rfl w.heap.size 74 i0 _ 2 24 Tryd.underlying61 hi hz0 hz1 hz2 rfl _ _ _ rfl HO5.out _ 1 [.string t, .int .i64 (n : Int)] rfl HS5.out (by unfold maxLen; omega) (by omega) hB5.size ?_)
          intro v6 w6 ho6 hg6
          have hB6 : Below w.heap.size w w6 := hB5.grown hg6 hB5.size (fun q hq => (HO5.out.lt q hq).1)
          have HO6 : Hid (w6.ownsRow w.heap.size 74 2 v6 acc2.length (acc2.flatMap encN)) := by
            show World.ownsRow _ _ _ _ _ _ _
            rw [HM.out.1, HM.out.2]
            exact ho6
          clear ho6 hg6 HO5 HS5 hB5 d0 d1
          go_wp2
          go_roundw
          case rel => exact ⟨r, _, acc2, rfl, by go_num, HA2, HO6, hB6, by omega⟩
          case measure => simp [intOf]; omega
    · have HRE : Hid (ReadsE b 0 acc) := HA.out.done hlt
      have HSM : Hid (SmE acc) := HA.out.sm hl
      clear HA
      go_wp2
      go_ret
      exact ⟨.inl ⟨_, acc, rfl, HRE.out, HSM.out, HO.out⟩, hB⟩

set_option maxRecDepth 20000 in
set_option maxHeartbeats 4000000 in
theorem implDirOf (s : ByteArray) (a : Addr) (w : World) (hs : s.size ≤ 1048576) (he : ErrAt a w) :
    Calls Tryd.prog 60 #[.string s] w fun e w' => ∃ v, e = .returned (.tuple #[v, .bool (dirOk s)]) ∧ OwnEn w' w.heap.size w'.heap.size v (dirL s) ∧ Below w.heap.size w w' := by
  obtain ⟨cap, W, hcv, hrd, hbW, hlW, hc1, hc2⟩ := bytes_rowE s w hs
  have hbl := bytesOf_len s
  have HNO : Hid ((∀ es, ¬ ReadsE (bytesOf s) 0 es) → dirL s = [] ∧ dirOk s = false) := dir_no
  have HYE : Hid (∀ es, ReadsE (bytesOf s) 0 es → enOk es = true → dirL s = es ∧ dirOk s = true) := fun _ h1 h2 => dir_yes h1 h2
  have HBA : Hid (∀ es, ReadsE (bytesOf s) 0 es → enOk es = false → dirL s = [] ∧ dirOk s = false) := fun _ h1 h2 => dir_bad h1 h2
  have HEI : Hid (Calls Tryd.prog 80 #[.slice (some ⟨w.heap.size, 0, none⟩) (bytesOf s).length cap] W fun e w' => ((∃ v es, e = .returned v ∧ ReadsE (bytesOf s) 0 es ∧ SmE es ∧ w'.ownsRow W.heap.size 74 2 v es.length (es.flatMap encN)) ∨ ((∀ es, ¬ ReadsE (bytesOf s) 0 es) ∧ e = thePanic a)) ∧ Below W.heap.size W w') := implEntriesIn _ cap _ a W ⟨by omega, bytesOf_u8 s, hc1, hc2, hrd⟩ (he.below hbW) (by omega)
  clear hbl hc1 hc2 hrd he
  generalize bytesOf s = b at *
  go_enter_defers Tryd.func60, Tryd.ntmps60
  go_wp2_with fail
  refine HEI.out.mono ?_
  clear HEI hcv
  rintro e w1 ⟨⟨v, es, rfl, hre, hsm, ho⟩ | ⟨hno, rfl⟩, hb1⟩
  rotate_left
  · have HE : Hid (dirL s = [] ∧ dirOk s = false) := HNO.out hno
    have hB : Below w.heap.size w w1 := hbW.trans (hb1.mono hbW.size)
    clear hno HNO HYE HBA hb1
    unfold thePanic
    go_wp2
    refine leaves_cons (f := 79) (args := #[]) (by simp) (by simp [go_sem]) ?_
    refine (catchDir _ _ [] _).mono ?_
    rintro e u' w'' ⟨rfl, rfl, rfl⟩
    simp [Leaves, settle, results, Tryd.results60, go_sem]
    rw [HE.out.1, HE.out.2]
    exact ⟨_, ⟨rfl, rfl⟩, ownNilE _ _ _, hB⟩
  · have HO : Hid (w1.ownsRow w.heap.size 74 2 v es.length (es.flatMap encN)) := ownsRow_base ho hbW.size
    have hB : Below w.heap.size w w1 := hbW.trans (hb1.mono hbW.size)
    have HEO : Hid (Calls Tryd.prog 81 #[v] w1 fun e w' => e = .returned (.bool (enOk es)) ∧ Below w1.heap.size w1 w') := by
      obtain ⟨a2, c2, rfl, _, hr2⟩ := own_rdF encN_len ho rfl
      exact implEntriesOk a2 c2 es w1 hsm hr2
    have hY := HYE.out es hre
    have hN := HBA.out es hre
    clear ho hsm hre HNO HYE HBA hb1
    cases hq : enOk es with
    | true =>
      have HE : Hid (dirL s = es ∧ dirOk s = true) := hY hq
      rw [hq] at HEO
      clear hY hN hq
      go_wp2_with fail
      refine HEO.out.mono ?_
      rintro e w2 ⟨rfl, hb2⟩
      have ho2 := ownsRow_below HO.out hb2 (Nat.le_refl _)
      have hB2 := hB.trans (hb2.mono hB.size)
      clear HO hB hb2
      go_wp2
      refine leaves_cons (f := 79) (args := #[]) (by simp) (by simp [go_sem]) ?_
      refine (idleDir _).mono ?_
      rintro e u' w'' ⟨rfl, rfl, hw⟩
      subst w''
      simp [Leaves, settle, results, Tryd.results60, go_sem]
      rw [HE.out.1, HE.out.2]
      exact ⟨_, ⟨rfl, rfl⟩, OwnEn.of ho2, hB2⟩
    | false =>
      have HE : Hid (dirL s = [] ∧ dirOk s = false) := hN hq
      rw [hq] at HEO
      clear hY hN hq
      go_wp2_with fail
      refine HEO.out.mono ?_
      rintro e w2 ⟨rfl, hb2⟩
      have hB2 := hB.trans (hb2.mono hB.size)
      clear HO hB hb2
      go_wp2
      refine leaves_cons (f := 79) (args := #[]) (by simp) (by simp [go_sem]) ?_
      refine (idleDir _).mono ?_
      rintro e u' w'' ⟨rfl, rfl, hw⟩
      subst w''
      simp [Leaves, settle, results, Tryd.results60, go_sem]
      rw [HE.out.1, HE.out.2]
      exact ⟨_, ⟨rfl, rfl⟩, ownNilE _ _ _, hB2⟩
end Go.Proofs.YthfgfhbinggpfaaDoor

/-
  Own text: what a directory of a branch holds, by the program.
-/
namespace Go.Proofs.YthfgfhbinggpfaaDoor
open Go.RowKit

set_option maxRecDepth 20000 in
set_option maxHeartbeats 2000000 in
theorem implEntries (P : Nat) (aE : Addr) (a b : Option Addr) (ca cb : Nat) (F : FsD) (k : Nat) (w : World) (hp : ShapeP F) (hk : k < F.ns.length) (he : ErrAt aE w) (hP : P < w.heap.size) (hp0 : w.cell? ⟨P, 0, none⟩ = some (.slice a F.ns.length ca)) (hp1 : w.cell? ⟨P, 1, none⟩ = some (.slice b F.ds.length cb)) (r1 : RdNs w a F.ns) (r2 : RdS w b F.ds) :
    Calls Tryd.prog 36 #[.pointer (some ⟨P, 0, none⟩), .int .i64 (k : Nat)] w fun e w' => ∃ u, e = .returned (.tuple #[u, .bool (entO F k)]) ∧ OwnEn w' w.heap.size w'.heap.size u (dirE F k) ∧ Below w.heap.size w w' := by
  have hkn : F.ns.length ≤ 10 := hp.1.2.1
  have HL : Hid (UsP F (k : Int) → Calls Tryd.prog 38 #[.pointer (some ⟨P, 0, none⟩), .int .i64 (k : Nat)] w fun e w' => e = .returned (.string (catD F.ds (ndAt F (k : Int)).b)) ∧ Below w.heap.size w w') := fun hu => implHeld P a b ca cb F k w hu hP hp0 hp1 r1 r2
  obtain ⟨g, off, u, rfl, hblt, _, c0, _, _, _, _⟩ := r1.at k hk
  have hkI : (k : Int) < (F.ns.length : Int) := by omega
  have hat := ndAt_nat hk
  by_cases h2 : (F.ns[k]).k = 2
  · have hu : UsP F (k : Int) := ⟨hp, by omega, by simpa using hk, by rw [hat, h2]; decide⟩
    have hsz : (tx9 F k).size ≤ 1048576 := by
      obtain ⟨_, h5, _, hbx, hds⟩ := hu.facts
      have h1 := catD_size (ds := F.ds) (b := (ndAt F (k : Int)).b) (m := 16) (fun x hx => by
        rw [hat] at hx
        have hx2 := hbx x hx
        rw [dsAt_get hx2.2]; exact hds _ (List.getElem_mem _))
      rw [hat] at h1
      unfold tx9
      rw [hat]
      omega
    have HO : Hid (entO F k = dirOk (tx9 F k)) := by show _ = _; unfold entO dirO; rw [hat, h2]; rfl
    have HE : Hid (dirE F k = dirL (tx9 F k)) := by show _ = _; unfold dirE; rw [hat, if_pos h2]
    have HL2 : Hid (Calls Tryd.prog 38 #[.pointer (some ⟨P, 0, none⟩), .int .i64 (k : Nat)] w fun e w' => e = .returned (.string (tx9 F k)) ∧ Below w.heap.size w w') := HL.out hu
    have HER : Hid (ErrAt aE w) := he
    rw [h2] at c0
    clear HL hat h2 hu hp r1 r2 hp1 he
    go_enter Tryd.func36, Tryd.ntmps36
    go_wp2_with fail
    refine HL2.out.mono ?_
    rintro e w1 ⟨rfl, hb1⟩
    have HE1 : Hid (ErrAt aE w1) := HER.out.below hb1
    clear HL2 HER c0 hp0
    go_wp2_with fail
    refine (implDirOf (tx9 F k) aE w1 hsz HE1.out).mono ?_
    rintro e w2 ⟨u2, rfl, ho2, hb2⟩
    have hB2 := hb1.trans (hb2.mono hb1.size)
    go_wp2
    go_returns
    exact ⟨u2, by rw [HO.out]; rfl, by rw [HE.out]; exact ⟨ownsRow_base ho2.1 hb1.size, ho2.2⟩, hB2⟩
  · have HO : Hid (entO F k = true) := by show _ = _; unfold entO; rw [hat, if_neg h2]
    have HE : Hid (dirE F k = []) := by show _ = _; unfold dirE; rw [hat, if_neg h2]
    clear HL hat hp r1 r2 hp1 he
    generalize (F.ns[k]).k = kd at *
    go_enter Tryd.func36, Tryd.ntmps36
    go_wp2
    go_returns
    exact ⟨_, by rw [HO.out]; rfl, by rw [HE.out]; exact ownNilE _ _ _, Below.refl _ _⟩
end Go.Proofs.YthfgfhbinggpfaaDoor
