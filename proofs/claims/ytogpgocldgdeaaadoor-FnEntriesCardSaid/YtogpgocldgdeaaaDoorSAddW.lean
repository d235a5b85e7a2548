/-
  Own text: an entry is added, by the other program.
-/
import Derived.Test.YtogpgocldgdeaaaDoorSAddB
namespace Go.Proofs.YtogpgocldgdeaaaDoor
open Go.RowKit

set_option maxRecDepth 20000 in
set_option maxHeartbeats 4000000 in
theorem specDirAdd (a : Option Addr) (c : Nat) (l : List EntD) (s : ByteArray) (n : Int) (w : World) (hl : szEn l ≤ 1048576) (hs : s.size ≤ 1048576) (hc : l.length ≤ c) (hr : RdF encN 2 w a l) :
    Calls Tryd.prog 8 #[.slice a l.length c, .string s, .int .i64 n] w fun e w' => ∃ v, e = .returned (.tuple #[v, .bool (addOk l s n)]) ∧ OwnEn w' w.heap.size w'.heap.size v (addD l s n) ∧ Below w.heap.size w w' := by
  obtain ⟨i0, hi, hz0, hz1, hz2⟩ := info_parts Tryd.infoEnt
  have hll := szEn_len l
  have hal := enAt_le l s
  have HCS : Hid (∀ k (hk : k < l.length), ∃ b off, a = some ⟨b, off, none⟩ ∧ b < w.heap.size ∧ ∀ j, j < 2 → w.cell? ⟨b, off + k * 2 + j, none⟩ = (encN l[k])[j]?) := fun k hk => hr.at k hk
  have HRD : Hid (∀ W, Below w.heap.size w W → RdF encN 2 W a l) := fun W h => hr.below h (Nat.le_refl _)
  have HAT : Hid (∀ q, q ≤ l.length → (∀ j (hj : j < l.length), j < q → ltB s (l[j]).1 = false) → (∀ (h : q < l.length), ltB s (l[q]).1 = true) → enAt l s = q) := fun q h1 h2 h3 => enAt_at h1 h2 h3
  clear hr
  go_enter Tryd.func8, Tryd.ntmps8
  go_wp2
  go_loop [8, 9] (fun at' i => ∃ p q : Nat, p ≤ q ∧ q ≤ l.length ∧ at' = .int .i64 q ∧ i = .int .i64 ((p : Int) - 1) ∧ Hid (∀ j (hj : j < l.length), p ≤ j → j < q → ltB s (l[j]).1 = false) ∧ Hid (∀ (h : q < l.length), ltB s (l[q]).1 = true)) (fun _ i => (intOf i + 1).toNat)
  case atStart => exact ⟨l.length, l.length, Nat.le_refl _, Nat.le_refl _, rfl, by go_num, fun j _ h1 h2 => by omega, fun h => by omega⟩
  case round =>
    obtain ⟨p, q, hpq, hq, rfl, rfl, HN, HY⟩ := hrel
    by_cases hp : 0 < p
    · obtain ⟨m, rfl⟩ : ∃ m, p = m + 1 := ⟨p - 1, by omega⟩
      have hm : m < l.length := by omega
      obtain ⟨b, off, rfl, hblt, hcell⟩ := HCS.out m hm
      have hc0 : w.cell? ⟨b, off + m * 2, none⟩ = some (.string l[m].1) := hcell 0 (by omega)
      have hv : (((m + 1 : Nat) : Int) - 1) = (m : Int) := by omega
      rw [hv]
      by_cases hb : ltB s (l[m]).1 = true
      · have HN2 : Hid (∀ j (hj : j < l.length), m ≤ j → j < m → ltB s (l[j]).1 = false) := fun j _ h1 h2 => by omega
        have HY2 : Hid (∀ (h : m < l.length), ltB s (l[m]).1 = true) := fun _ => hb
        have hbl : Op.bytesLess s.toList (l[m]).1.toList = true := hb
        clear hcell hb HN HY hv
        generalize (l[m]).1 = t at *
        go_wp2
        go_round
        case rel => exact ⟨m, m, Nat.le_refl _, by omega, rfl, by go_num, HN2, HY2⟩
        case measure => simp [intOf]
      · have HN2 : Hid (∀ j (hj : j < l.length), m ≤ j → j < q → ltB s (l[j]).1 = false) := fun j hj h1 h2 => by
          by_cases e : j = m
          · subst e; simpa using hb
          · exact HN.out j hj (by omega) h2
        have hbl : Op.bytesLess s.toList (l[m]).1.toList = false := by simpa [ltB] using hb
        clear hcell hb HN hv
        generalize (l[m]).1 = t at *
        go_wp2
        go_round
        case rel => exact ⟨m, q, by omega, hq, rfl, by go_num, HN2, HY⟩
        case measure => simp [intOf]
    · obtain rfl : p = 0 := by omega
      have hk : enAt l s = q := HAT.out q hq (fun j hj h => HN.out j hj (by omega) h) HY.out
      have hadd : l.take q ++ (s, n) :: l.drop q = enAdded l s n := by unfold enAdded; rw [hk]
      have hA := cutHi a c l.length q (by omega)
      obtain ⟨a', c', hL, ha'⟩ := cutLo a c l.length q hq hc
      have HRD2 := HRD.out
      have hq2 : q ≤ c := by omega
      have htl : (l.take q).length = q := by rw [List.length_take]; omega
      have hdl : (l.drop q).length = l.length - q := List.length_drop
      have HC1 : Hid (∀ W, Below w.heap.size w W → Calls Tryd.prog 25 #[.slice a q c] W fun e w' => ∃ v, e = .returned v ∧ w'.ownsRow w.heap.size 32 2 v q ((l.take q).flatMap encN) ∧ Below W.heap.size W w') := fun W h => by
        have := copyEn a c (l.take q) W (by omega) (rdF_take (HRD2 W h) q)
        rw [htl] at this
        refine this.mono ?_
        rintro e w' ⟨v, rfl, h1, h2⟩
        exact ⟨v, rfl, ownsRow_base h1 h.size, h2⟩
      have HSB : Hid (∀ W, Below w.heap.size w W → Src Tryd.prog 2 24 (.slice a' (l.length - q) c') (l.length - q) ((l.drop q).flatMap encN) W) := fun W h => by
        have := srcEn c' (rdF_drop (HRD2 W h) q ha')
        rw [hdl] at this
        exact this
      have HE1 : Hid (∀ W, Below w.heap.size w W → Calls Tryd.prog 26 #[.slice a l.length c] W fun e w' => e = .returned (.bool (enOk l)) ∧ Below W.heap.size W w') := fun W h => specEntriesOk a c l W (smE_of hl) (HRD2 W h)
      have HC2 : Hid (∀ W, Below w.heap.size w W → Calls Tryd.prog 25 #[.slice a l.length c] W fun e w' => ∃ v, e = .returned v ∧ w'.ownsRow w.heap.size 32 2 v l.length (l.flatMap encN) ∧ Below W.heap.size W w') := fun W h => by
        refine (copyEn a c l W (by omega) (HRD2 W h)).mono ?_
        rintro e w' ⟨v, rfl, h1, h2⟩
        exact ⟨v, rfl, ownsRow_base h1 h.size, h2⟩
      have hal2 : (enAdded l s n).length = l.length + 1 := by rw [← hadd]; simp; omega
      have HE2 : Hid (∀ W v, W.ownsRow w.heap.size 32 2 v (l.length + 1) ((enAdded l s n).flatMap encN) → Calls Tryd.prog 26 #[v] W fun e w' => e = .returned (.bool (enOk (enAdded l s n))) ∧ Below W.heap.size W w') := fun W v h => by
        obtain ⟨a2, c2, rfl, _, hr2⟩ := own_rdF encN_len h hal2
        have := specEntriesOk a2 c2 (enAdded l s n) W (enAdded_sm hl hs) hr2
        rw [hal2] at this
        exact this
      have HAN : Hid (∀ W v, W.ownsRow w.heap.size 32 2 v (l.length + 1) ((enAdded l s n).flatMap encN) → OwnEn W w.heap.size W.heap.size v (enAdded l s n)) := fun W v h => OwnEn.of (by rw [hal2]; exact h)
      have HYE : Hid (enOk l = true → enOk (enAdded l s n) = true → addOk l s n = true ∧ addD l s n = enAdded l s n) := fun h1 h2 => by
        have h3 : addOk l s n = true := by unfold addOk; rw [h1, h2]; rfl
        exact ⟨h3, by unfold addD; rw [if_pos h3]⟩
      have HNE : Hid (enOk l = false ∨ enOk (enAdded l s n) = false → addOk l s n = false ∧ addD l s n = l) := fun h => by
        have h3 : addOk l s n = false := by unfold addOk; rcases h with h | h <;> rw [h] <;> simp
        exact ⟨h3, by unfold addD; rw [h3]; rfl⟩
      have hflat : (l.take q).flatMap encN ++ [.string s, .int .i64 n] ++ (l.drop q).flatMap encN = (enAdded l s n).flatMap encN := by
        rw [← hadd, List.flatMap_append, List.flatMap_cons]
        simp [encN]
      obtain ⟨A, hAA⟩ : ∃ A, enAdded l s n = A := ⟨_, rfl⟩
      rw [hAA] at hflat HE2 HAN HYE HNE
      obtain ⟨X1, hX1⟩ : ∃ X, (l.take q).flatMap encN = X := ⟨_, rfl⟩
      obtain ⟨X2, hX2⟩ : ∃ X, (l.drop q).flatMap encN = X := ⟨_, rfl⟩
      rw [hX1] at hflat HC1
      rw [hX2] at hflat HSB
      have HFL : Hid (X1 ++ [.string s, .int .i64 n] ++ X2 = A.flatMap encN) := hflat
      have hb0 : Below w.heap.size w w := Below.refl _ _
      clear HN HY hk hadd htl hdl HAT HCS HRD HRD2 ha' hal2 hflat hX1 hX2 hAA hal
      go_wp2_with fail
      refine (HC1.out _ hb0).mono ?_
      rintro e w1 ⟨v1, rfl, ho1, hb1⟩
      have HO1 : Hid ((w1.alloc (.cells #[.string s, .int .i64 n] 32)).ownsRow w.heap.size 32 2 v1 q X1) := ownsRow_below ho1 (below1 _ _) (Nat.le_refl _)
      have hb1a : Below w.heap.size w (w1.alloc (.cells #[.string s, .int .i64 n] 32)) := hb1.alloc hb1.size _
      have HS1 : Hid (Src Tryd.prog 2 24 (.slice (some ⟨w1.heap.size, 0, none⟩) 1 1) 1 [.string s, .int .i64 n] (w1.alloc (.cells #[.string s, .int .i64 n] 32))) := srcEnOne w1 s n
      clear ho1 hb1
      go_wp2_with (at_builtin; refine wpList_append_own_src _ rfl (.tmp 31) (.tmp 35) 24 24 rfl w.heap.size 32 i0 _ 2 24 Tryd.underlying24 hi hz0 hz1 hz2 rfl _ _ _ rfl HO1.out _ 1 [.string s, .int .i64 n] rfl HS1.out (by unfold maxLen; omega) (by omega) hb1a.size ?_)
      intro v2 w2 ho2 hg2
      have hb2 : Below w.heap.size w w2 := hb1a.grown hg2 hb1a.size (fun k hk => (HO1.out.lt k hk).1)
      have HO2 : Hid (w2.ownsRow w.heap.size 32 2 v2 (q + 1) (X1 ++ [.string s, .int .i64 n])) := ho2
      have HS2 := HSB.out w2 hb2
      have HS3 : Hid (Src Tryd.prog 2 24 (.slice a' (l.length - q) c') (l.length - q) X2 w2) := HS2
      clear ho2 hg2 HO1 HS1 hb1a HS2 HSB HC1
      go_wp2_with (at_builtin; refine wpList_append_own_src _ rfl (.tmp 37) (.tmp 40) 24 24 rfl w.heap.size 32 i0 _ 2 24 Tryd.underlying24 hi hz0 hz1 hz2 rfl _ _ _ rfl HO2.out _ (l.length - q) X2 rfl HS3.out (by unfold maxLen; omega) (by omega) hb2.size ?_)
      intro v3 w3 ho3 hg3
      have hb3 : Below w.heap.size w w3 := hb2.grown hg3 hb2.size (fun k hk => (HO2.out.lt k hk).1)
      have HO3 : Hid (w3.ownsRow w.heap.size 32 2 v3 (l.length + 1) (A.flatMap encN)) := by
        show World.ownsRow _ _ _ _ _ _ _
        rw [← HFL.out]
        have e : q + 1 + (l.length - q) = l.length + 1 := by omega
        rw [e] at ho3
        rw [List.append_assoc]
        exact ho3
      clear ho3 hg3 HO2 HS3 hb2 HFL hA hL
      go_wp2_with fail
      refine (HE1.out _ hb3).mono ?_
      rintro e w4 ⟨rfl, hb4⟩
      have HO4 : Hid (w4.ownsRow w.heap.size 32 2 v3 (l.length + 1) (A.flatMap encN)) := ownsRow_below HO3.out hb4 (Nat.le_refl _)
      have hB4 := hb3.trans (hb4.mono hb3.size)
      clear HO3 hb4 HE1
      cases hq1 : enOk l with
      | false =>
        have HF := HNE.out (.inl hq1)
        have HF1 : Hid (addOk l s n = false) := HF.1
        have HF2 : Hid (addD l s n = l) := HF.2
        clear HF hq1 HYE HNE HE2 HAN
        go_wp2_with fail
        refine (HC2.out _ hB4).mono ?_
        rintro e w5 ⟨v5, rfl, ho5, hb5⟩
        have hB5 := hB4.trans (hb5.mono hB4.size)
        go_wp2
        go_returns
        exact ⟨v5, by rw [HF1.out]; rfl, by rw [HF2.out]; exact OwnEn.of ho5, hB5⟩
      | true =>
        go_wp2_with fail
        refine (HE2.out _ _ HO4.out).mono ?_
        rintro e w5 ⟨rfl, hb5⟩
        have HO5 : Hid (w5.ownsRow w.heap.size 32 2 v3 (l.length + 1) (A.flatMap encN)) := ownsRow_below HO4.out hb5 (Nat.le_refl _)
        have hB5 := hB4.trans (hb5.mono hB4.size)
        clear HO4 hb5 HE2
        cases hq2 : enOk A with
        | false =>
          have HF := HNE.out (.inr hq2)
          have HF1 : Hid (addOk l s n = false) := HF.1
          have HF2 : Hid (addD l s n = l) := HF.2
          clear HF hq1 hq2 HYE HNE HAN
          go_wp2_with fail
          refine (HC2.out _ hB5).mono ?_
          rintro e w6 ⟨v6, rfl, ho6, hb6⟩
          have hB6 := hB5.trans (hb6.mono hB5.size)
          go_wp2
          go_returns
          exact ⟨v6, by rw [HF1.out]; rfl, by rw [HF2.out]; exact OwnEn.of ho6, hB6⟩
        | true =>
          have HF := HYE.out hq1 hq2
          have HF1 : Hid (addOk l s n = true) := HF.1
          have HF2 : Hid (addD l s n = A) := HF.2
          clear HF hq1 hq2 HYE HNE
          go_wp2
          go_returns
          exact ⟨v3, by rw [HF1.out]; rfl, by rw [HF2.out]; exact HAN.out _ _ HO5.out, hB5⟩
end Go.Proofs.YtogpgocldgdeaaaDoor
