/-
  Own text: whether a path is within another one, the program's way and the other one.
-/
import Derived.Test.YtkligbeneiidaaaJoinW
import Derived.Test.YtkligbeneiidaaaShelfP
namespace Go.Proofs.Ytkligbeneiidaaa
open Go.RowKit

set_option maxRecDepth 20000 in
set_option maxHeartbeats 400000 in
theorem textsW (a c : Option Addr) (ca cc n : Nat) (l m : List ByteArray) (w : World) (hl : l.length = n) (hm : m.length = n) (hn : n ≤ 4194304) (hr : RdS w a l) (hs : RdS w c m) :
    Calls Try.prog 49 #[.slice a n ca, .slice c n cc] w fun e w' => e = .returned (.bool (decide (l.map bt = m.map bt))) ∧ Below w.heap.size w w' := by
  have HCS : Hid (∀ k, k < n → ∃ b off x, a = some ⟨b, off, none⟩ ∧ b < w.heap.size ∧ w.cell? ⟨b, off + k, none⟩ = some (.string x) ∧ (l.map bt)[k]? = some (bt x)) := by
    intro k hk
    obtain ⟨b, off, h1, h2, h3⟩ := hr.cellS k (by omega)
    exact ⟨b, off, _, h1, h2, h3, by simp [show k < l.length by omega]⟩
  have HDS : Hid (∀ k, k < n → ∃ b off x, c = some ⟨b, off, none⟩ ∧ b < w.heap.size ∧ w.cell? ⟨b, off + k, none⟩ = some (.string x) ∧ (m.map bt)[k]? = some (bt x)) := by
    intro k hk
    obtain ⟨b, off, h1, h2, h3⟩ := hs.cellS k (by omega)
    exact ⟨b, off, _, h1, h2, h3, by simp [show k < m.length by omega]⟩
  have HLM : Hid (l.length = n ∧ m.length = n) := ⟨hl, hm⟩
  clear hr hs hl hm
  go_enter Try.func49, Try.ntmps49
  go_wp2
  go_loopw [5] (fun i wr => ∃ k : Nat, k ≤ n ∧ i = .int .i64 k ∧ Below w.heap.size w wr ∧ Hid (∀ j, j < k → (l.map bt)[j]? = (m.map bt)[j]?)) (fun i _ => n - (intOf i).toNat)
  case atStart => exact ⟨0, Nat.zero_le _, rfl, Below.refl _ _, fun j h => by omega⟩
  case round =>
    obtain ⟨k, hk, rfl, hbel, HA⟩ := hrel
    by_cases hlt : k < n
    · obtain ⟨b, off, x, rfl, hblt, hcell, hx⟩ := HCS.out k hlt
      obtain ⟨d, off2, y, rfl, hdlt, hcell2, hy⟩ := HDS.out k hlt
      have hcr : wr.cell? ⟨b, off + k, none⟩ = some (.string x) := (hbel.cell hblt).trans hcell
      have hdr : wr.cell? ⟨d, off2 + k, none⟩ = some (.string y) := (hbel.cell hdlt).trans hcell2
      have HX : Hid ((l.map bt)[k]? = some (bt x)) := hx
      have HY : Hid ((m.map bt)[k]? = some (bt y)) := hy
      clear hcell hcell2 hx hy
      by_cases hxy : bt x = bt y
      · have HT2 : Hid (∀ j, j < k + 1 → (l.map bt)[j]? = (m.map bt)[j]?) := by
          intro j hj
          by_cases e : j = k
          · subst e; rw [HX.out, HY.out, hxy]
          · exact HA.out j (by omega)
        obtain rfl := bt_inj hxy
        clear hxy HX HY HA
        go_wp2
        go_region
        all_goals (go_wp2)
        all_goals go_roundw
        case rel => exact ⟨k + 1, by omega, by go_num, hbel.drew, HT2⟩
        case measure => simp [intOf]; omega
      · have hxl := str_other hxy
        have HF' : Hid (¬ l.map bt = m.map bt) := by
          intro e
          have := HX.out
          rw [e, HY.out] at this
          exact hxy (Option.some.inj this).symm
        clear HX HY HA hxy
        go_wp2
        go_region
        all_goals (go_wp2)
        all_goals go_ret
        all_goals exact ⟨by simp [HF'.out], hbel.drew⟩
    · obtain rfl : k = n := by omega
      have HE : Hid (l.map bt = m.map bt) := by
        show _ = _
        apply List.ext_getElem?
        intro j
        by_cases hj : j < k
        · exact HA.out j hj
        · rw [List.getElem?_eq_none (by have := HLM.out; simp; omega), List.getElem?_eq_none (by have := HLM.out; simp; omega)]
      go_wp2
      go_ret
      exact ⟨by simp [HE.out], hbel⟩

theorem wthn_not {p q : List UInt8} (h : ¬ (ptOk p = true ∧ ptOk q = true)) : wthn p q = false := by
  unfold wthn
  cases h1 : ptOk p <;> cases h2 : ptOk q <;> simp [h1, h2] at h ⊢
theorem wthn_both {p q : List UInt8} (hp : ptOk p = true) (hq : ptOk q = true) : wthn p q = (p == q || q == [47] || decide (q ++ [47] <+: p)) := by
  rw [← wthn_said hp hq]; simp [wthn, hp, hq]
theorem wthn_len {s t : ByteArray} (hp : ptOk (bt s) = true) (hq : ptOk (bt t) = true) (h : ¬ (nmT t).length ≤ (nmT s).length) : wthn (bt s) (bt t) = false := by
  simp [wthn, hp, hq]
  intro hpre
  have := hpre.length_le
  rw [← nmT_len, ← nmT_len] at this
  exact h this
theorem wthn_take {s t : ByteArray} (hp : ptOk (bt s) = true) (hq : ptOk (bt t) = true) : wthn (bt s) (bt t) = decide (((nmT s).take (nmT t).length).map bt = (nmT t).map bt) := by
  simp only [wthn, hp, hq, Bool.true_and]
  congr 1
  rw [List.map_take, nmT_bt, nmT_bt, nmT_len, List.prefix_iff_eq_take]
  exact propext ⟨Eq.symm, Eq.symm⟩
theorem RdS.take {w : World} {a : Option Addr} {l : List ByteArray} (h : RdS w a l) (n : Nat) : RdS w a (l.take n) := by
  rcases h with rfl | ⟨b, off, ha, hlt, hc⟩
  · exact .inl (by simp)
  · refine .inr ⟨b, off, ha, hlt, fun i hi => ?_⟩
    rw [List.getElem_take]
    exact hc i (by simp at hi; omega)

set_option maxRecDepth 20000 in
set_option maxHeartbeats 400000 in
theorem implWithin (s t : ByteArray) (w : World) (hs : s.size ≤ 4194304) (ht : t.size ≤ 4194304) :
    Calls Try.prog 25 #[.string s, .string t] w fun e w' => e = .returned (.bool (wthn (bt s) (bt t))) ∧ Below w.heap.size w w' := by
  cases hp : ptOk (bt s) with
  | false =>
    have HF : Hid (wthn (bt s) (bt t) = false) := wthn_not (by simp [hp])
    go_enter Try.func25, Try.ntmps25
    go_wp2_with (go_at_call 18; refine (implPath _ _ hs).mono ?_; rintro e w1 ⟨rfl, hb1⟩; rw [hp])
    go_ret
    exact ⟨by rw [HF.out]; rfl, hb1⟩
  | true =>
    cases hq : ptOk (bt t) with
    | false =>
      have HF : Hid (wthn (bt s) (bt t) = false) := wthn_not (by simp [hq])
      go_enter Try.func25, Try.ntmps25
      go_wp2_with fail
      refine (implPath _ _ hs).mono ?_
      rintro e w1 ⟨rfl, hb1⟩
      rw [hp]
      go_wp2_with fail
      refine (implPath _ _ ht).mono ?_
      rintro e w2 ⟨rfl, hb2⟩
      rw [hq]
      go_wp2
      go_ret
      exact ⟨by rw [HF.out]; rfl, hb1.trans (hb2.mono hb1.size)⟩
    | true =>
      have HE : Hid (wthn (bt s) (bt t) = (bt s == bt t || bt t == [47] || decide (bt t ++ [47] <+: bt s))) := wthn_both hp hq
      by_cases h1 : bt s = bt t
      · have hst := str_same h1
        have HE' : Hid (wthn (bt s) (bt t) = true) := by show _ = _; rw [HE.out, h1]; simp
        go_enter Try.func25, Try.ntmps25
        go_wp2_with fail
        refine (implPath _ _ hs).mono ?_
        rintro e w1 ⟨rfl, hb1⟩
        rw [hp]
        go_wp2_with fail
        refine (implPath _ _ ht).mono ?_
        rintro e w2 ⟨rfl, hb2⟩
        rw [hq]
        go_wp2
        go_ret
        exact ⟨by rw [HE'.out]; rfl, hb1.trans (hb2.mono hb1.size)⟩
      · have hst := str_other h1
        by_cases h2 : bt t = [47]
        · have htl := lit_same h2
          have HE' : Hid (wthn (bt s) (bt t) = true) := by show _ = _; rw [HE.out, h2]; simp
          go_enter Try.func25, Try.ntmps25
          go_wp2_with fail
          refine (implPath _ _ hs).mono ?_
          rintro e w1 ⟨rfl, hb1⟩
          rw [hp]
          go_wp2_with fail
          refine (implPath _ _ ht).mono ?_
          rintro e w2 ⟨rfl, hb2⟩
          rw [hq]
          go_wp2
          go_ret
          exact ⟨by rw [HE'.out]; rfl, hb1.trans (hb2.mono hb1.size)⟩
        · have htl := lit_other h2
          have HE' : Hid (Lib.hasPrefix s.data.toList (t ++ ⟨#[47]⟩ : ByteArray).data.toList = wthn (bt s) (bt t)) := by
            show _ = _
            have e1 : (bt s == bt t) = false := by simpa using h1
            have e2 : (bt t == [47]) = false := by simpa using h2
            rw [HE.out, e1, e2]
            show Lib.hasPrefix (bt s) (bt (t ++ ⟨#[47]⟩)) = _
            rw [bt_app, Bool.eq_iff_iff]
            simp [Lib.hasPrefix]
            rfl
          go_enter Try.func25, Try.ntmps25
          go_wp2_with fail
          refine (implPath _ _ hs).mono ?_
          rintro e w1 ⟨rfl, hb1⟩
          rw [hp]
          go_wp2_with fail
          refine (implPath _ _ ht).mono ?_
          rintro e w2 ⟨rfl, hb2⟩
          rw [hq]
          go_wp2_with fail
          refine (Try.strings_HasPrefix _ _ _).mono ?_
          rintro e w3 ⟨rfl, hw3⟩
          subst w3
          rw [HE'.out]
          go_wp2
          go_ret
          exact ⟨rfl, hb1.trans (hb2.mono hb1.size)⟩

set_option maxRecDepth 20000 in
set_option maxHeartbeats 400000 in
theorem specWithin (s t : ByteArray) (w : World) (hs : s.size ≤ 4194304) (ht : t.size ≤ 4194304) :
    Calls Try.prog 26 #[.string s, .string t] w fun e w' => e = .returned (.bool (wthn (bt s) (bt t))) ∧ Below w.heap.size w w' := by
  have hle := nmT_le s
  have hlt := nmT_le t
  have HTK : Hid (ptOk (bt s) = true → ptOk (bt t) = true → wthn (bt s) (bt t) = decide (((nmT s).take (nmT t).length).map bt = (nmT t).map bt)) := wthn_take
  have HLN : Hid (ptOk (bt s) = true → ptOk (bt t) = true → ¬ (nmT t).length ≤ (nmT s).length → wthn (bt s) (bt t) = false) := wthn_len
  have HNO : Hid (¬ (ptOk (bt s) = true ∧ ptOk (bt t) = true) → wthn (bt s) (bt t) = false) := wthn_not
  go_enter Try.func26, Try.ntmps26
  go_wp2_with fail
  refine (specNames _ _ hs).mono ?_
  rintro e w1 ⟨v1, rfl, ho1, hb1⟩
  obtain ⟨a, ca, rfl, _, hr1⟩ := own_rdS ho1
  have hca := own_cap ho1
  clear ho1
  go_wp2_with fail
  refine (specNames _ _ ht).mono ?_
  rintro e w2 ⟨v2, rfl, ho2, hb2⟩
  obtain ⟨c, cc, rfl, _, hr2⟩ := own_rdS ho2
  clear ho2
  have HR1 : Hid (RdS w2 a (nmT s)) := hr1.below hb2 (Nat.le_refl _)
  have HR2 : Hid (RdS w2 c (nmT t)) := hr2
  have hb02 : Below w.heap.size w w2 := hb1.trans (hb2.mono hb1.size)
  clear hr1 hr2 hb1 hb2
  go_wp2_with fail
  refine (specPath _ _ hs).mono ?_
  rintro e w3 ⟨rfl, hb3⟩
  cases hp : ptOk (bt s) with
  | false =>
    have HF : Hid (wthn (bt s) (bt t) = false) := HNO.out (by simp [hp])
    go_wp2
    go_ret
    exact ⟨by rw [HF.out]; rfl, hb02.trans (hb3.mono hb02.size)⟩
  | true =>
    go_wp2_with fail
    refine (specPath _ _ ht).mono ?_
    rintro e w4 ⟨rfl, hb4⟩
    have hb24 : Below w2.heap.size w2 w4 := hb3.trans (hb4.mono hb3.size)
    have hb04 : Below w.heap.size w w4 := hb02.trans (hb24.mono hb02.size)
    cases hq : ptOk (bt t) with
    | false =>
      have HF : Hid (wthn (bt s) (bt t) = false) := HNO.out (by simp [hq])
      go_wp2
      go_ret
      exact ⟨by rw [HF.out]; rfl, hb04⟩
    | true =>
      by_cases hl : (nmT t).length ≤ (nmT s).length
      · have HC : Hid (Calls Try.prog 49 #[.slice a (nmT t).length ca, .slice c (nmT t).length cc] w4 fun e w' => e = .returned (.bool (wthn (bt s) (bt t))) ∧ Below w4.heap.size w4 w') := by
          have := textsW a c ca cc (nmT t).length ((nmT s).take (nmT t).length) (nmT t) w4 (by simp; omega) rfl (by omega) ((HR1.out.below hb24 (Nat.le_refl _)).take _) (HR2.out.below hb24 (Nat.le_refl _))
          rw [← HTK.out hp hq] at this
          exact this
        clear HTK HLN HNO HR1 HR2
        generalize (nmT t).length = m at *
        generalize (nmT s).length = n at *
        have hl' : (m : Int) ≤ (n : Int) := by omega
        go_wp2_with fail
        all_goals
          refine HC.out.mono ?_
          rintro e w5 ⟨rfl, hb5⟩
          go_wp2
          go_ret
          exact ⟨rfl, hb04.trans (hb5.mono hb04.size)⟩
      · have HF : Hid (wthn (bt s) (bt t) = false) := HLN.out hp hq hl
        clear HTK HLN HNO HR1 HR2
        generalize (nmT t).length = m at *
        generalize (nmT s).length = n at *
        have hl' : ¬ (m : Int) ≤ (n : Int) := by omega
        go_wp2
        go_ret
        exact ⟨by rw [HF.out]; rfl, hb04⟩
end Go.Proofs.Ytkligbeneiidaaa
