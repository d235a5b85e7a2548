/-
  Own text: whether two disks are the same, as the program tells it.
-/
import Derived.Test.YtlidmnehpcodkaaDoorBunS
namespace Go.Proofs.YtlidmnehpcodkaaDoor
open Go.RowKit

set_option maxRecDepth 20000 in
set_option maxHeartbeats 400000 in
theorem equalT (a c : Option Addr) (ca cc : Nat) (l m : List ByteArray) (w : World) (hl : l.length ≤ 4194304) (hr : RdS w a l) (hs : RdS w c m) :
    Calls Tryd.prog 66 #[.slice a l.length ca, .slice c m.length cc] w fun e w' => e = .returned (.bool (decide (l = m))) ∧ Below w.heap.size w w' := by
  by_cases hne : l.length = m.length
  · have HCS : Hid (∀ k, k < l.length → ∃ b off x, a = some ⟨b, off, none⟩ ∧ b < w.heap.size ∧ w.cell? ⟨b, off + k, none⟩ = some (.string x) ∧ l[k]? = some x) := by
      intro k hk
      obtain ⟨b, off, h1, h2, h3⟩ := hr.cellT k (by omega)
      exact ⟨b, off, _, h1, h2, h3, by simp [hk]⟩
    have HDS : Hid (∀ k, k < l.length → ∃ b off x, c = some ⟨b, off, none⟩ ∧ b < w.heap.size ∧ w.cell? ⟨b, off + k, none⟩ = some (.string x) ∧ m[k]? = some x) := by
      intro k hk
      obtain ⟨b, off, h1, h2, h3⟩ := hs.cellT k (by omega)
      exact ⟨b, off, _, h1, h2, h3, by simp [show k < m.length by omega]⟩
    have HLM : Hid (l.length = m.length) := hne
    clear hr hs
    rw [← hne]
    clear hne
    generalize hn : l.length = n at *
    have HLN : Hid (l.length = n) := hn
    clear hn
    go_enter Tryd.func66, Tryd.ntmps66
    go_wp2
    go_loopw [13] (fun i wr => ∃ k : Nat, k ≤ n ∧ i = .int .i64 k ∧ Below w.heap.size w wr ∧ Hid (∀ j, j < k → l[j]? = m[j]?)) (fun i _ => n - (intOf i).toNat)
    case atStart => exact ⟨0, Nat.zero_le _, rfl, Below.refl _ _, fun j h => by omega⟩
    case round =>
      obtain ⟨k, hk, rfl, hbel, HA⟩ := hrel
      by_cases hlt : k < n
      · obtain ⟨b, off, x, rfl, hblt, hcell, hx⟩ := HCS.out k hlt
        obtain ⟨d, off2, y, rfl, hdlt, hcell2, hy⟩ := HDS.out k hlt
        have hcr : wr.cell? ⟨b, off + k, none⟩ = some (.string x) := (hbel.cell hblt).trans hcell
        have hdr : wr.cell? ⟨d, off2 + k, none⟩ = some (.string y) := (hbel.cell hdlt).trans hcell2
        have HX : Hid (l[k]? = some x) := hx
        have HY : Hid (m[k]? = some y) := hy
        clear hcell hcell2 hx hy
        by_cases hxy : x = y
        · have HT2 : Hid (∀ j, j < k + 1 → l[j]? = m[j]?) := by
            intro j hj
            by_cases e : j = k
            · subst e; rw [HX.out, HY.out, hxy]
            · exact HA.out j (by omega)
          subst hxy
          clear HX HY HA
          go_wp2
          go_region
          all_goals (go_wp2)
          all_goals go_roundw
          case rel => exact ⟨k + 1, by omega, by go_num, hbel.drew, HT2⟩
          case measure => simp [intOf]; omega
        · have hxl := bytes_ne hxy
          have HF' : Hid (¬ l = m) := by
            intro e
            have := HX.out
            rw [e, HY.out] at this
            exact hxy (Option.some.inj this).symm
          clear HX HY HA hxy
          go_wp2
          go_region
          all_goals (go_wp2)
          all_goals go_ret
          all_goals exact ⟨by simp [HF'.out], hbel.drew⟩
      · obtain rfl : k = n := by omega
        have HE : Hid (l = m) := by
          show _ = _
          apply List.ext_getElem?
          intro j
          by_cases hj : j < k
          · exact HA.out j hj
          · rw [List.getElem?_eq_none (by have := HLN.out; omega), List.getElem?_eq_none (by have := HLN.out; have := HLM.out; omega)]
        go_wp2
        go_ret
        exact ⟨by simp [HE.out], hbel⟩
  · have HF : Hid (¬ l = m) := fun e => hne (by rw [e])
    have hne' : ¬ (l.length : Int) = (m.length : Int) := by omega
    clear hr hs
    generalize l.length = n at *
    generalize m.length = n' at *
    go_enter Tryd.func66, Tryd.ntmps66
    go_wp2
    go_ret
    exact ⟨by simp [HF.out], Below.refl _ _⟩

set_option maxRecDepth 20000 in
set_option maxHeartbeats 400000 in
theorem equalP (a c : Option Addr) (ca cc : Nat) (l m : List PutD) (w : World) (hl : l.length ≤ 4194304) (hr : RdF encP 2 w a l) (hs : RdF encP 2 w c m) :
    Calls Tryd.prog 67 #[.slice a l.length ca, .slice c m.length cc] w fun e w' => e = .returned (.bool (decide (l = m))) ∧ Below w.heap.size w w' := by
  by_cases hne : l.length = m.length
  · have HCS : Hid (∀ k, k < l.length → ∃ b off x, a = some ⟨b, off, none⟩ ∧ b < w.heap.size ∧ w.cell? ⟨b, off + k * 2, none⟩ = some (.int .i64 x.1) ∧ w.cell? ⟨b, off + k * 2 + 1, none⟩ = some (.string x.2) ∧ l[k]? = some x) := by
      intro k hk
      obtain ⟨b, off, h1, h2, h3⟩ := hr.at k (by omega)
      exact ⟨b, off, l[k], h1, h2, h3 0 (by omega), h3 1 (by omega), by simp [hk]⟩
    have HDS : Hid (∀ k, k < l.length → ∃ b off x, c = some ⟨b, off, none⟩ ∧ b < w.heap.size ∧ w.cell? ⟨b, off + k * 2, none⟩ = some (.int .i64 x.1) ∧ w.cell? ⟨b, off + k * 2 + 1, none⟩ = some (.string x.2) ∧ m[k]? = some x) := by
      intro k hk
      obtain ⟨b, off, h1, h2, h3⟩ := hs.at k (by omega)
      exact ⟨b, off, m[k], h1, h2, h3 0 (by omega), h3 1 (by omega), by simp [show k < m.length by omega]⟩
    have HLM : Hid (l.length = m.length) := hne
    clear hr hs
    rw [← hne]
    clear hne
    generalize hn : l.length = n at *
    have HLN : Hid (l.length = n) := hn
    clear hn
    go_enter Tryd.func67, Tryd.ntmps67
    go_wp2
    go_loopw [13] (fun i wr => ∃ k : Nat, k ≤ n ∧ i = .int .i64 k ∧ Below w.heap.size w wr ∧ Hid (∀ j, j < k → l[j]? = m[j]?)) (fun i _ => n - (intOf i).toNat)
    case atStart => exact ⟨0, Nat.zero_le _, rfl, Below.refl _ _, fun j h => by omega⟩
    case round =>
      obtain ⟨k, hk, rfl, hbel, HA⟩ := hrel
      by_cases hlt : k < n
      · obtain ⟨b, off, x, rfl, hblt, hc0, hc1, hx⟩ := HCS.out k hlt
        obtain ⟨d, off2, y, rfl, hdlt, hd0, hd1, hy⟩ := HDS.out k hlt
        have hcr0 : wr.cell? ⟨b, off + k * 2, none⟩ = some (.int .i64 x.1) := (hbel.cell hblt).trans hc0
        have hcr1 : wr.cell? ⟨b, off + k * 2 + 1, none⟩ = some (.string x.2) := (hbel.cell hblt).trans hc1
        have hdr0 : wr.cell? ⟨d, off2 + k * 2, none⟩ = some (.int .i64 y.1) := (hbel.cell hdlt).trans hd0
        have hdr1 : wr.cell? ⟨d, off2 + k * 2 + 1, none⟩ = some (.string y.2) := (hbel.cell hdlt).trans hd1
        have HX : Hid (l[k]? = some x) := hx
        have HY : Hid (m[k]? = some y) := hy
        clear hc0 hc1 hd0 hd1 hx hy
        by_cases hxy : x = y
        · have HT2 : Hid (∀ j, j < k + 1 → l[j]? = m[j]?) := by
            intro j hj
            by_cases e : j = k
            · subst e; rw [HX.out, HY.out, hxy]
            · exact HA.out j (by omega)
          subst hxy
          clear HX HY HA
          obtain ⟨xn, xs⟩ := x
          simp only at hcr0 hcr1 hdr0 hdr1
          go_wp2
          go_region
          all_goals (go_wp2)
          all_goals go_roundw
          case rel => exact ⟨k + 1, by omega, by go_num, hbel.drew, HT2⟩
          case measure => simp [intOf]; omega
        · have HF' : Hid (¬ l = m) := by
            intro e
            have := HX.out
            rw [e, HY.out] at this
            exact hxy (Option.some.inj this).symm
          clear HX HY HA
          obtain ⟨xn, xs⟩ := x
          obtain ⟨yn, ys⟩ := y
          simp only at hcr0 hcr1 hdr0 hdr1
          by_cases hn0 : xn = yn
          · have hxl := bytes_ne (a := xs) (b := ys) (fun e => hxy (by rw [hn0, e]))
            subst hn0
            clear hxy
            go_wp2
            go_region
            all_goals (go_wp2)
            all_goals go_ret
            all_goals exact ⟨by simp [HF'.out], hbel.drew⟩
          · have hnl : (xn == yn) = false := by simpa using hn0
            clear hxy
            go_wp2
            go_region
            all_goals (go_wp2)
            all_goals go_ret
            all_goals exact ⟨by simp [HF'.out], hbel.drew⟩
      · obtain rfl : k = n := by omega
        have HE : Hid (l = m) := by
          show _ = _
          apply List.ext_getElem?
          intro j
          by_cases hj : j < k
          · exact HA.out j hj
          · rw [List.getElem?_eq_none (by have := HLN.out; omega), List.getElem?_eq_none (by have := HLN.out; have := HLM.out; omega)]
        go_wp2
        go_ret
        exact ⟨by simp [HE.out], hbel⟩
  · have HF : Hid (¬ l = m) := fun e => hne (by rw [e])
    have hne' : ¬ (l.length : Int) = (m.length : Int) := by omega
    clear hr hs
    generalize l.length = n at *
    generalize m.length = n' at *
    go_enter Tryd.func67, Tryd.ntmps67
    go_wp2
    go_ret
    exact ⟨by simp [HF.out], Below.refl _ _⟩

set_option maxRecDepth 20000 in
set_option maxHeartbeats 400000 in
theorem implDiskSame (v u : Value) (d e : DiskD) (w : World) (hl : d.1.length ≤ 4194304 ∧ d.2.length ≤ 4194304) (hr : RdD w v d) (hs : RdD w u e) :
    Calls Tryd.prog 23 #[v, u] w fun r w' => r = .returned (.bool (dkSame d e)) ∧ Below w.heap.size w w' := by
  obtain ⟨a, ca, b, cb, rfl, r1, r2⟩ := hr
  obtain ⟨a', ca', b', cb', rfl, r1', r2'⟩ := hs
  have HT : Hid (∀ q, decide (d.1 = e.1) = q → ∀ W, Below w.heap.size w W → Calls Tryd.prog 66 #[.slice a d.1.length ca, .slice a' e.1.length ca'] W fun r w' => r = .returned (.bool q) ∧ Below W.heap.size W w') := by
    rintro q rfl W hW
    exact equalT a a' ca ca' d.1 e.1 W hl.1 (r1.below hW (Nat.le_refl _)) (r1'.below hW (Nat.le_refl _))
  have HP : Hid (∀ q, decide (d.2 = e.2) = q → ∀ W, Below w.heap.size w W → Calls Tryd.prog 67 #[.slice b d.2.length cb, .slice b' e.2.length cb'] W fun r w' => r = .returned (.bool q) ∧ Below W.heap.size W w') := by
    rintro q rfl W hW
    exact equalP b b' cb cb' d.2 e.2 W hl.2 (r2.below hW (Nat.le_refl _)) (r2'.below hW (Nat.le_refl _))
  have HSM : Hid (dkSame d e = (decide (d.1 = e.1) && decide (d.2 = e.2))) := rfl
  obtain ⟨hl1, hl2⟩ := hl
  clear r1 r2 r1' r2'
  obtain ⟨q1, hq1⟩ : ∃ q, decide (d.1 = e.1) = q := ⟨_, rfl⟩
  obtain ⟨q2, hq2⟩ : ∃ q, decide (d.2 = e.2) = q := ⟨_, rfl⟩
  have HT' : Hid (∀ W, Below w.heap.size w W → Calls Tryd.prog 66 #[.slice a d.1.length ca, .slice a' e.1.length ca'] W fun r w' => r = .returned (.bool q1) ∧ Below W.heap.size W w') := HT.out q1 hq1
  have HP' : Hid (∀ W, Below w.heap.size w W → Calls Tryd.prog 67 #[.slice b d.2.length cb, .slice b' e.2.length cb'] W fun r w' => r = .returned (.bool q2) ∧ Below W.heap.size W w') := HP.out q2 hq2
  have HSQ : Hid (dkSame d e = (q1 && q2)) := by show _ = _; rw [HSM.out, hq1, hq2]
  clear hq1 hq2 HT HP HSM
  go_enter Tryd.func23, Tryd.ntmps23
  go_wp2_with fail
  refine (HT'.out _ (below2 _ _ _)).mono ?_
  rintro r w1 ⟨rfl, hb1⟩
  have hX : Var w1 w.heap.size #[.slice a d.1.length ca, .slice b d.2.length cb] 27 := ((Var.made w _ _).alloc _).new hb1
  have hY : Var w1 (w.heap.size + 1) #[.slice a' e.1.length ca', .slice b' e.2.length cb'] 27 := (Var.made2 w _ _ _).new hb1
  have hb01 : Below w.heap.size w w1 := (below2 w _ _).trans (hb1.mono (by simp; omega))
  have hx1 := hX.cell 1
  have hy1 := hY.cell 1
  clear hX hY hb1
  simp at hx1 hy1
  cases q1 with
  | false =>
    go_wp2
    go_ret
    exact ⟨by rw [HSQ.out]; rfl, hb01⟩
  | true =>
    go_wp2_with fail
    refine (HP'.out _ hb01).mono ?_
    rintro r w2 ⟨rfl, hb2⟩
    go_wp2
    go_ret
    exact ⟨by rw [HSQ.out]; rfl, hb01.trans (hb2.mono hb01.size)⟩
end Go.Proofs.YtlidmnehpcodkaaDoor
