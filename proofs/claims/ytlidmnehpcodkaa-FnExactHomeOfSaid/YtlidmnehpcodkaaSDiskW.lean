/-
  Own text: the other program's functions on disks.
-/
import Derived.Test.YtlidmnehpcodkaaDiskW
import Derived.Test.YtlidmnehpcodkaaDiskMath
import Derived.Test.YtlidmnehpcodkaaInW
namespace Go.Proofs.Ytlidmnehpcodkaa
open Go.RowKit

theorem all_bad {α : Type} {f : α → Bool} {l : List α} {k : Nat} (hk : k < l.length) (h : f l[k] = false) : l.all f = false := by
  rw [List.all_eq_false]
  exact ⟨l[k], List.getElem_mem hk, by simp [h]⟩
theorem all_good {α : Type} {f : α → Bool} {l : List α} (h : ∀ j (hj : j < l.length), f l[j] = true) : l.all f = true := by
  rw [List.all_eq_true]
  intro x hx
  obtain ⟨j, hj, rfl⟩ := List.mem_iff_getElem.1 hx
  exact h j hj

set_option maxRecDepth 20000 in
set_option maxHeartbeats 400000 in
theorem putsOkW (a : Option Addr) (cap : Nat) (l : List PutD) (n : Nat) (w : World) (hl : l.length ≤ 4194304) (hn : n ≤ 4194304) (hr : RdF encP 2 w a l) :
    Calls Try.prog 37 #[.slice a l.length cap, .int .i64 n] w fun e w' => e = .returned (.bool (l.all (putOk n))) ∧ w' = w := by
  have HCS : Hid (∀ k (hk : k < l.length), ∃ b off, a = some ⟨b, off, none⟩ ∧ b < w.heap.size ∧ w.cell? ⟨b, off + k * 2, none⟩ = some (.int .i64 l[k].1) ∧ w.cell? ⟨b, off + k * 2 + 1, none⟩ = some (.string l[k].2)) := by
    intro k hk
    obtain ⟨b, off, h1, h2, h3⟩ := hr.at k hk
    exact ⟨b, off, h1, h2, h3 0 (by omega), h3 1 (by omega)⟩
  clear hr
  go_enter Try.func37, Try.ntmps37
  go_wp2
  go_loopw [5] (fun i wr => ∃ k : Nat, k ≤ l.length ∧ i = .int .i64 k ∧ wr = w ∧ Hid (∀ j (hj : j < l.length), j < k → putOk n l[j] = true)) (fun i _ => l.length - (intOf i).toNat)
  case atStart => exact ⟨0, Nat.zero_le _, rfl, rfl, fun j hj h => by omega⟩
  case round =>
    obtain ⟨k, hk, rfl, hwr, HA⟩ := hrel
    subst hwr
    by_cases hlt : k < l.length
    · obtain ⟨b, off, rfl, hblt, hc0, hc1⟩ := HCS.out k hlt
      have HB : Hid (putOk n l[k] = false → l.all (putOk n) = false) := all_bad hlt
      have HN : Hid (putOk n l[k] = true → ∀ j (hj : j < l.length), j < k + 1 → putOk n l[j] = true) := by
        intro h j hj h2
        by_cases e : j = k
        · subst e; exact h
        · exact HA.out j hj (by omega)
      have HP : Hid (putOk n l[k] = ((decide (0 ≤ l[k].1) && decide (l[k].1 ≤ (n : Int) - 1)) && decide (l[k].2.size ≤ 90))) := rfl
      generalize l[k] = y at *
      obtain ⟨yn, ys⟩ := y
      simp only at hc0 hc1 HP
      cases hin : (decide (0 ≤ yn) && decide (yn ≤ (n : Int) - 1)) with
      | false =>
        have HF := HB.out (by rw [HP.out, hin]; rfl)
        have HF' : Hid (l.all (putOk n) = false) := HF
        clear HF HB HN HP
        go_wp2_with (go_at_call 36; refine (inW _ _ _ _).mono ?_; rintro e w1 ⟨rfl, hw1⟩; subst w1; rw [hin])
        go_ret
        exact ⟨by rw [HF'.out]; rfl, rfl⟩
      | true =>
        by_cases hsz : ys.size ≤ 90
        · have HN' : Hid (∀ j (hj : j < l.length), j < k + 1 → putOk n l[j] = true) := HN.out (by rw [HP.out, hin]; simpa using hsz)
          have hsz' : ¬ (90 : Int) < (ys.size : Int) := by omega
          clear HB HN HP
          go_wp2_with (go_at_call 36; refine (inW _ _ _ _).mono ?_; rintro e w1 ⟨rfl, hw1⟩; subst w1; rw [hin])
          go_roundw
          case rel => exact ⟨k + 1, by omega, by go_num, by trivial, HN'⟩
          case measure => simp [intOf]; omega
        · have HF' : Hid (l.all (putOk n) = false) := HB.out (by rw [HP.out, hin]; simpa using hsz)
          have hsz' : (90 : Int) < (ys.size : Int) := by omega
          clear HB HN HP
          go_wp2_with (go_at_call 36; refine (inW _ _ _ _).mono ?_; rintro e w1 ⟨rfl, hw1⟩; subst w1; rw [hin])
          go_ret
          exact ⟨by rw [HF'.out]; rfl, rfl⟩
    · obtain rfl : k = l.length := by omega
      have HE : Hid (l.all (putOk n) = true) := all_good fun j hj => HA.out j hj hj
      go_wp2
      go_ret
      exact ⟨by rw [HE.out]; rfl, rfl⟩

set_option maxRecDepth 20000 in
set_option maxHeartbeats 400000 in
theorem specDiskOk (v : Value) (d : DiskD) (w : World) (hl : d.1.length ≤ 4194304 ∧ d.2.length ≤ 4194304) (hr : RdD w v d) :
    Calls Try.prog 76 #[v] w fun e w' => e = .returned (.bool (dkOk d)) ∧ Below w.heap.size w w' := by
  obtain ⟨a, ca, b, cb, rfl, r1, r2⟩ := hr
  obtain ⟨hl1, hl2⟩ := hl
  have HK : Hid (dkOk d = (decide (d.1.length ≤ 120) && decide (d.2.length ≤ 400) && d.1.all txOk && d.2.all (putOk d.1.length))) := rfl
  by_cases h120 : 120 < d.1.length
  · have HF : Hid (dkOk d = false) := by show _ = _; rw [HK.out]; simp [show ¬ d.1.length ≤ 120 by omega]
    clear r1 r2 HK
    go_enter Try.func76, Try.ntmps76
    go_wp2
    go_ret
    exact ⟨by rw [HF.out]; rfl, below1 _ _⟩
  by_cases h400 : 400 < d.2.length
  · have HF : Hid (dkOk d = false) := by show _ = _; rw [HK.out]; simp [show ¬ d.2.length ≤ 400 by omega]
    clear r1 r2 HK
    go_enter Try.func76, Try.ntmps76
    go_wp2
    go_ret
    exact ⟨by rw [HF.out]; rfl, below1 _ _⟩
  have HK2 : Hid (dkOk d = (d.1.all txOk && d.2.all (putOk d.1.length))) := by
    show _ = _; rw [HK.out]; simp [show d.1.length ≤ 120 by omega, show d.2.length ≤ 400 by omega]
  have HCS : Hid (∀ k (hk : k < d.1.length), ∃ x off, a = some ⟨x, off, none⟩ ∧ x < w.heap.size ∧ w.cell? ⟨x, off + k, none⟩ = some (.string d.1[k])) := fun k hk => r1.cellT k hk
  have HR2 : Hid (RdF encP 2 w b d.2) := r2
  clear r1 r2 HK
  go_enter Try.func76, Try.ntmps76
  go_wp2
  go_loopw [3] (fun i wr => ∃ k : Nat, k ≤ d.1.length ∧ i = .int .i64 k ∧ wr = w.alloc (.cells #[.slice a d.1.length ca, .slice b d.2.length cb] 43) ∧ Hid (∀ j (hj : j < d.1.length), j < k → txOk d.1[j] = true)) (fun i _ => d.1.length - (intOf i).toNat)
  case atStart => exact ⟨0, Nat.zero_le _, rfl, rfl, fun j hj h => by omega⟩
  case round =>
    obtain ⟨k, hk, rfl, hwr, HA⟩ := hrel
    subst hwr
    by_cases hlt : k < d.1.length
    · obtain ⟨x, off, rfl, hblt, hc1⟩ := HCS.out k hlt
      have hc : (w.alloc (.cells #[.slice (some ⟨x, off, none⟩) d.1.length ca, .slice b d.2.length cb] 43)).cell? ⟨x, off + k, none⟩ = some (.string d.1[k]) := ((below1 w _).cell (by exact hblt)).trans hc1
      have HB : Hid (txOk d.1[k] = false → d.1.all txOk = false) := all_bad hlt
      have HN : Hid (txOk d.1[k] = true → ∀ j (hj : j < d.1.length), j < k + 1 → txOk d.1[j] = true) := by
        intro h j hj h2
        by_cases e : j = k
        · subst e; exact h
        · exact HA.out j hj (by omega)
      have HT : Hid (txOk d.1[k] = decide (d.1[k].size ≤ 90)) := rfl
      generalize d.1[k] = y at *
      clear hc1
      by_cases hsz : y.size ≤ 90
      · have HN' : Hid (∀ j (hj : j < d.1.length), j < k + 1 → txOk d.1[j] = true) := HN.out (by rw [HT.out]; simpa using hsz)
        have hsz' : ¬ (90 : Int) < (y.size : Int) := by omega
        clear HB HN HT
        go_wp2
        go_roundw
        case rel => exact ⟨k + 1, by omega, by go_num, by trivial, HN'⟩
        case measure => simp [intOf]; omega
      · have HF' : Hid (dkOk d = false) := by show _ = _; rw [HK2.out, HB.out (by rw [HT.out]; simpa using hsz)]; rfl
        have hsz' : (90 : Int) < (y.size : Int) := by omega
        clear HB HN HT
        go_wp2
        go_ret
        exact ⟨by rw [HF'.out]; rfl, below1 _ _⟩
    · obtain rfl : k = d.1.length := by omega
      have HE : Hid (dkOk d = d.2.all (putOk d.1.length)) := by show _ = _; rw [HK2.out, all_good (f := txOk) fun j hj => HA.out j hj hj]; rfl
      go_wp2_with fail
      refine (putsOkW _ _ d.2 d.1.length _ hl2 hl1 (HR2.out.below (below1 _ _) (Nat.le_refl _))).mono ?_
      rintro e w1 ⟨rfl, hw1⟩
      subst w1
      rw [← HE.out]
      go_wp2
      go_ret
      exact ⟨rfl, below1 _ _⟩

/-! ### What is read -/
def rdTx (d : DiskD) (at' : Int) : ByteArray := (dkRead d at').getD ⟨#[]⟩
def rdOk (d : DiskD) (at' : Int) : Bool := (dkRead d at').isSome
theorem lastAt_at {l : List PutD} {at' : Int} {k : Nat} (hk : k < l.length) (h : l[k].1 = at') (hn : ∀ j (hj : j < l.length), k < j → ¬ l[j].1 = at') : lastAt l at' = some l[k].2 := by
  unfold lastAt
  have e : l.reverse.find? (fun p => decide (p.1 = at')) = some l[k] := by
    rw [List.find?_eq_some_iff_getElem]
    refine ⟨by simpa using h, l.length - 1 - k, by simp; omega, ?_, ?_⟩
    · rw [List.getElem_reverse]
      congr 1
      omega
    · intro j hj
      rw [List.getElem_reverse]
      simpa using hn (l.length - 1 - j) (by omega) (by omega)
  rw [e]; rfl
theorem lastAt_none {l : List PutD} {at' : Int} (hn : ∀ j (hj : j < l.length), ¬ l[j].1 = at') : lastAt l at' = none := by
  unfold lastAt
  rw [List.find?_eq_none.2, Option.map_none]
  intro p hp
  obtain ⟨j, hj, rfl⟩ := List.mem_iff_getElem.1 (List.mem_reverse.1 hp)
  simpa using hn j hj
theorem rd_no {d : DiskD} {at' : Int} (h : ¬ (dkOk d = true ∧ 0 ≤ at' ∧ at' ≤ (d.1.length : Int) - 1)) : rdTx d at' = ⟨#[]⟩ ∧ rdOk d at' = false := by
  unfold rdTx rdOk dkRead
  rw [if_neg h]
  exact ⟨rfl, rfl⟩
theorem rd_yes {d : DiskD} {at' : Int} (h : dkOk d = true ∧ 0 ≤ at' ∧ at' ≤ (d.1.length : Int) - 1) : rdTx d at' = (lastAt d.2 at').getD (d.1.getD at'.toNat ⟨#[]⟩) ∧ rdOk d at' = true := by
  unfold rdTx rdOk dkRead
  rw [if_pos h]
  exact ⟨rfl, rfl⟩

set_option maxRecDepth 20000 in
set_option maxHeartbeats 400000 in
theorem specSectorRead (v : Value) (d : DiskD) (at' : Int) (w : World) (hl : d.1.length ≤ 4194304 ∧ d.2.length ≤ 4194304) (hr : RdD w v d) :
    Calls Try.prog 62 #[v, .int .i64 at'] w fun e w' => e = .returned (.tuple #[.string (rdTx d at'), .bool (rdOk d at')]) ∧ Below w.heap.size w w' := by
  have hrd := hr
  obtain ⟨a, ca, b, cb, rfl, r1, r2⟩ := hr
  have hl1 := hl.1
  have hl2 := hl.2
  have HOK : Hid (∀ q, dkOk d = q → ∀ W, Below w.heap.size w W → Calls Try.prog 76 #[.agg #[.slice a d.1.length ca, .slice b d.2.length cb]] W fun e w' => e = .returned (.bool q) ∧ Below W.heap.size W w') := by
    rintro q rfl W hW
    exact specDiskOk _ d W hl (hrd.below hW (Nat.le_refl _))
  have HCS : Hid (∀ k (hk : k < d.1.length), ∃ x off, a = some ⟨x, off, none⟩ ∧ x < w.heap.size ∧ w.cell? ⟨x, off + k, none⟩ = some (.string d.1[k])) := fun k hk => r1.cellT k hk
  have HPS : Hid (∀ k (hk : k < d.2.length), ∃ x off, b = some ⟨x, off, none⟩ ∧ x < w.heap.size ∧ w.cell? ⟨x, off + k * 2, none⟩ = some (.int .i64 d.2[k].1) ∧ w.cell? ⟨x, off + k * 2 + 1, none⟩ = some (.string d.2[k].2)) := by
    intro k hk
    obtain ⟨x, off, h1, h2, h3⟩ := r2.at k hk
    exact ⟨x, off, h1, h2, h3 0 (by omega), h3 1 (by omega)⟩
  have HNO : Hid (¬ (dkOk d = true ∧ 0 ≤ at' ∧ at' ≤ (d.1.length : Int) - 1) → rdTx d at' = ⟨#[]⟩ ∧ rdOk d at' = false) := rd_no
  have HYE : Hid (dkOk d = true ∧ 0 ≤ at' ∧ at' ≤ (d.1.length : Int) - 1 → rdTx d at' = (lastAt d.2 at').getD (d.1.getD at'.toNat ⟨#[]⟩) ∧ rdOk d at' = true) := rd_yes
  clear r1 r2 hrd
  cases hok : dkOk d with
  | false =>
    have HF := HNO.out (by simp [hok])
    have HF' : Hid (rdTx d at' = ⟨#[]⟩ ∧ rdOk d at' = false) := HF
    have HOF := HOK.out false hok
    have HOF' : Hid (∀ W, Below w.heap.size w W → Calls Try.prog 76 #[.agg #[.slice a d.1.length ca, .slice b d.2.length cb]] W fun e w' => e = .returned (.bool false) ∧ Below W.heap.size W w') := HOF
    clear HF HOF
    go_enter Try.func62, Try.ntmps62
    go_wp2_with fail
    refine (HOF'.out _ (below1 _ _)).mono ?_
    rintro e w1 ⟨rfl, hb1⟩
    have hb01 : Below w.heap.size w w1 := (below1 w _).trans (hb1.mono (by simp))
    go_wp2
    go_ret2
    exact ⟨by rw [HF'.out.1, HF'.out.2]; rfl, hb01⟩
  | true =>
    have HOT : Hid (∀ W, Below w.heap.size w W → Calls Try.prog 76 #[.agg #[.slice a d.1.length ca, .slice b d.2.length cb]] W fun e w' => e = .returned (.bool true) ∧ Below W.heap.size W w') := HOK.out true hok
    go_enter Try.func62, Try.ntmps62
    go_wp2_with fail
    refine (HOT.out _ (below1 _ _)).mono ?_
    rintro e w1 ⟨rfl, hb1⟩
    have hX : Var w1 w.heap.size #[.slice a d.1.length ca, .slice b d.2.length cb] 43 := (Var.made w _ _).new hb1
    have hb01 : Below w.heap.size w w1 := (below1 w _).trans (hb1.mono (by simp))
    have hx0 := hX.cell 0
    have hx1 := hX.cell 1
    simp at hx0 hx1
    clear hX hb1 HOT HOK
    cases hin : (decide (0 ≤ at') && decide (at' ≤ (d.1.length : Int) - 1)) with
    | false =>
      have HF' : Hid (rdTx d at' = ⟨#[]⟩ ∧ rdOk d at' = false) := HNO.out (by
        rintro ⟨_, h1, h2⟩
        simp [h1, h2] at hin)
      go_wp2_with (go_at_call 36; refine (inW _ _ _ _).mono ?_; rintro e w2 ⟨rfl, hw2⟩; subst w2; rw [hin])
      go_ret2
      exact ⟨by rw [HF'.out.1, HF'.out.2]; rfl, hb01⟩
    | true =>
      have hat : 0 ≤ at' ∧ at' ≤ (d.1.length : Int) - 1 := by simpa using hin
      have HY : Hid (rdTx d at' = (lastAt d.2 at').getD (d.1.getD at'.toNat ⟨#[]⟩) ∧ rdOk d at' = true) := HYE.out ⟨hok, hat⟩
      obtain ⟨hat0, hat1⟩ := hat
      go_wp2_with (go_at_call 36; refine (inW _ _ _ _).mono ?_; rintro e w2 ⟨rfl, hw2⟩; subst w2; rw [hin])
      go_loopw [6] (fun i wr => ∃ m : Nat, m ≤ d.2.length ∧ i = .int .i64 ((m : Int) - 1) ∧ wr = w1 ∧ Hid (∀ j (hj : j < d.2.length), m ≤ j → ¬ d.2[j].1 = at')) (fun i _ => (intOf i + 1).toNat)
      case atStart => exact ⟨d.2.length, Nat.le_refl _, by go_num, rfl, fun j hj h => by omega⟩
      case round =>
        obtain ⟨m, hm, rfl, hwr, HA⟩ := hrel
        subst hwr
        by_cases h0 : m = 0
        · subst h0
          obtain ⟨x, off, rfl, hblt, hc⟩ := HCS.out at'.toNat (by omega)
          have HE : Hid (rdTx d at' = d.1[at'.toNat]'(by omega)) := by
            show _ = _
            rw [HY.out.1, lastAt_none fun j hj => HA.out j hj (by omega)]
            simp [List.getD, show at'.toNat < d.1.length by omega]
          have hcr : wr.cell? ⟨x, off + at'.toNat, none⟩ = some (.string (d.1[at'.toNat]'(by omega))) := (hb01.cell hblt).trans hc
          rw [← HE.out] at hcr
          clear HE hc HA
          generalize hz : rdTx d at' = z at *
          have HZ : Hid (rdTx d at' = z) := hz
          clear hz
          go_wp2
          go_ret2
          exact ⟨by rw [HZ.out, HY.out.2]; rfl, hb01⟩
        · obtain ⟨x, off, rfl, hblt, hc0, hc1⟩ := HPS.out (m - 1) (by omega)
          have hd0 : wr.cell? ⟨x, off + (m - 1) * 2, none⟩ = some (.int .i64 d.2[m - 1].1) := (hb01.cell hblt).trans hc0
          have hd1 : wr.cell? ⟨x, off + (m - 1) * 2 + 1, none⟩ = some (.string d.2[m - 1].2) := (hb01.cell hblt).trans hc1
          have hge : (0 : Int) ≤ (m : Int) - 1 := by omega
          clear hc0 hc1
          by_cases hq : d.2[m - 1].1 = at'
          · have HE : Hid (rdTx d at' = d.2[m - 1].2) := by
              show _ = _
              rw [HY.out.1, lastAt_at (by omega) hq fun j hj h => HA.out j hj (by omega)]
              rfl
            generalize d.2[m - 1].1 = yn at *
            generalize d.2[m - 1].2 = ys at *
            subst hq
            go_wp2
            go_ret2
            exact ⟨by rw [HE.out, HY.out.2]; rfl, hb01⟩
          · have HN : Hid (∀ j (hj : j < d.2.length), m - 1 ≤ j → ¬ d.2[j].1 = at') := by
              intro j hj h
              by_cases e : j = m - 1
              · subst e; exact hq
              · exact HA.out j hj (by omega)
            have hlen : m - 1 < d.2.length := by omega
            generalize d.2[m - 1].1 = yn at *
            generalize d.2[m - 1].2 = ys at *
            have hq2 : (yn == at') = false := by simpa using hq
            go_wp2
            go_roundw
            case rel => exact ⟨m - 1, by omega, by go_num, by trivial, HN⟩
            case measure => simp [intOf]; omega
end Go.Proofs.Ytlidmnehpcodkaa
