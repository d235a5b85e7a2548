/-
  Own texts, several together.
-/
import Derived.Test.YtlidmnehpcodkaaDoorBunA
import Derived.Deep.RegionLaw
import Derived.Laws.ResultCell
import Derived.Deep.Grids
/-
  Own text: the other program's functions on disks.
-/
namespace Go.Proofs.YtlidmnehpcodkaaDoor
open Go.RowKit

theorem all_bad {α : Type} {f : α → Bool} {l : List α} {k : Nat} (hk : k < l.length) (h : f l[k] = false) : l.all f = false := by
  rw [List.all_eq_false]
  exact ⟨l[k], List.getElem_mem hk, by simp [h]⟩
theorem all_good {α : Type} {f : α → Bool} {l : List α} (h : ∀ j (hj : j < l.length), f l[j] = true) : l.all f = true := by
  rw [List.all_eq_true]
  intro x hx
  obtain ⟨j, hj, rfl⟩ := List.mem_iff_getElem.1 hx
  exact h j hj

set_option maxRecDepth 20000 in
set_option maxHeartbeats 400000 in
theorem putsOkW (a : Option Addr) (cap : Nat) (l : List PutD) (n : Nat) (w : World) (hl : l.length ≤ 4194304) (hn : n ≤ 4194304) (hr : RdF encP 2 w a l) :
    Calls Tryd.prog 68 #[.slice a l.length cap, .int .i64 n] w fun e w' => e = .returned (.bool (l.all (putOk n))) ∧ w' = w := by
  have HCS : Hid (∀ k (hk : k < l.length), ∃ b off, a = some ⟨b, off, none⟩ ∧ b < w.heap.size ∧ w.cell? ⟨b, off + k * 2, none⟩ = some (.int .i64 l[k].1) ∧ w.cell? ⟨b, off + k * 2 + 1, none⟩ = some (.string l[k].2)) := by
    intro k hk
    obtain ⟨b, off, h1, h2, h3⟩ := hr.at k hk
    exact ⟨b, off, h1, h2, h3 0 (by omega), h3 1 (by omega)⟩
  clear hr
  go_enter Tryd.func68, Tryd.ntmps68
  go_wp2
  go_loopw [5] (fun i wr => ∃ k : Nat, k ≤ l.length ∧ i = .int .i64 k ∧ wr = w ∧ Hid (∀ j (hj : j < l.length), j < k → putOk n l[j] = true)) (fun i _ => l.length - (intOf i).toNat)
  case atStart => exact ⟨0, Nat.zero_le _, rfl, rfl, fun j hj h => by omega⟩
  case round =>
    obtain ⟨k, hk, rfl, hwr, HA⟩ := hrel
    subst hwr
    by_cases hlt : k < l.length
    · obtain ⟨b, off, rfl, hblt, hc0, hc1⟩ := HCS.out k hlt
      have HB : Hid (putOk n l[k] = false → l.all (putOk n) = false) := all_bad hlt
      have HN : Hid (putOk n l[k] = true → ∀ j (hj : j < l.length), j < k + 1 → putOk n l[j] = true) := by
        intro h j hj h2
        by_cases e : j = k
        · subst e; exact h
        · exact HA.out j hj (by omega)
      have HP : Hid (putOk n l[k] = ((decide (0 ≤ l[k].1) && decide (l[k].1 ≤ (n : Int) - 1)) && decide (l[k].2.size ≤ 90))) := rfl
      generalize l[k] = y at *
      obtain ⟨yn, ys⟩ := y
      simp only at hc0 hc1 HP
      cases hin : (decide (0 ≤ yn) && decide (yn ≤ (n : Int) - 1)) with
      | false =>
        have HF := HB.out (by rw [HP.out, hin]; rfl)
        have HF' : Hid (l.all (putOk n) = false) := HF
        clear HF HB HN HP
        go_wp2_with (go_at_call 76; refine (inW _ _ _ _).mono ?_; rintro e w1 ⟨rfl, hw1⟩; subst w1; rw [hin])
        go_ret
        exact ⟨by rw [HF'.out]; rfl, rfl⟩
      | true =>
        by_cases hsz : ys.size ≤ 90
        · have HN' : Hid (∀ j (hj : j < l.length), j < k + 1 → putOk n l[j] = true) := HN.out (by rw [HP.out, hin]; simpa using hsz)
          have hsz' : ¬ (90 : Int) < (ys.size : Int) := by omega
          clear HB HN HP
          go_wp2_with (go_at_call 76; refine (inW _ _ _ _).mono ?_; rintro e w1 ⟨rfl, hw1⟩; subst w1; rw [hin])
          go_roundw
          case rel => exact ⟨k + 1, by omega, by go_num, by trivial, HN'⟩
          case measure => simp [intOf]; omega
        · have HF' : Hid (l.all (putOk n) = false) := HB.out (by rw [HP.out, hin]; simpa using hsz)
          have hsz' : (90 : Int) < (ys.size : Int) := by omega
          clear HB HN HP
          go_wp2_with (go_at_call 76; refine (inW _ _ _ _).mono ?_; rintro e w1 ⟨rfl, hw1⟩; subst w1; rw [hin])
          go_ret
          exact ⟨by rw [HF'.out]; rfl, rfl⟩
    · obtain rfl : k = l.length := by omega
      have HE : Hid (l.all (putOk n) = true) := all_good fun j hj => HA.out j hj hj
      go_wp2
      go_ret
      exact ⟨by rw [HE.out]; rfl, rfl⟩

set_option maxRecDepth 20000 in
set_option maxHeartbeats 400000 in
theorem specDiskOk (v : Value) (d : DiskD) (w : World) (hl : d.1.length ≤ 4194304 ∧ d.2.length ≤ 4194304) (hr : RdD w v d) :
    Calls Tryd.prog 24 #[v] w fun e w' => e = .returned (.bool (dkOk d)) ∧ Below w.heap.size w w' := by
  obtain ⟨a, ca, b, cb, rfl, r1, r2⟩ := hr
  obtain ⟨hl1, hl2⟩ := hl
  have HK : Hid (dkOk d = (decide (d.1.length ≤ 120) && decide (d.2.length ≤ 400) && d.1.all txOk && d.2.all (putOk d.1.length))) := rfl
  by_cases h120 : 120 < d.1.length
  · have HF : Hid (dkOk d = false) := by show _ = _; rw [HK.out]; simp [show ¬ d.1.length ≤ 120 by omega]
    clear r1 r2 HK
    go_enter Tryd.func24, Tryd.ntmps24
    go_wp2
    go_ret
    exact ⟨by rw [HF.out]; rfl, below1 _ _⟩
  by_cases h400 : 400 < d.2.length
  · have HF : Hid (dkOk d = false) := by show _ = _; rw [HK.out]; simp [show ¬ d.2.length ≤ 400 by omega]
    clear r1 r2 HK
    go_enter Tryd.func24, Tryd.ntmps24
    go_wp2
    go_ret
    exact ⟨by rw [HF.out]; rfl, below1 _ _⟩
  have HK2 : Hid (dkOk d = (d.1.all txOk && d.2.all (putOk d.1.length))) := by
    show _ = _; rw [HK.out]; simp [show d.1.length ≤ 120 by omega, show d.2.length ≤ 400 by omega]
  have HCS : Hid (∀ k (hk : k < d.1.length), ∃ x off, a = some ⟨x, off, none⟩ ∧ x < w.heap.size ∧ w.cell? ⟨x, off + k, none⟩ = some (.string d.1[k])) := fun k hk => r1.cellT k hk
  have HR2 : Hid (RdF encP 2 w b d.2) := r2
  clear r1 r2 HK
  go_enter Tryd.func24, Tryd.ntmps24
  go_wp2
  go_loopw [3] (fun i wr => ∃ k : Nat, k ≤ d.1.length ∧ i = .int .i64 k ∧ wr = w.alloc (.cells #[.slice a d.1.length ca, .slice b d.2.length cb] 27) ∧ Hid (∀ j (hj : j < d.1.length), j < k → txOk d.1[j] = true)) (fun i _ => d.1.length - (intOf i).toNat)
  case atStart => exact ⟨0, Nat.zero_le _, rfl, rfl, fun j hj h => by omega⟩
  case round =>
    obtain ⟨k, hk, rfl, hwr, HA⟩ := hrel
    subst hwr
    by_cases hlt : k < d.1.length
    · obtain ⟨x, off, rfl, hblt, hc1⟩ := HCS.out k hlt
      have hc : (w.alloc (.cells #[.slice (some ⟨x, off, none⟩) d.1.length ca, .slice b d.2.length cb] 27)).cell? ⟨x, off + k, none⟩ = some (.string d.1[k]) := ((below1 w _).cell (by exact hblt)).trans hc1
      have HB : Hid (txOk d.1[k] = false → d.1.all txOk = false) := all_bad hlt
      have HN : Hid (txOk d.1[k] = true → ∀ j (hj : j < d.1.length), j < k + 1 → txOk d.1[j] = true) := by
        intro h j hj h2
        by_cases e : j = k
        · subst e; exact h
        · exact HA.out j hj (by omega)
      have HT : Hid (txOk d.1[k] = decide (d.1[k].size ≤ 90)) := rfl
      generalize d.1[k] = y at *
      clear hc1
      by_cases hsz : y.size ≤ 90
      · have HN' : Hid (∀ j (hj : j < d.1.length), j < k + 1 → txOk d.1[j] = true) := HN.out (by rw [HT.out]; simpa using hsz)
        have hsz' : ¬ (90 : Int) < (y.size : Int) := by omega
        clear HB HN HT
        go_wp2
        go_roundw
        case rel => exact ⟨k + 1, by omega, by go_num, by trivial, HN'⟩
        case measure => simp [intOf]; omega
      · have HF' : Hid (dkOk d = false) := by show _ = _; rw [HK2.out, HB.out (by rw [HT.out]; simpa using hsz)]; rfl
        have hsz' : (90 : Int) < (y.size : Int) := by omega
        clear HB HN HT
        go_wp2
        go_ret
        exact ⟨by rw [HF'.out]; rfl, below1 _ _⟩
    · obtain rfl : k = d.1.length := by omega
      have HE : Hid (dkOk d = d.2.all (putOk d.1.length)) := by show _ = _; rw [HK2.out, all_good (f := txOk) fun j hj => HA.out j hj hj]; rfl
      go_wp2_with fail
      refine (putsOkW _ _ d.2 d.1.length _ hl2 hl1 (HR2.out.below (below1 _ _) (Nat.le_refl _))).mono ?_
      rintro e w1 ⟨rfl, hw1⟩
      subst w1
      rw [← HE.out]
      go_wp2
      go_ret
      exact ⟨rfl, below1 _ _⟩

/-! ### What is read -/
def rdTx (d : DiskD) (at' : Int) : ByteArray := (dkRead d at').getD ⟨#[]⟩
def rdOk (d : DiskD) (at' : Int) : Bool := (dkRead d at').isSome
theorem lastAt_at {l : List PutD} {at' : Int} {k : Nat} (hk : k < l.length) (h : l[k].1 = at') (hn : ∀ j (hj : j < l.length), k < j → ¬ l[j].1 = at') : lastAt l at' = some l[k].2 := by
  unfold lastAt
  have e : l.reverse.find? (fun p => decide (p.1 = at')) = some l[k] := by
    rw [List.find?_eq_some_iff_getElem]
    refine ⟨by simpa using h, l.length - 1 - k, by simp; omega, ?_, ?_⟩
    · rw [List.getElem_reverse]
      congr 1
      omega
    · intro j hj
      rw [List.getElem_reverse]
      simpa using hn (l.length - 1 - j) (by omega) (by omega)
  rw [e]; rfl
theorem lastAt_none {l : List PutD} {at' : Int} (hn : ∀ j (hj : j < l.length), ¬ l[j].1 = at') : lastAt l at' = none := by
  unfold lastAt
  rw [List.find?_eq_none.2, Option.map_none]
  intro p hp
  obtain ⟨j, hj, rfl⟩ := List.mem_iff_getElem.1 (List.mem_reverse.1 hp)
  simpa using hn j hj
theorem rd_no {d : DiskD} {at' : Int} (h : ¬ (dkOk d = true ∧ 0 ≤ at' ∧ at' ≤ (d.1.length : Int) - 1)) : rdTx d at' = ⟨#[]⟩ ∧ rdOk d at' = false := by
  unfold rdTx rdOk dkRead
  rw [if_neg h]
  exact ⟨rfl, rfl⟩
theorem rd_yes {d : DiskD} {at' : Int} (h : dkOk d = true ∧ 0 ≤ at' ∧ at' ≤ (d.1.length : Int) - 1) : rdTx d at' = (lastAt d.2 at').getD (d.1.getD at'.toNat ⟨#[]⟩) ∧ rdOk d at' = true := by
  unfold rdTx rdOk dkRead
  rw [if_pos h]
  exact ⟨rfl, rfl⟩

set_option maxRecDepth 20000 in
set_option maxHeartbeats 400000 in
theorem specSectorRead (v : Value) (d : DiskD) (at' : Int) (w : World) (hl : d.1.length ≤ 4194304 ∧ d.2.length ≤ 4194304) (hr : RdD w v d) :
    Calls Tryd.prog 50 #[v, .int .i64 at'] w fun e w' => e = .returned (.tuple #[.string (rdTx d at'), .bool (rdOk d at')]) ∧ Below w.heap.size w w' := by
  have hrd := hr
  obtain ⟨a, ca, b, cb, rfl, r1, r2⟩ := hr
  have hl1 := hl.1
  have hl2 := hl.2
  have HOK : Hid (∀ q, dkOk d = q → ∀ W, Below w.heap.size w W → Calls Tryd.prog 24 #[.agg #[.slice a d.1.length ca, .slice b d.2.length cb]] W fun e w' => e = .returned (.bool q) ∧ Below W.heap.size W w') := by
    rintro q rfl W hW
    exact specDiskOk _ d W hl (hrd.below hW (Nat.le_refl _))
  have HCS : Hid (∀ k (hk : k < d.1.length), ∃ x off, a = some ⟨x, off, none⟩ ∧ x < w.heap.size ∧ w.cell? ⟨x, off + k, none⟩ = some (.string d.1[k])) := fun k hk => r1.cellT k hk
  have HPS : Hid (∀ k (hk : k < d.2.length), ∃ x off, b = some ⟨x, off, none⟩ ∧ x < w.heap.size ∧ w.cell? ⟨x, off + k * 2, none⟩ = some (.int .i64 d.2[k].1) ∧ w.cell? ⟨x, off + k * 2 + 1, none⟩ = some (.string d.2[k].2)) := by
    intro k hk
    obtain ⟨x, off, h1, h2, h3⟩ := r2.at k hk
    exact ⟨x, off, h1, h2, h3 0 (by omega), h3 1 (by omega)⟩
  have HNO : Hid (¬ (dkOk d = true ∧ 0 ≤ at' ∧ at' ≤ (d.1.length : Int) - 1) → rdTx d at' = ⟨#[]⟩ ∧ rdOk d at' = false) := rd_no
  have HYE : Hid (dkOk d = true ∧ 0 ≤ at' ∧ at' ≤ (d.1.length : Int) - 1 → rdTx d at' = (lastAt d.2 at').getD (d.1.getD at'.toNat ⟨#[]⟩) ∧ rdOk d at' = true) := rd_yes
  clear r1 r2 hrd
  cases hok : dkOk d with
  | false =>
    have HF := HNO.out (by simp [hok])
    have HF' : Hid (rdTx d at' = ⟨#[]⟩ ∧ rdOk d at' = false) := HF
    have HOF := HOK.out false hok
    have HOF' : Hid (∀ W, Below w.heap.size w W → Calls Tryd.prog 24 #[.agg #[.slice a d.1.length ca, .slice b d.2.length cb]] W fun e w' => e = .returned (.bool false) ∧ Below W.heap.size W w') := HOF
    clear HF HOF
    go_enter Tryd.func50, Tryd.ntmps50
    go_wp2_with fail
    refine (HOF'.out _ (below1 _ _)).mono ?_
    rintro e w1 ⟨rfl, hb1⟩
    have hb01 : Below w.heap.size w w1 := (below1 w _).trans (hb1.mono (by simp))
    go_wp2
    go_ret2
    exact ⟨by rw [HF'.out.1, HF'.out.2]; rfl, hb01⟩
  | true =>
    have HOT : Hid (∀ W, Below w.heap.size w W → Calls Tryd.prog 24 #[.agg #[.slice a d.1.length ca, .slice b d.2.length cb]] W fun e w' => e = .returned (.bool true) ∧ Below W.heap.size W w') := HOK.out true hok
    go_enter Tryd.func50, Tryd.ntmps50
    go_wp2_with fail
    refine (HOT.out _ (below1 _ _)).mono ?_
    rintro e w1 ⟨rfl, hb1⟩
    have hX : Var w1 w.heap.size #[.slice a d.1.length ca, .slice b d.2.length cb] 27 := (Var.made w _ _).new hb1
    have hb01 : Below w.heap.size w w1 := (below1 w _).trans (hb1.mono (by simp))
    have hx0 := hX.cell 0
    have hx1 := hX.cell 1
    simp at hx0 hx1
    clear hX hb1 HOT HOK
    cases hin : (decide (0 ≤ at') && decide (at' ≤ (d.1.length : Int) - 1)) with
    | false =>
      have HF' : Hid (rdTx d at' = ⟨#[]⟩ ∧ rdOk d at' = false) := HNO.out (by
        rintro ⟨_, h1, h2⟩
        simp [h1, h2] at hin)
      go_wp2_with (go_at_call 76; refine (inW _ _ _ _).mono ?_; rintro e w2 ⟨rfl, hw2⟩; subst w2; rw [hin])
      go_ret2
      exact ⟨by rw [HF'.out.1, HF'.out.2]; rfl, hb01⟩
    | true =>
      have hat : 0 ≤ at' ∧ at' ≤ (d.1.length : Int) - 1 := by simpa using hin
      have HY : Hid (rdTx d at' = (lastAt d.2 at').getD (d.1.getD at'.toNat ⟨#[]⟩) ∧ rdOk d at' = true) := HYE.out ⟨hok, hat⟩
      obtain ⟨hat0, hat1⟩ := hat
      go_wp2_with (go_at_call 76; refine (inW _ _ _ _).mono ?_; rintro e w2 ⟨rfl, hw2⟩; subst w2; rw [hin])
      go_loopw [6] (fun i wr => ∃ m : Nat, m ≤ d.2.length ∧ i = .int .i64 ((m : Int) - 1) ∧ wr = w1 ∧ Hid (∀ j (hj : j < d.2.length), m ≤ j → ¬ d.2[j].1 = at')) (fun i _ => (intOf i + 1).toNat)
      case atStart => exact ⟨d.2.length, Nat.le_refl _, by go_num, rfl, fun j hj h => by omega⟩
      case round =>
        obtain ⟨m, hm, rfl, hwr, HA⟩ := hrel
        subst hwr
        by_cases h0 : m = 0
        · subst h0
          obtain ⟨x, off, rfl, hblt, hc⟩ := HCS.out at'.toNat (by omega)
          have HE : Hid (rdTx d at' = d.1[at'.toNat]'(by omega)) := by
            show _ = _
            rw [HY.out.1, lastAt_none fun j hj => HA.out j hj (by omega)]
            simp [List.getD, show at'.toNat < d.1.length by omega]
          have hcr : wr.cell? ⟨x, off + at'.toNat, none⟩ = some (.string (d.1[at'.toNat]'(by omega))) := (hb01.cell hblt).trans hc
          rw [← HE.out] at hcr
          clear HE hc HA
          generalize hz : rdTx d at' = z at *
          have HZ : Hid (rdTx d at' = z) := hz
          clear hz
          go_wp2
          go_ret2
          exact ⟨by rw [HZ.out, HY.out.2]; rfl, hb01⟩
        · obtain ⟨x, off, rfl, hblt, hc0, hc1⟩ := HPS.out (m - 1) (by omega)
          have hd0 : wr.cell? ⟨x, off + (m - 1) * 2, none⟩ = some (.int .i64 d.2[m - 1].1) := (hb01.cell hblt).trans hc0
          have hd1 : wr.cell? ⟨x, off + (m - 1) * 2 + 1, none⟩ = some (.string d.2[m - 1].2) := (hb01.cell hblt).trans hc1
          have hge : (0 : Int) ≤ (m : Int) - 1 := by omega
          clear hc0 hc1
          by_cases hq : d.2[m - 1].1 = at'
          · have HE : Hid (rdTx d at' = d.2[m - 1].2) := by
              show _ = _
              rw [HY.out.1, lastAt_at (by omega) hq fun j hj h => HA.out j hj (by omega)]
              rfl
            generalize d.2[m - 1].1 = yn at *
            generalize d.2[m - 1].2 = ys at *
            subst hq
            go_wp2
            go_ret2
            exact ⟨by rw [HE.out, HY.out.2]; rfl, hb01⟩
          · have HN : Hid (∀ j (hj : j < d.2.length), m - 1 ≤ j → ¬ d.2[j].1 = at') := by
              intro j hj h
              by_cases e : j = m - 1
              · subst e; exact hq
              · exact HA.out j hj (by omega)
            have hlen : m - 1 < d.2.length := by omega
            generalize d.2[m - 1].1 = yn at *
            generalize d.2[m - 1].2 = ys at *
            have hq2 : (yn == at') = false := by simpa using hq
            go_wp2
            go_roundw
            case rel => exact ⟨m - 1, by omega, by go_num, by trivial, HN⟩
            case measure => simp [intOf]; omega
end Go.Proofs.YtlidmnehpcodkaaDoor

/-
  Own text: whether two disks are the same, and a new one: the other program's.
-/
namespace Go.Proofs.YtlidmnehpcodkaaDoor
open Go.RowKit

theorem bytes_ne {a b : ByteArray} (h : ¬ a = b) : (a.toList == b.toList) = false := by
  rw [beq_eq_false_iff_ne]
  intro e
  rw [ByteArray.toList_eq, ByteArray.toList_eq] at e
  exact h (Go.WideShapes.bytes_inj e)

set_option maxRecDepth 20000 in
set_option maxHeartbeats 400000 in
theorem textsE (a c : Option Addr) (ca cc : Nat) (l m : List ByteArray) (w : World) (hl : l.length ≤ 4194304) (hr : RdS w a l) (hs : RdS w c m) :
    Calls Tryd.prog 54 #[.slice a l.length ca, .slice c m.length cc] w fun e w' => e = .returned (.bool (decide (l = m))) ∧ Below w.heap.size w w' := by
  by_cases hne : l.length = m.length
  · have HCS : Hid (∀ k, k < l.length → ∃ b off x, a = some ⟨b, off, none⟩ ∧ b < w.heap.size ∧ w.cell? ⟨b, off + k, none⟩ = some (.string x) ∧ l[k]? = some x) := by
      intro k hk
      obtain ⟨b, off, h1, h2, h3⟩ := hr.cellT k (by omega)
      exact ⟨b, off, _, h1, h2, h3, by simp [hk]⟩
    have HDS : Hid (∀ k, k < l.length → ∃ b off x, c = some ⟨b, off, none⟩ ∧ b < w.heap.size ∧ w.cell? ⟨b, off + k, none⟩ = some (.string x) ∧ m[k]? = some x) := by
      intro k hk
      obtain ⟨b, off, h1, h2, h3⟩ := hs.cellT k (by omega)
      exact ⟨b, off, _, h1, h2, h3, by simp [show k < m.length by omega]⟩
    have HLM : Hid (l.length = m.length) := hne
    clear hr hs
    rw [← hne]
    clear hne
    generalize hn : l.length = n at *
    have HLN : Hid (l.length = n) := hn
    clear hn
    go_enter Tryd.func54, Tryd.ntmps54
    go_wp2
    go_loopw [5] (fun i wr => ∃ k : Nat, k ≤ n ∧ i = .int .i64 k ∧ Below w.heap.size w wr ∧ Hid (∀ j, j < k → l[j]? = m[j]?)) (fun i _ => n - (intOf i).toNat)
    case atStart => exact ⟨0, Nat.zero_le _, rfl, Below.refl _ _, fun j h => by omega⟩
    case round =>
      obtain ⟨k, hk, rfl, hbel, HA⟩ := hrel
      by_cases hlt : k < n
      · obtain ⟨b, off, x, rfl, hblt, hcell, hx⟩ := HCS.out k hlt
        obtain ⟨d, off2, y, rfl, hdlt, hcell2, hy⟩ := HDS.out k hlt
        have hcr : wr.cell? ⟨b, off + k, none⟩ = some (.string x) := (hbel.cell hblt).trans hcell
        have hdr : wr.cell? ⟨d, off2 + k, none⟩ = some (.string y) := (hbel.cell hdlt).trans hcell2
        have HX : Hid (l[k]? = some x) := hx
        have HY : Hid (m[k]? = some y) := hy
        clear hcell hcell2 hx hy
        by_cases hxy : x = y
        · have HT2 : Hid (∀ j, j < k + 1 → l[j]? = m[j]?) := by
            intro j hj
            by_cases e : j = k
            · subst e; rw [HX.out, HY.out, hxy]
            · exact HA.out j (by omega)
          subst hxy
          clear HX HY HA
          go_wp2
          go_region
          all_goals (go_wp2)
          all_goals go_roundw
          case rel => exact ⟨k + 1, by omega, by go_num, hbel.drew, HT2⟩
          case measure => simp [intOf]; omega
        · have hxl := bytes_ne hxy
          have HF' : Hid (¬ l = m) := by
            intro e
            have := HX.out
            rw [e, HY.out] at this
            exact hxy (Option.some.inj this).symm
          clear HX HY HA hxy
          go_wp2
          go_region
          all_goals (go_wp2)
          all_goals go_ret
          all_goals exact ⟨by simp [HF'.out], hbel.drew⟩
      · obtain rfl : k = n := by omega
        have HE : Hid (l = m) := by
          show _ = _
          apply List.ext_getElem?
          intro j
          by_cases hj : j < k
          · exact HA.out j hj
          · rw [List.getElem?_eq_none (by have := HLN.out; omega), List.getElem?_eq_none (by have := HLN.out; have := HLM.out; omega)]
        go_wp2
        go_ret
        exact ⟨by simp [HE.out], hbel⟩
  · have HF : Hid (¬ l = m) := fun e => hne (by rw [e])
    have hne' : ¬ (l.length : Int) = (m.length : Int) := by omega
    clear hr hs
    generalize l.length = n at *
    generalize m.length = n' at *
    go_enter Tryd.func54, Tryd.ntmps54
    go_wp2
    go_ret
    exact ⟨by simp [HF.out], Below.refl _ _⟩

set_option maxRecDepth 20000 in
set_option maxHeartbeats 400000 in
theorem putsE (a c : Option Addr) (ca cc : Nat) (l m : List PutD) (w : World) (hl : l.length ≤ 4194304) (hr : RdF encP 2 w a l) (hs : RdF encP 2 w c m) :
    Calls Tryd.prog 55 #[.slice a l.length ca, .slice c m.length cc] w fun e w' => e = .returned (.bool (decide (l = m))) ∧ Below w.heap.size w w' := by
  by_cases hne : l.length = m.length
  · have HCS : Hid (∀ k, k < l.length → ∃ b off x, a = some ⟨b, off, none⟩ ∧ b < w.heap.size ∧ w.cell? ⟨b, off + k * 2, none⟩ = some (.int .i64 x.1) ∧ w.cell? ⟨b, off + k * 2 + 1, none⟩ = some (.string x.2) ∧ l[k]? = some x) := by
      intro k hk
      obtain ⟨b, off, h1, h2, h3⟩ := hr.at k (by omega)
      exact ⟨b, off, l[k], h1, h2, h3 0 (by omega), h3 1 (by omega), by simp [hk]⟩
    have HDS : Hid (∀ k, k < l.length → ∃ b off x, c = some ⟨b, off, none⟩ ∧ b < w.heap.size ∧ w.cell? ⟨b, off + k * 2, none⟩ = some (.int .i64 x.1) ∧ w.cell? ⟨b, off + k * 2 + 1, none⟩ = some (.string x.2) ∧ m[k]? = some x) := by
      intro k hk
      obtain ⟨b, off, h1, h2, h3⟩ := hs.at k (by omega)
      exact ⟨b, off, m[k], h1, h2, h3 0 (by omega), h3 1 (by omega), by simp [show k < m.length by omega]⟩
    have HLM : Hid (l.length = m.length) := hne
    clear hr hs
    rw [← hne]
    clear hne
    generalize hn : l.length = n at *
    have HLN : Hid (l.length = n) := hn
    clear hn
    go_enter Tryd.func55, Tryd.ntmps55
    go_wp2
    go_loopw [5] (fun i wr => ∃ k : Nat, k ≤ n ∧ i = .int .i64 k ∧ Below w.heap.size w wr ∧ Hid (∀ j, j < k → l[j]? = m[j]?)) (fun i _ => n - (intOf i).toNat)
    case atStart => exact ⟨0, Nat.zero_le _, rfl, Below.refl _ _, fun j h => by omega⟩
    case round =>
      obtain ⟨k, hk, rfl, hbel, HA⟩ := hrel
      by_cases hlt : k < n
      · obtain ⟨b, off, x, rfl, hblt, hc0, hc1, hx⟩ := HCS.out k hlt
        obtain ⟨d, off2, y, rfl, hdlt, hd0, hd1, hy⟩ := HDS.out k hlt
        have hcr0 : wr.cell? ⟨b, off + k * 2, none⟩ = some (.int .i64 x.1) := (hbel.cell hblt).trans hc0
        have hcr1 : wr.cell? ⟨b, off + k * 2 + 1, none⟩ = some (.string x.2) := (hbel.cell hblt).trans hc1
        have hdr0 : wr.cell? ⟨d, off2 + k * 2, none⟩ = some (.int .i64 y.1) := (hbel.cell hdlt).trans hd0
        have hdr1 : wr.cell? ⟨d, off2 + k * 2 + 1, none⟩ = some (.string y.2) := (hbel.cell hdlt).trans hd1
        have HX : Hid (l[k]? = some x) := hx
        have HY : Hid (m[k]? = some y) := hy
        clear hc0 hc1 hd0 hd1 hx hy
        by_cases hxy : x = y
        · have HT2 : Hid (∀ j, j < k + 1 → l[j]? = m[j]?) := by
            intro j hj
            by_cases e : j = k
            · subst e; rw [HX.out, HY.out, hxy]
            · exact HA.out j (by omega)
          subst hxy
          clear HX HY HA
          obtain ⟨xn, xs⟩ := x
          simp only at hcr0 hcr1 hdr0 hdr1
          go_wp2
          go_region
          all_goals (go_wp2)
          all_goals go_roundw
          case rel => exact ⟨k + 1, by omega, by go_num, hbel.drew, HT2⟩
          case measure => simp [intOf]; omega
        · have HF' : Hid (¬ l = m) := by
            intro e
            have := HX.out
            rw [e, HY.out] at this
            exact hxy (Option.some.inj this).symm
          clear HX HY HA
          obtain ⟨xn, xs⟩ := x
          obtain ⟨yn, ys⟩ := y
          simp only at hcr0 hcr1 hdr0 hdr1
          by_cases hn0 : xn = yn
          · have hxl := bytes_ne (a := xs) (b := ys) (fun e => hxy (by rw [hn0, e]))
            subst hn0
            clear hxy
            go_wp2
            go_region
            all_goals (go_wp2)
            all_goals go_ret
            all_goals exact ⟨by simp [HF'.out], hbel.drew⟩
          · have hnl : (xn == yn) = false := by simpa using hn0
            clear hxy
            go_wp2
            go_region
            all_goals (go_wp2)
            all_goals go_ret
            all_goals exact ⟨by simp [HF'.out], hbel.drew⟩
      · obtain rfl : k = n := by omega
        have HE : Hid (l = m) := by
          show _ = _
          apply List.ext_getElem?
          intro j
          by_cases hj : j < k
          · exact HA.out j hj
          · rw [List.getElem?_eq_none (by have := HLN.out; omega), List.getElem?_eq_none (by have := HLN.out; have := HLM.out; omega)]
        go_wp2
        go_ret
        exact ⟨by simp [HE.out], hbel⟩
  · have HF : Hid (¬ l = m) := fun e => hne (by rw [e])
    have hne' : ¬ (l.length : Int) = (m.length : Int) := by omega
    clear hr hs
    generalize l.length = n at *
    generalize m.length = n' at *
    go_enter Tryd.func55, Tryd.ntmps55
    go_wp2
    go_ret
    exact ⟨by simp [HF.out], Below.refl _ _⟩

/-- Are two disks the same? -/
def dkSame (d e : DiskD) : Bool := decide (d.1 = e.1) && decide (d.2 = e.2)
theorem dkSame_refl (d : DiskD) : dkSame d d = true := by simp [dkSame]

set_option maxRecDepth 20000 in
set_option maxHeartbeats 400000 in
theorem specDiskSame (v u : Value) (d e : DiskD) (w : World) (hl : d.1.length ≤ 4194304 ∧ d.2.length ≤ 4194304) (hr : RdD w v d) (hs : RdD w u e) :
    Calls Tryd.prog 15 #[v, u] w fun r w' => r = .returned (.bool (dkSame d e)) ∧ Below w.heap.size w w' := by
  obtain ⟨a, ca, b, cb, rfl, r1, r2⟩ := hr
  obtain ⟨a', ca', b', cb', rfl, r1', r2'⟩ := hs
  have HR : Hid (RdS w a d.1 ∧ RdF encP 2 w b d.2 ∧ RdS w a' e.1 ∧ RdF encP 2 w b' e.2) := ⟨r1, r2, r1', r2'⟩
  have HSM : Hid (dkSame d e = (decide (d.1 = e.1) && decide (d.2 = e.2))) := rfl
  have HT : Hid (∀ q, decide (d.1 = e.1) = q → ∀ W, Below w.heap.size w W → Calls Tryd.prog 54 #[.slice a d.1.length ca, .slice a' e.1.length ca'] W fun r w' => r = .returned (.bool q) ∧ Below W.heap.size W w') := by
    rintro q rfl W hW
    exact textsE a a' ca ca' d.1 e.1 W hl.1 (r1.below hW (Nat.le_refl _)) (r1'.below hW (Nat.le_refl _))
  have HP : Hid (∀ q, decide (d.2 = e.2) = q → ∀ W, Below w.heap.size w W → Calls Tryd.prog 55 #[.slice b d.2.length cb, .slice b' e.2.length cb'] W fun r w' => r = .returned (.bool q) ∧ Below W.heap.size W w') := by
    rintro q rfl W hW
    exact putsE b b' cb cb' d.2 e.2 W hl.2 (r2.below hW (Nat.le_refl _)) (r2'.below hW (Nat.le_refl _))
  obtain ⟨hl1, hl2⟩ := hl
  clear r1 r2 r1' r2'
  obtain ⟨q1, hq1⟩ : ∃ q, decide (d.1 = e.1) = q := ⟨_, rfl⟩
  obtain ⟨q2, hq2⟩ : ∃ q, decide (d.2 = e.2) = q := ⟨_, rfl⟩
  have HT' : Hid (∀ W, Below w.heap.size w W → Calls Tryd.prog 54 #[.slice a d.1.length ca, .slice a' e.1.length ca'] W fun r w' => r = .returned (.bool q1) ∧ Below W.heap.size W w') := HT.out q1 hq1
  have HP' : Hid (∀ W, Below w.heap.size w W → Calls Tryd.prog 55 #[.slice b d.2.length cb, .slice b' e.2.length cb'] W fun r w' => r = .returned (.bool q2) ∧ Below W.heap.size W w') := HP.out q2 hq2
  have HSQ : Hid (dkSame d e = (q1 && q2)) := by show _ = _; rw [HSM.out, hq1, hq2]
  clear hq1 hq2 HT HP HSM HR
  go_enter Tryd.func15, Tryd.ntmps15
  go_wp2_with fail
  refine (HT'.out _ (below2 _ _ _)).mono ?_
  rintro r w1 ⟨rfl, hb1⟩
  have hX : Var w1 w.heap.size #[.slice a d.1.length ca, .slice b d.2.length cb] 27 := ((Var.made w _ _).alloc _).new hb1
  have hY : Var w1 (w.heap.size + 1) #[.slice a' e.1.length ca', .slice b' e.2.length cb'] 27 := (Var.made2 w _ _ _).new hb1
  have hb01 : Below w.heap.size w w1 := (below2 w _ _).trans (hb1.mono (by simp; omega))
  have hx1 := hX.cell 1
  have hy1 := hY.cell 1
  clear hX hY hb1
  simp at hx1 hy1
  cases q1 with
  | false =>
    go_wp2
    go_ret
    exact ⟨by rw [HSQ.out]; rfl, hb01⟩
  | true =>
    go_wp2_with fail
    refine (HP'.out _ hb01).mono ?_
    rintro r w2 ⟨rfl, hb2⟩
    go_wp2
    go_ret
    exact ⟨by rw [HSQ.out]; rfl, hb01.trans (hb2.mono hb01.size)⟩
end Go.Proofs.YtlidmnehpcodkaaDoor

/-
  Own text: a copy of a disk, as the other program makes it: both rows made anew, in whatever order.
-/
namespace Go.Proofs.YtlidmnehpcodkaaDoor
open Go.RowKit

section
variable {P : Program} (w : World)
/-- append onto a row of the call's own, from whatever source, as one step of a region that draws. -/
theorem step_own_src {ops : Array Oper} {o : Oper} {a : Act} {K : Act → World → Prop} {Q : Exit → Act → World → Prop} {E : Prop} (hgd : o.guard = none) (s x : Operand) (t tx : TypeId)
    (ho : o.op = .call { callee := .builtin .append, args := #[s, x], argTypes := #[t, tx] })
    (base : Nat) (e : TypeId) (i : TypeInfo) (z : Value) (size bytes : Nat) (ht : P.underlying t = some (.slice e)) (hi : P.info? e = some i) (hz : i.zero = some z)
    (hsize : i.size = size) (hby : i.bytes = bytes) (hzs : z.cells.size = size)
    (v : Value) (n : Nat) (xs : List Value) (xv : Value) (m : Nat) (news : List Value) (h63 : n + m ≤ maxLen) (hbytes : (n + m) * bytes ≤ 140737488355328)
    (hs : a.eval s = v) (hx : a.eval x = xv) (hown : w.ownsRow base e size v n xs) (hsrc : Src P size tx xv m news w) (hbase : base ≤ w.heap.size)
    (h : ∀ v' w', w'.ownsRow base e size v' (n + m) (xs ++ news) → w.grownBy w' v.ownBlock → K (a.put o.dst v') w') :
    if Region.wanted o (yielded ops a.tmps) = true then Oper.wp P o a w K Q else E := by
  have hw : Region.wanted o (yielded ops a.tmps) = true := by simp [Region.wanted, hgd]
  rw [if_pos hw]
  obtain ⟨v', w', hr, h2, h3⟩ := run_append_own_src (P := P) w base t tx o.type e i z size bytes ht hi hz hsize hby hzs v n xs hown xv m news hsrc h63 hbytes hbase
  unfold Oper.wp execOp
  simp only [ho, resolve, invoke, builtin, Sem.run_bind, Sem.run_pure, Result.andThen_ok, List.map_toArray, List.map_cons, List.map_nil, hs, hx, hr]
  exact h v' w' h2 h3
end

/-- Texts as a source. -/
theorem src_txt {w : World} {a : Option Addr} {l : List ByteArray} (cap : Nat) (h : RdS w a l) : Src Tryd.prog 1 24 (.slice a l.length cap) l.length (l.map Value.string) w := by
  cases a with
  | none =>
    rcases h with rfl | ⟨b, off, h, _⟩
    · exact Src.ofNil w Tryd.underlying24 cap
    · cases h
  | some x =>
    refine Src.ofSlice w Tryd.underlying24 x l.length cap _ (by simp) ?_ ?_
    · intro j u hj
      rcases h with rfl | ⟨b, off, h, hlt, hc⟩
      · simp at hj
      · cases h
        rw [List.getElem?_map] at hj
        obtain ⟨y, hy, rfl⟩ := Option.map_eq_some_iff.1 hj
        obtain ⟨hj', rfl⟩ := List.getElem?_eq_some_iff.1 hy
        have := hc j hj'
        rw [Go.WideShapes.add_plain]
        exact this
    · intro u hu
      obtain ⟨y, _, rfl⟩ := List.mem_map.1 hu
      rfl
/-- Writes as a source. -/
theorem src_puts {w : World} {a : Option Addr} {l : List PutD} (cap : Nat) (h : RdF encP 2 w a l) : Src Tryd.prog 2 25 (.slice a l.length cap) l.length (l.flatMap encP) w := by
  cases a with
  | none =>
    rcases h with rfl | ⟨b, off, h, _⟩
    · exact Src.ofNil w Tryd.underlying25 cap
    · cases h
  | some x =>
    refine Src.ofSlice w Tryd.underlying25 x l.length cap _ (flat_len_c encP_len l) ?_ ?_
    · intro j u hj
      rcases h with rfl | ⟨b, off, h, hlt, hc⟩
      · simp at hj
      · cases h
        have hjl : j < l.length * 2 := by have := (List.getElem?_eq_some_iff.1 hj).1; rw [flat_len_c encP_len] at this; exact this
        have e := flat_get encP_len l (j / 2) (by omega) (j % 2) (by omega)
        rw [show j / 2 * 2 + j % 2 = j by omega, hj] at e
        have := hc (j / 2) (by omega) (j % 2) (by omega)
        rw [Go.WideShapes.add_plain, show off + j = off + j / 2 * 2 + j % 2 by omega, this, ← e]
    · intro u hu
      obtain ⟨y, _, hy⟩ := List.mem_flatMap.1 hu
      simp [encP] at hy
      rcases hy with rfl | rfl <;> rfl

set_option maxRecDepth 20000 in
set_option maxHeartbeats 400000 in
theorem copyT (a : Option Addr) (cap : Nat) (l : List ByteArray) (w : World) (hl : l.length ≤ 4194305) (hr : RdS w a l) :
    Calls Tryd.prog 103 #[.slice a l.length cap] w fun e w' => ∃ v, e = .returned v ∧ w'.ownsRow w.heap.size 9 1 v l.length (l.map Value.string) ∧ Below w.heap.size w w' := by
  obtain ⟨i0, hi, hz0, hz1, hz2⟩ := info_parts Tryd.infoTxt
  have ho0 : (w.alloc (.cells #[] 9)).ownsRow w.heap.size 9 1 (.slice (some ⟨w.heap.size, 0, none⟩) 0 0) 0 [] := World.ownsRow_made w #[] 0 (Nat.le_refl _) (Nat.zero_le _) rfl
  have hb0 : Below w.heap.size w (w.alloc (.cells #[] 9)) := (Below.refl _ _).alloc (Nat.le_refl _) _
  have HR : Hid (RdS (w.alloc (.cells #[] 9)) a l) := hr.below hb0 (Nat.le_refl _)
  clear hr
  go_enter Tryd.func103, Tryd.ntmps103
  go_wp2_with (at_builtin; refine wpList_append_own_src _ rfl _ _ 24 24 rfl w.heap.size 9 i0 (.string ⟨#[]⟩) 1 16 Tryd.underlying24 hi hz0 hz1 hz2 rfl _ _ _ rfl ho0 _ l.length (l.map Value.string) rfl (src_txt cap HR.out) (by unfold maxLen; omega) (by omega) hb0.size ?_)
  intro v' w2 ho2 hg2
  have hb2 : Below w.heap.size w w2 := hb0.grown hg2 hb0.size (fun k hk => (ho0.lt k hk).1)
  clear hg2
  go_wp2
  go_ret
  exact ⟨_, rfl, by simpa using ho2, hb2⟩

set_option maxRecDepth 20000 in
set_option maxHeartbeats 2000000 in
theorem copyD (v : Value) (d : DiskD) (w : World) (hl : d.1.length ≤ 4194304 ∧ d.2.length ≤ 4194304) (hr : RdD w v d) :
    Calls Tryd.prog 63 #[v] w fun e w' => ∃ v', e = .returned v' ∧ OwnD w' w.heap.size v' d ∧ Below w.heap.size w w' := by
  obtain ⟨a, ca, b, cb, rfl, r1, r2⟩ := hr
  obtain ⟨hl1, hl2⟩ := hl
  obtain ⟨i0, hi, hz0, hz1, hz2⟩ := info_parts Tryd.infoPut
  go_enter Tryd.func63, Tryd.ntmps63
  go_wp2_with fail
  have hX0 : Var ((w.alloc (.cells #[.slice a d.1.length ca, .slice b d.2.length cb] 27)).alloc (.cells #[.slice none 0 0, .slice none 0 0] 27)).drew w.heap.size #[.slice a d.1.length ca, .slice b d.2.length cb] 27 := (Var.made w _ _).alloc _
  have hR0 : Var ((w.alloc (.cells #[.slice a d.1.length ca, .slice b d.2.length cb] 27)).alloc (.cells #[.slice none 0 0, .slice none 0 0] 27)).drew (w.heap.size + 1) #[.slice none 0 0, .slice none 0 0] 27 := Var.made2 w _ _ _
  have hb0 : Below w.heap.size w ((w.alloc (.cells #[.slice a d.1.length ca, .slice b d.2.length cb] 27)).alloc (.cells #[.slice none 0 0, .slice none 0 0] 27)).drew := (below2 w _ _).drew
  have hs0 : w.heap.size + 2 ≤ ((w.alloc (.cells #[.slice a d.1.length ca, .slice b d.2.length cb] 27)).alloc (.cells #[.slice none 0 0, .slice none 0 0] 27)).drew.heap.size := hR0.lt
  have HRS : Hid (∀ X, Below w.heap.size w X → RdS X a d.1) := fun X h => r1.below h (Nat.le_refl _)
  have HRP : Hid (∀ X, Below w.heap.size w X → RdF encP 2 X b d.2) := fun X h => r2.below h (Nat.le_refl _)
  clear r1 r2
  generalize (w.alloc (.cells #[.slice a d.1.length ca, .slice b d.2.length cb] 27)).alloc (.cells #[.slice none 0 0, .slice none 0 0] 27) = W0 at *
  have hx0 := hX0.cell 0
  have hx1 := hX0.cell 1
  have hXa : Var (W0.alloc (.cells #[] 39)).drew w.heap.size #[.slice a d.1.length ca, .slice b d.2.length cb] 27 := hX0.alloc (.cells #[] 39)
  have hRa : Var (W0.alloc (.cells #[] 39)).drew (w.heap.size + 1) #[.slice none 0 0, .slice none 0 0] 27 := hR0.alloc (.cells #[] 39)
  have hy0 := hXa.cell 0
  have hy1 := hXa.cell 1
  have hba : Below w.heap.size w (W0.alloc (.cells #[] 39)).drew := hb0.alloc hb0.size _
  have hoE : (W0.alloc (.cells #[] 39)).drew.ownsRow (w.heap.size + 2) 39 2 (.slice (some ⟨W0.heap.size, 0, none⟩) 0 0) 0 [] := World.ownsRow_made W0.drew #[] 0 hs0 (Nat.zero_le _) rfl
  have HX0 : Hid (Var W0.drew w.heap.size #[.slice a d.1.length ca, .slice b d.2.length cb] 27) := hX0
  have HR0 : Hid (Var W0.drew (w.heap.size + 1) #[.slice none 0 0, .slice none 0 0] 27) := hR0
  have HXa : Hid (Var (W0.alloc (.cells #[] 39)).drew w.heap.size #[.slice a d.1.length ca, .slice b d.2.length cb] 27) := hXa
  have HRa : Hid (Var (W0.alloc (.cells #[] 39)).drew (w.heap.size + 1) #[.slice none 0 0, .slice none 0 0] 27) := hRa
  have HoE : Hid ((W0.alloc (.cells #[] 39)).drew.ownsRow (w.heap.size + 2) 39 2 (.slice (some ⟨W0.heap.size, 0, none⟩) 0 0) 0 []) := hoE
  clear hX0 hR0 hXa hRa hoE
  simp at hx0 hx1 hy0 hy1
  go_region_law (first
    | (refine step_own_src (w2.alloc (.cells #[] 39)) rfl (.tmp 6) (.tmp 8) 25 25 rfl (w.heap.size + 2) 39 i0 (.agg #[.int .i64 0, .string ⟨#[]⟩]) 2 24 Tryd.underlying25 hi hz0 hz1 hz2 rfl (.slice (some ⟨w2.heap.size, 0, none⟩) 0 0) 0 [] (.slice b d.2.length cb) d.2.length (d.2.flatMap encP) ?_ ?_ ?_ ?_ hoEa (src_puts cb (HRP.out _ (hw2.alloc hw2.size _))) (Nat.le_trans hs2 (by simp)) ?_
       · unfold maxLen; omega
       · omega
       · simp [Act.eval]
       · simp [Act.eval]
       intro v3 w3 ho3 hg3
       obtain ⟨a3, c3, rfl, _, _⟩ := own_rdF encP_len (l := d.2) ho3 (by simp)
       have HoP : Hid (w3.ownsRow (w.heap.size + 2) 39 2 (.slice a3 (0 + d.2.length) c3) (0 + d.2.length) ([] ++ d.2.flatMap encP)) := ho3
       have HoS : Hid (w3.ownsRow (w.heap.size + 2) 9 1 (.slice a1 d.1.length c1) d.1.length (d.1.map Value.string)) := own_only (hoS.alloc _) (Only.of_grown hg3) (fun k hk h => own_apart (hoS.alloc _) hoEa (by decide) k hk h)
       have hgb : Below (w.heap.size + 2) (w2.alloc (.cells #[] 39)) w3 := (Below.refl _ _).grown hg3 (Nat.le_trans hs2 (by simp)) (fun k hk => (hoEa.lt k hk).1)
       have hR3 : Var w3 (w.heap.size + 1) #[.slice none 0 0, .slice none 0 0] 27 := (hR2.alloc _).below hgb (by omega)
       have hbF : Below w.heap.size w w3 := (hw2.alloc hw2.size _).trans (hgb.mono (by omega))
       have hv0 := hR3.cell 0
       have hv1 := (hR3.set 0 (.slice a1 d.1.length c1)).cell 1
       have hf0 := hR3.frozen 0
       have hf1 := hR3.frozen 1
       simp at hv0 hv1
       have HR3 : Hid (Var w3 (w.heap.size + 1) #[.slice none 0 0, .slice none 0 0] 27) := hR3
       clear ho3 hg3 hgb hR3)
    | (refine step_own_src w2 rfl (.tmp 6) (.tmp 8) 25 25 rfl (w.heap.size + 2) 39 i0 (.agg #[.int .i64 0, .string ⟨#[]⟩]) 2 24 Tryd.underlying25 hi hz0 hz1 hz2 rfl (.slice (some ⟨W0.heap.size, 0, none⟩) 0 0) 0 [] (.slice b d.2.length cb) d.2.length (d.2.flatMap encP) ?_ ?_ ?_ ?_ hoEb (src_puts cb (HRP.out _ hw2)) hs2 ?_
       · unfold maxLen; omega
       · omega
       · simp [Act.eval]
       · simp [Act.eval]
       intro v3 w3 ho3 hg3
       obtain ⟨a3, c3, rfl, _, _⟩ := own_rdF encP_len (l := d.2) ho3 (by simp)
       have HoP : Hid (w3.ownsRow (w.heap.size + 2) 39 2 (.slice a3 (0 + d.2.length) c3) (0 + d.2.length) ([] ++ d.2.flatMap encP)) := ho3
       have HoS : Hid (w3.ownsRow (w.heap.size + 2) 9 1 (.slice a1 d.1.length c1) d.1.length (d.1.map Value.string)) := own_only hoS (Only.of_grown hg3) (fun k hk h => own_apart hoS hoEb (by decide) k hk h)
       have hgb : Below (w.heap.size + 2) w2 w3 := (Below.refl _ _).grown hg3 hs2 (fun k hk => (hoEb.lt k hk).1)
       have hR3 : Var w3 (w.heap.size + 1) #[.slice none 0 0, .slice none 0 0] 27 := hR2.below hgb (by omega)
       have hbF : Below w.heap.size w w3 := hw2.trans (hgb.mono (by omega))
       have hv0 := hR3.cell 0
       have hv1 := (hR3.set 0 (.slice a1 d.1.length c1)).cell 1
       have hf0 := hR3.frozen 0
       have hf1 := hR3.frozen 1
       simp at hv0 hv1
       have HR3 : Hid (Var w3 (w.heap.size + 1) #[.slice none 0 0, .slice none 0 0] 27) := hR3
       clear ho3 hg3 hgb hR3)
    | (go_simp
       go_at_call 103
       refine (copyT a ca d.1 W0.drew (by omega) (HRS.out _ hb0)).mono ?_
       rintro e w2 ⟨v1, rfl, ho2, hb2⟩
       obtain ⟨a1, c1, rfl, _, _⟩ := own_rdS ho2
       have hoS := ownsRow_base ho2 (Nat.le_trans hs0 (Nat.le_refl _))
       have hX2 := HX0.out.new hb2
       have hR2 := HR0.out.new hb2
       have hX2a := hX2.alloc (.cells #[] 39)
       have hw2 : Below w.heap.size w w2 := hb0.trans (hb2.mono hb0.size)
       have hs2 : w.heap.size + 2 ≤ w2.heap.size := hR2.lt
       have hzc1 : w2.cell? ⟨w.heap.size, 1, none⟩ = some (.slice b d.2.length cb) := hX2.cell 1
       have hzc2 : (w2.alloc (.cells #[] 39)).cell? ⟨w.heap.size, 1, none⟩ = some (.slice b d.2.length cb) := hX2a.cell 1
       have hoEa : (w2.alloc (.cells #[] 39)).ownsRow (w.heap.size + 2) 39 2 (.slice (some ⟨w2.heap.size, 0, none⟩) 0 0) 0 [] := World.ownsRow_made w2 #[] 0 hs2 (Nat.zero_le _) rfl
       clear ho2 hb2 hX2 hX2a)
    | (go_simp
       go_at_call 103
       refine (copyT a ca d.1 (W0.alloc (.cells #[] 39)).drew (by omega) (HRS.out _ hba)).mono ?_
       rintro e w2 ⟨v1, rfl, ho2, hb2⟩
       obtain ⟨a1, c1, rfl, _, _⟩ := own_rdS ho2
       have hoS := ownsRow_base ho2 (Nat.le_trans hs0 (by simp))
       have hX2 := HXa.out.new hb2
       have hR2 := HRa.out.new hb2
       have hX2a := hX2.alloc (.cells #[] 39)
       have hw2 : Below w.heap.size w w2 := hba.trans (hb2.mono hba.size)
       have hs2 : w.heap.size + 2 ≤ w2.heap.size := hR2.lt
       have hzc1 : w2.cell? ⟨w.heap.size, 1, none⟩ = some (.slice b d.2.length cb) := hX2.cell 1
       have hzc2 : (w2.alloc (.cells #[] 39)).cell? ⟨w.heap.size, 1, none⟩ = some (.slice b d.2.length cb) := hX2a.cell 1
       have hoEb := ownsRow_below HoE.out hb2 (Nat.le_refl _)
       clear ho2 hb2 hX2 hX2a))
  all_goals
    go_wp2
    have hR5 := (HR3.out.set 0 (.slice a1 d.1.length c1)).set 1 (.slice a3 d.2.length c3)
    have HR5 : Hid (Var ((w3.setCell ⟨w.heap.size + 1, 0, none⟩ (.slice a1 d.1.length c1)).setCell ⟨w.heap.size + 1, 1, none⟩ (.slice a3 d.2.length c3)) (w.heap.size + 1) #[.slice a1 d.1.length c1, .slice a3 d.2.length c3] 27) := hR5
    refine bodyPost_ret (results_cell_row rfl _ _ (w.heap.size + 1) 27 #[.slice a1 d.1.length c1, .slice a3 d.2.length c3] (0, 0) _ rfl HR5.out Tryd.underlying27 rfl Tryd.sizeDisk) rfl ?_
    have hoP := HoP.out
    rw [Nat.zero_add, List.nil_append] at hoP
    exact ⟨_, rfl, ⟨_, _, rfl, ownsRow_base (own_set (own_set HoS.out (Q := w.heap.size + 1) (by omega) 0 _) (Q := w.heap.size + 1) (by omega) 1 _) (by omega), ownsRow_base (own_set (own_set hoP (Q := w.heap.size + 1) (by omega) 0 _) (Q := w.heap.size + 1) (by omega) 1 _) (by omega)⟩, (hbF.setCell (p := ⟨w.heap.size + 1, 0, none⟩) (by show _ ≤ w.heap.size + 1; omega) _).setCell (p := ⟨w.heap.size + 1, 1, none⟩) (by show _ ≤ w.heap.size + 1; omega) _⟩
end Go.Proofs.YtlidmnehpcodkaaDoor

/-
  Own text: a write, as the other program takes it.
-/
namespace Go.Proofs.YtlidmnehpcodkaaDoor
open Go.RowKit

theorem results_row_tmp {P : Program} {fn : Func} {p u : Tmp} {ty : TypeId} (h : fn.results = #[.cell p ty, .tmp u]) (tmps : Array Value) (w : World) (g : Nat) (t : TypeId) (cs : Array Value) (d : TypeDesc)
    (hp : tmps.getD p undef = .pointer (some ⟨g, 0, none⟩)) (hg : Var w g cs t)
    (hu : P.underlying ty = some d) (hd : (match d with | .struct _ | .array _ _ => true | _ => false) = true) (hi : (P.info? ty).map (·.size) = some cs.size) :
    (results fn tmps).run P w = .ok (.tuple #[.agg cs, tmps.getD u undef]) w := by
  rw [results_cell_tmp h, hp]
  simp [asAddr, run_loadVar_row w g t ty cs (0, 0) d hg hu hd hi]

/-- One write, made by itself, as a row. -/
theorem rd_onePut {W : World} {P : Nat} {n : Int} {s : ByteArray} {t : TypeId} (h : Var W P #[.int .i64 n, .string s] t) : RdF encP 2 W (some ⟨P, 0, none⟩) [(n, s)] := by
  refine .inr ⟨P, 0, rfl, h.lt, fun i hi j hj => ?_⟩
  simp at hi
  subst hi
  rw [show 0 + 0 * 2 + j = j by omega, h.cell j]
  match j, hj with
  | 0, _ => rfl
  | 1, _ => rfl
/-- A row is no struct variable of another make. -/
theorem own_var {w : World} {base : Nat} {e : TypeId} {size : Nat} {v : Value} {n : Nat} {xs : List Value} {P : Nat} {C : Array Value} {t : TypeId} (h : w.ownsRow base e size v n xs) (hV : Var w P C t) (hne : e ≠ t) : ¬ v.ownBlock = some P := by
  intro hk
  rcases h.2 with ⟨rfl, _⟩ | ⟨g, cap, cur, rfl, _, hg, _⟩
  · cases hk
  · cases hk
    have hV' : w.heap[g]? = some (.cells C t (0, 0)) := hV
    rw [hg] at hV'
    cases hV'
    exact hne rfl
theorem own_setVar {w : World} {base : Nat} {e : TypeId} {size : Nat} {v : Value} {n : Nat} {xs : List Value} {P : Nat} {C : Array Value} {t : TypeId} (h : w.ownsRow base e size v n xs) (hV : Var w P C t) (hne : e ≠ t) (j : Nat) (u : Value) : (w.setCell ⟨P, j, none⟩ u).ownsRow base e size v n xs :=
  own_only (S := fun k => k = P) h (Only.setCell (S := fun k => k = P) (Only.refl _ _) (p := ⟨P, j, none⟩) rfl u) (fun _ hk e => own_var h hV hne (e ▸ hk))
/-- A disk that is owned, and a struct variable of that make: a store there leaves it. -/
theorem OwnD.setVar {w : World} {lo : Nat} {v : Value} {d : DiskD} {P : Nat} {C : Array Value} (h : OwnD w lo v d) (hV : Var w P C 27) (j : Nat) (u : Value) : OwnD (w.setCell ⟨P, j, none⟩ u) lo v d := by
  obtain ⟨v1, v2, rfl, h1, h2⟩ := h
  exact ⟨v1, v2, rfl, own_setVar h1 hV (by decide) j u, own_setVar h2 hV (by decide) j u⟩

/-- Two cells of a struct variable set. -/
theorem Var.two {w : World} {P : Nat} {x y : Value} {t : TypeId} (h : Var w P #[x, y] t) (u v : Value) : Var ((w.setCell ⟨P, 0, none⟩ u).setCell ⟨P, 1, none⟩ v) P #[u, v] t := (h.set 0 u).set 1 v

def wrD (d : DiskD) (at' : Int) (s : ByteArray) : DiskD := (dkWrite d at' s).getD d
def wrOk (d : DiskD) (at' : Int) (s : ByteArray) : Bool := (dkWrite d at' s).isSome
theorem wr_no {d : DiskD} {at' : Int} {s : ByteArray} (h : ¬ (dkOk d = true ∧ dkOk (d.1, d.2 ++ [(at', s)]) = true)) : wrD d at' s = d ∧ wrOk d at' s = false := by
  unfold wrD wrOk dkWrite
  rw [if_neg h]
  exact ⟨rfl, rfl⟩
theorem wr_yes {d : DiskD} {at' : Int} {s : ByteArray} (h : dkOk d = true ∧ dkOk (d.1, d.2 ++ [(at', s)]) = true) : wrD d at' s = (d.1, d.2 ++ [(at', s)]) ∧ wrOk d at' s = true := by
  unfold wrD wrOk dkWrite
  rw [if_pos h]
  exact ⟨rfl, rfl⟩

set_option maxRecDepth 20000 in
set_option maxHeartbeats 1000000 in
theorem specSectorWrite (v : Value) (d : DiskD) (at' : Int) (s : ByteArray) (w : World) (hl : d.1.length ≤ 4194303 ∧ d.2.length ≤ 4194303) (hr : RdD w v d) :
    Calls Tryd.prog 116 #[v, .int .i64 at', .string s] w fun e w' => ∃ v', e = .returned (.tuple #[v', .bool (wrOk d at' s)]) ∧ OwnD w' w.heap.size v' (wrD d at' s) ∧ Below w.heap.size w w' := by
  have hrd := hr
  obtain ⟨a, ca, b, cb, rfl, r1, r2⟩ := hr
  obtain ⟨i0, hi, hz0, hz1, hz2⟩ := info_parts Tryd.infoPut
  have hl1 := hl.1
  have hl2 := hl.2
  have HNO : Hid (¬ (dkOk d = true ∧ dkOk (d.1, d.2 ++ [(at', s)]) = true) → wrD d at' s = d ∧ wrOk d at' s = false) := wr_no
  have HYE : Hid (dkOk d = true ∧ dkOk (d.1, d.2 ++ [(at', s)]) = true → wrD d at' s = (d.1, d.2 ++ [(at', s)]) ∧ wrOk d at' s = true) := wr_yes
  have HCP : Hid (∀ W, Below w.heap.size w W → Calls Tryd.prog 63 #[.agg #[.slice a d.1.length ca, .slice b d.2.length cb]] W fun e w' => ∃ v', e = .returned v' ∧ OwnD w' W.heap.size v' d ∧ Below W.heap.size W w') :=
    fun W hW => copyD _ d W ⟨by omega, by omega⟩ (hrd.below hW (Nat.le_refl _))
  have HOK : Hid (∀ W, Below w.heap.size w W → Calls Tryd.prog 24 #[.agg #[.slice a d.1.length ca, .slice b d.2.length cb]] W fun e w' => e = .returned (.bool (dkOk d)) ∧ Below W.heap.size W w') :=
    fun W hW => specDiskOk _ d W ⟨by omega, by omega⟩ (hrd.below hW (Nat.le_refl _))
  clear r1 r2 hrd
  go_enter Tryd.func116, Tryd.ntmps116
  go_wp2_with fail
  refine (HCP.out _ (below2 _ _ _)).mono ?_
  rintro e w1 ⟨v1, rfl, ho1, hb1⟩
  obtain ⟨u1, u2, rfl, o1, o2⟩ := ho1
  obtain ⟨a1, c1, rfl, _, _⟩ := own_rdS o1
  obtain ⟨b1, d1, rfl, _, _⟩ := own_rdF encP_len o2 rfl
  have hs0 : ((w.alloc (.cells #[.slice a d.1.length ca, .slice b d.2.length cb] 27)).alloc (.cells #[.slice none 0 0, .slice none 0 0] 27)).heap.size = w.heap.size + 2 := by simp
  have hX1 : Var w1 w.heap.size #[.slice a d.1.length ca, .slice b d.2.length cb] 27 := ((Var.made w _ _).alloc _).new hb1
  have hR1 : Var w1 (w.heap.size + 1) #[.slice none 0 0, .slice none 0 0] 27 := (Var.made2 w _ _ _).new hb1
  have hb01 : Below w.heap.size w w1 := (below2 w _ _).trans (hb1.mono (by simp; omega))
  rw [hs0] at o1 o2
  clear hb1 hs0
  have hlt1 : w.heap.size + 2 ≤ w1.heap.size := hR1.lt
  have hV1 : Var ((w1.alloc (.cells #[.slice a1 d.1.length c1, .slice b1 d.2.length d1] 27)).alloc (.cells #[.int .i64 at', .string s] 39)) w1.heap.size #[.slice a1 d.1.length c1, .slice b1 d.2.length d1] 27 := (Var.made w1 _ _).alloc _
  have hP1 : Var ((w1.alloc (.cells #[.slice a1 d.1.length c1, .slice b1 d.2.length d1] 27)).alloc (.cells #[.int .i64 at', .string s] 39)) (w1.heap.size + 1) #[.int .i64 at', .string s] 39 := Var.made2 w1 _ _ _
  have hX1' := (hX1.alloc (.cells #[.slice a1 d.1.length c1, .slice b1 d.2.length d1] 27)).alloc (.cells #[.int .i64 at', .string s] 39)
  have hR1' := (hR1.alloc (.cells #[.slice a1 d.1.length c1, .slice b1 d.2.length d1] 27)).alloc (.cells #[.int .i64 at', .string s] 39)
  have o1' := (o1.alloc (.cells #[.slice a1 d.1.length c1, .slice b1 d.2.length d1] 27)).alloc (.cells #[.int .i64 at', .string s] 39)
  have o2' := (o2.alloc (.cells #[.slice a1 d.1.length c1, .slice b1 d.2.length d1] 27)).alloc (.cells #[.int .i64 at', .string s] 39)
  have hb01' : Below w.heap.size w ((w1.alloc (.cells #[.slice a1 d.1.length c1, .slice b1 d.2.length d1] 27)).alloc (.cells #[.int .i64 at', .string s] 39)) := (hb01.alloc (by omega) _).alloc (by simp; omega) _
  have hsz1 : w.heap.size + 2 ≤ ((w1.alloc (.cells #[.slice a1 d.1.length c1, .slice b1 d.2.length d1] 27)).alloc (.cells #[.int .i64 at', .string s] 39)).heap.size := by simp; omega
  have hgl : ∀ k, (Value.slice b1 d.2.length d1).ownBlock = some k → w.heap.size + 2 ≤ k ∧ k < w1.heap.size := o2.lt
  have HRB : Hid (RdF encP 2 ((w1.alloc (.cells #[.slice a1 d.1.length c1, .slice b1 d.2.length d1] 27)).alloc (.cells #[.int .i64 at', .string s] 39)) (some ⟨w1.heap.size + 1, 0, none⟩) [(at', s)]) := rd_onePut hP1
  clear hX1 hR1 hP1 o1 o2 hb01
  go_wp2_with (at_builtin; refine wpList_append_own_src _ rfl _ _ 25 25 rfl (w.heap.size + 2) 39 i0 (.agg #[.int .i64 0, .string ⟨#[]⟩]) 2 24 Tryd.underlying25 hi hz0 hz1 hz2 rfl _ _ _ rfl o2' _ 1 ([(at', s)].flatMap encP) rfl (src_puts 1 HRB.out) ?m1 ?m2 hsz1 ?_)
  case m1 => unfold maxLen; omega
  case m2 => omega
  intro v2 w2 ho2 hg2
  have ho2' : w2.ownsRow (w.heap.size + 2) 39 2 v2 (d.2 ++ [(at', s)]).length ((d.2 ++ [(at', s)]).flatMap encP) := by
    rw [List.flatMap_append, List.length_append]; exact ho2
  have hlen2 : (d.2 ++ [(at', s)]).length ≤ 4194304 := by simp; omega
  have hon2 := Only.of_grown hg2
  have hV2 := hV1.only hon2 (fun h => by have := (hgl _ h).2; omega)
  have hX2 := hX1'.only hon2 (fun h => by have := (hgl _ h).1; omega)
  have hR2 := hR1'.only hon2 (fun h => by have := (hgl _ h).1; omega)
  have o12 := own_only o1' hon2 (own_apart o1' o2' (by decide))
  have hb02 : Below w.heap.size w w2 := hb01'.grown hg2 (by omega) (fun k hk => by have := (hgl k hk).1; omega)
  clear hV1 hX1' hR1' o1' o2' hb01' ho2 hg2 hon2 HRB hsz1
  generalize d.2 ++ [(at', s)] = L at *
  obtain ⟨b2, d2, rfl, _, _⟩ := own_rdF encP_len ho2' rfl
  have hV3 := hV2.set 1 (.slice b2 L.length d2)
  have hX3 := hX2.other (Q := w1.heap.size) (by omega) 1 (.slice b2 L.length d2)
  have hR3 := hR2.other (Q := w1.heap.size) (by omega) 1 (.slice b2 L.length d2)
  have hO2 : OwnD w2 (w.heap.size + 2) (.agg #[.slice a1 d.1.length c1, .slice b2 L.length d2]) (d.1, L) := ⟨_, _, rfl, o12, ho2'⟩
  have hO3 := hO2.setVar hV2 1 (.slice b2 L.length d2)
  have hb03 : Below w.heap.size w (w2.setCell ⟨w1.heap.size, 1, none⟩ (.slice b2 L.length d2)) := hb02.setCell (p := ⟨w1.heap.size, 1, none⟩) (by show _ ≤ w1.heap.size; omega) _
  have hc1 := hV2.cell 1
  have hf1 := hV2.frozen 1
  have hx0 := hX3.cell 0
  have hx1 := hX3.cell 1
  simp at hc1 hx0 hx1
  have HV3 : Hid (Var (w2.setCell ⟨w1.heap.size, 1, none⟩ (.slice b2 L.length d2)) w1.heap.size #[.slice a1 d.1.length c1, .slice b2 L.length d2] 27) := hV3
  clear hV2 hX2 hR2 hb02 o12 ho2' hO2 hV3
  go_wp2_with fail
  clear hc1 hf1 hx0 hx1
  generalize w2.setCell ⟨w1.heap.size, 1, none⟩ (.slice b2 L.length d2) = W3 at *
  refine (HOK.out W3 hb03).mono ?_
  rintro e w4 ⟨rfl, hb4⟩
  have hX4 := hX3.new hb4
  have hR4 := hR3.new hb4
  have hV4 := HV3.out.new hb4
  have hO4 := hO3.below hb4
  have hb04 : Below w.heap.size w w4 := hb03.trans (hb4.mono hb03.size)
  have hx0 := hX4.cell 0
  have hx1 := hX4.cell 1
  have hv0 := hV4.cell 0
  have hv1 := hV4.cell 1
  have hr0 := hR4.cell 0
  have hg0 := hR4.frozen 0
  have hg1 := hR4.frozen 1
  simp at hx0 hx1 hv0 hv1 hr0
  clear hX3 hR3 HV3 hO3 hb03 hb4
  have HX4 : Hid (Var w4 w.heap.size #[.slice a d.1.length ca, .slice b d.2.length cb] 27) := hX4
  have HR4 : Hid (Var w4 (w.heap.size + 1) #[.slice none 0 0, .slice none 0 0] 27) := hR4
  have HV4 : Hid (Var w4 w1.heap.size #[.slice a1 d.1.length c1, .slice b2 L.length d2] 27) := hV4
  have HO4 : Hid (OwnD w4 (w.heap.size + 2) (.agg #[.slice a1 d.1.length c1, .slice b2 L.length d2]) (d.1, L)) := hO4
  have HOut : Hid (Calls Tryd.prog 24 #[.agg #[.slice a1 d.1.length c1, .slice b2 L.length d2]] w4 fun e w' => e = .returned (.bool (dkOk (d.1, L))) ∧ Below w4.heap.size w4 w') := specDiskOk _ (d.1, L) w4 ⟨by show d.1.length ≤ _; omega, hlen2⟩ hO4.rd
  clear hX4 hR4 hV4 hO4
  cases hok : dkOk d with
  | false =>
    have HF : Hid (wrD d at' s = d ∧ wrOk d at' s = false) := HNO.out (by simp [hok])
    go_wp2_with fail
    refine (HCP.out w4 hb04).mono ?_
    rintro e w9 ⟨v9, rfl, ho9, hb9⟩
    obtain ⟨x9, y9, rfl, ox9, oy9⟩ := ho9
    obtain ⟨a9, c9, rfl, _, _⟩ := own_rdS ox9
    obtain ⟨b9, d9, rfl, _, _⟩ := own_rdF encP_len oy9 rfl
    have hR9 := HR4.out.new hb9
    have hO9 : OwnD w9 w.heap.size (.agg #[.slice a9 d.1.length c9, .slice b9 d.2.length d9]) d := ⟨_, _, rfl, ownsRow_base ox9 hb04.size, ownsRow_base oy9 hb04.size⟩
    have HO10 : Hid (OwnD ((w9.setCell ⟨w.heap.size + 1, 0, none⟩ (.slice a9 d.1.length c9)).setCell ⟨w.heap.size + 1, 1, none⟩ (.slice b9 d.2.length d9)) w.heap.size (.agg #[.slice a9 d.1.length c9, .slice b9 d.2.length d9]) d) := (hO9.setVar hR9 0 _).setVar (hR9.set 0 _) 1 _
    have HR10 : Hid (Var ((w9.setCell ⟨w.heap.size + 1, 0, none⟩ (.slice a9 d.1.length c9)).setCell ⟨w.heap.size + 1, 1, none⟩ (.slice b9 d.2.length d9)) (w.heap.size + 1) #[.slice a9 d.1.length c9, .slice b9 d.2.length d9] 27) := hR9.two _ _
    have hb10 : Below w.heap.size w ((w9.setCell ⟨w.heap.size + 1, 0, none⟩ (.slice a9 d.1.length c9)).setCell ⟨w.heap.size + 1, 1, none⟩ (.slice b9 d.2.length d9)) := ((hb04.trans (hb9.mono hb04.size)).setCell (p := ⟨w.heap.size + 1, 0, none⟩) (by show _ ≤ w.heap.size + 1; omega) _).setCell (p := ⟨w.heap.size + 1, 1, none⟩) (by show _ ≤ w.heap.size + 1; omega) _
    have hq0 := hR9.cell 0
    have hq1 := (hR9.set 0 (.slice a9 d.1.length c9)).cell 1
    have hk0 := hR9.frozen 0
    have hk1 := hR9.frozen 1
    simp at hq0 hq1
    clear hR9 hO9 ox9 oy9 hb9
    go_wp2
    refine bodyPost_ret (results_row_tmp rfl _ _ (w.heap.size + 1) 27 #[.slice a9 d.1.length c9, .slice b9 d.2.length d9] _ rfl HR10.out Tryd.underlying27 rfl Tryd.sizeDisk) rfl ?_
    exact ⟨_, by rw [HF.out.2]; rfl, by rw [HF.out.1]; exact HO10.out, hb10⟩
  | true =>
    go_wp2_with fail
    refine HOut.out.mono ?_
    rintro e w5 ⟨rfl, hb5⟩
    have hX5 := HX4.out.new hb5
    have hR5 := HR4.out.new hb5
    have hV5 := HV4.out.new hb5
    have hO5 := HO4.out.below hb5
    have hb05 : Below w.heap.size w w5 := hb04.trans (hb5.mono hb04.size)
    have hy0 := hX5.cell 0
    have hy1 := hX5.cell 1
    have hu0 := hV5.cell 0
    have hu1 := hV5.cell 1
    simp at hy0 hy1 hu0 hu1
    have HR5 : Hid (Var w5 (w.heap.size + 1) #[.slice none 0 0, .slice none 0 0] 27) := hR5
    clear hx0 hx1 hv0 hv1 hr0 hg0 hg1 hb5 hX5 hV5 hR5
    cases hok2 : dkOk (d.1, L) with
    | false =>
      have HF : Hid (wrD d at' s = d ∧ wrOk d at' s = false) := HNO.out (by rw [hok2]; simp)
      go_wp2_with fail
      refine (HCP.out w5 hb05).mono ?_
      rintro e w9 ⟨v9, rfl, ho9, hb9⟩
      obtain ⟨x9, y9, rfl, ox9, oy9⟩ := ho9
      obtain ⟨a9, c9, rfl, _, _⟩ := own_rdS ox9
      obtain ⟨b9, d9, rfl, _, _⟩ := own_rdF encP_len oy9 rfl
      have hR9 := HR5.out.new hb9
      have hO9 : OwnD w9 w.heap.size (.agg #[.slice a9 d.1.length c9, .slice b9 d.2.length d9]) d := ⟨_, _, rfl, ownsRow_base ox9 hb05.size, ownsRow_base oy9 hb05.size⟩
      have HO10 : Hid (OwnD ((w9.setCell ⟨w.heap.size + 1, 0, none⟩ (.slice a9 d.1.length c9)).setCell ⟨w.heap.size + 1, 1, none⟩ (.slice b9 d.2.length d9)) w.heap.size (.agg #[.slice a9 d.1.length c9, .slice b9 d.2.length d9]) d) := (hO9.setVar hR9 0 _).setVar (hR9.set 0 _) 1 _
      have HR10 : Hid (Var ((w9.setCell ⟨w.heap.size + 1, 0, none⟩ (.slice a9 d.1.length c9)).setCell ⟨w.heap.size + 1, 1, none⟩ (.slice b9 d.2.length d9)) (w.heap.size + 1) #[.slice a9 d.1.length c9, .slice b9 d.2.length d9] 27) := hR9.two _ _
      have hb10 : Below w.heap.size w ((w9.setCell ⟨w.heap.size + 1, 0, none⟩ (.slice a9 d.1.length c9)).setCell ⟨w.heap.size + 1, 1, none⟩ (.slice b9 d.2.length d9)) := ((hb05.trans (hb9.mono hb05.size)).setCell (p := ⟨w.heap.size + 1, 0, none⟩) (by show _ ≤ w.heap.size + 1; omega) _).setCell (p := ⟨w.heap.size + 1, 1, none⟩) (by show _ ≤ w.heap.size + 1; omega) _
      have hq0 := hR9.cell 0
      have hq1 := (hR9.set 0 (.slice a9 d.1.length c9)).cell 1
      have hk0 := hR9.frozen 0
      have hk1 := hR9.frozen 1
      simp at hq0 hq1
      clear hR9 hO9 ox9 oy9 hb9
      go_wp2
      refine bodyPost_ret (results_row_tmp rfl _ _ (w.heap.size + 1) 27 #[.slice a9 d.1.length c9, .slice b9 d.2.length d9] _ rfl HR10.out Tryd.underlying27 rfl Tryd.sizeDisk) rfl ?_
      exact ⟨_, by rw [HF.out.2]; rfl, by rw [HF.out.1]; exact HO10.out, hb10⟩
    | true =>
      have HF : Hid (wrD d at' s = (d.1, L) ∧ wrOk d at' s = true) := HYE.out ⟨hok, hok2⟩
      have HO10 : Hid (OwnD ((w5.setCell ⟨w.heap.size + 1, 0, none⟩ (.slice a1 d.1.length c1)).setCell ⟨w.heap.size + 1, 1, none⟩ (.slice b2 L.length d2)) w.heap.size (.agg #[.slice a1 d.1.length c1, .slice b2 L.length d2]) (d.1, L)) := ((hO5.setVar HR5.out 0 _).setVar (HR5.out.set 0 _) 1 _).base (by omega)
      have HR10 : Hid (Var ((w5.setCell ⟨w.heap.size + 1, 0, none⟩ (.slice a1 d.1.length c1)).setCell ⟨w.heap.size + 1, 1, none⟩ (.slice b2 L.length d2)) (w.heap.size + 1) #[.slice a1 d.1.length c1, .slice b2 L.length d2] 27) := HR5.out.two _ _
      have hb10 : Below w.heap.size w ((w5.setCell ⟨w.heap.size + 1, 0, none⟩ (.slice a1 d.1.length c1)).setCell ⟨w.heap.size + 1, 1, none⟩ (.slice b2 L.length d2)) := (hb05.setCell (p := ⟨w.heap.size + 1, 0, none⟩) (by show _ ≤ w.heap.size + 1; omega) _).setCell (p := ⟨w.heap.size + 1, 1, none⟩) (by show _ ≤ w.heap.size + 1; omega) _
      have hq0 := HR5.out.cell 0
      have hq1 := (HR5.out.set 0 (.slice a1 d.1.length c1)).cell 1
      have hk0 := HR5.out.frozen 0
      have hk1 := HR5.out.frozen 1
      simp at hq0 hq1
      clear hO5
      go_wp2
      refine bodyPost_ret (results_row_tmp rfl _ _ (w.heap.size + 1) 27 #[.slice a1 d.1.length c1, .slice b2 L.length d2] _ rfl HR10.out Tryd.underlying27 rfl Tryd.sizeDisk) rfl ?_
      exact ⟨_, by rw [HF.out.2]; rfl, by rw [HF.out.1]; exact HO10.out, hb10⟩
end Go.Proofs.YtlidmnehpcodkaaDoor

/-
  Own text: flushing, as the other program does it.
-/
namespace Go.Proofs.YtlidmnehpcodkaaDoor
open Go.RowKit

theorem Only.drew {S : Nat → Prop} {a w : World} (h : Only S a w) : Only S a w.drew := ⟨h.os, h.tape, h.output, h.size, h.block⟩
theorem putIn_take {s : List ByteArray} {l : List PutD} {k : Nat} (h : k < l.length) : putIn s (l.take (k + 1)) = (putIn s (l.take k)).set l[k].1.toNat l[k].2 := by
  rw [List.take_succ_eq_append_getElem h, putIn_app]
  rfl

set_option maxRecDepth 20000 in
set_option maxHeartbeats 2000000 in
theorem specFlush (v : Value) (d : DiskD) (w : World) (hl : d.1.length ≤ 4194303 ∧ d.2.length ≤ 4194303) (hr : RdD w v d) :
    Calls Tryd.prog 117 #[v] w fun e w' => ∃ v', e = .returned v' ∧ OwnD w' w.heap.size v' (dkFlush d) ∧ Below w.heap.size w w' := by
  have hrd := hr
  obtain ⟨a, ca, b, cb, rfl, r1, r2⟩ := hr
  have hl1 := hl.1
  have hl2 := hl.2
  have HPS : Hid (∀ k (hk : k < d.2.length), ∃ x off, b = some ⟨x, off, none⟩ ∧ x < w.heap.size ∧ w.cell? ⟨x, off + k * 2, none⟩ = some (.int .i64 d.2[k].1) ∧ w.cell? ⟨x, off + k * 2 + 1, none⟩ = some (.string d.2[k].2)) := by
    intro k hk
    obtain ⟨x, off, h1, h2, h3⟩ := r2.at k hk
    exact ⟨x, off, h1, h2, h3 0 (by omega), h3 1 (by omega)⟩
  have HOK : Hid (∀ W, Below w.heap.size w W → Calls Tryd.prog 24 #[.agg #[.slice a d.1.length ca, .slice b d.2.length cb]] W fun e w' => e = .returned (.bool (dkOk d)) ∧ Below W.heap.size W w') :=
    fun W hW => specDiskOk _ d W ⟨by omega, by omega⟩ (hrd.below hW (Nat.le_refl _))
  have HDF : Hid (dkFlush d = if dkOk d = true then (putIn d.1 d.2, []) else d) := rfl
  have HCP : Hid (∀ W, Below w.heap.size w W → Calls Tryd.prog 63 #[.agg #[.slice a d.1.length ca, .slice b d.2.length cb]] W fun e w' => ∃ v', e = .returned v' ∧ OwnD w' W.heap.size v' d ∧ Below W.heap.size W w') :=
    fun W hW => copyD _ d W ⟨by omega, by omega⟩ (hrd.below hW (Nat.le_refl _))
  clear r1 r2 hrd
  go_enter Tryd.func117, Tryd.ntmps117
  go_wp2_with fail
  refine (HCP.out _ (below2 _ _ _)).mono ?_
  rintro e w1 ⟨v1, rfl, ho1, hb1⟩
  obtain ⟨u1, u2, rfl, o1, o2⟩ := ho1
  obtain ⟨a1, c1, rfl, _, _⟩ := own_rdS o1
  obtain ⟨b1, d1, rfl, _, _⟩ := own_rdF encP_len o2 rfl
  have hs0 : ((w.alloc (.cells #[.slice a d.1.length ca, .slice b d.2.length cb] 27)).alloc (.cells #[.slice none 0 0, .slice none 0 0] 27)).heap.size = w.heap.size + 2 := by simp
  have hX1 : Var w1 w.heap.size #[.slice a d.1.length ca, .slice b d.2.length cb] 27 := ((Var.made w _ _).alloc _).new hb1
  have hR1 : Var w1 (w.heap.size + 1) #[.slice none 0 0, .slice none 0 0] 27 := (Var.made2 w _ _ _).new hb1
  have hb01 : Below w.heap.size w w1 := (below2 w _ _).trans (hb1.mono (by simp; omega))
  rw [hs0] at o1 o2
  have hlt1 : w.heap.size + 2 ≤ w1.heap.size := hR1.lt
  have hV2 : Var (w1.alloc (.cells #[.slice a1 d.1.length c1, .slice b1 d.2.length d1] 27)) w1.heap.size #[.slice a1 d.1.length c1, .slice b1 d.2.length d1] 27 := Var.made w1 _ _
  have hX2 := hX1.alloc (.cells #[.slice a1 d.1.length c1, .slice b1 d.2.length d1] 27)
  have hR2 := hR1.alloc (.cells #[.slice a1 d.1.length c1, .slice b1 d.2.length d1] 27)
  have o12 := o1.alloc (.cells #[.slice a1 d.1.length c1, .slice b1 d.2.length d1] 27)
  have o22 := o2.alloc (.cells #[.slice a1 d.1.length c1, .slice b1 d.2.length d1] 27)
  have hb02 : Below w.heap.size w (w1.alloc (.cells #[.slice a1 d.1.length c1, .slice b1 d.2.length d1] 27)) := hb01.alloc (by omega) _
  have hx0 := hX2.cell 0
  have hx1 := hX2.cell 1
  simp at hx0 hx1
  clear hX1 hR1 hb01 hb1 hs0 o1 o2 HCP
  go_wp2_with fail
  clear hx0 hx1
  generalize w1.alloc (.cells #[.slice a1 d.1.length c1, .slice b1 d.2.length d1] 27) = W2 at *
  refine (HOK.out W2 hb02).mono ?_
  rintro e w3 ⟨rfl, hb3⟩
  have hX3 := hX2.new hb3
  have hR3 := hR2.new hb3
  have hV3 := hV2.new hb3
  have o13 := ownsRow_below o12 hb3 (Nat.le_refl _)
  have o23 := ownsRow_below o22 hb3 (Nat.le_refl _)
  have hb03 : Below w.heap.size w w3 := hb02.trans (hb3.mono hb02.size)
  have hv0 := hV3.cell 0
  have hv1 := hV3.cell 1
  have hx1 := hX3.cell 1
  simp at hv0 hv1 hx1
  have HR3 : Hid (Var w3 (w.heap.size + 1) #[.slice none 0 0, .slice none 0 0] 27) := hR3
  clear hX2 hR2 hV2 o12 o22 hb02 hb3 HOK hR3
  cases hok : dkOk d with
  | false =>
    have HF : Hid (dkFlush d = d) := by show _ = _; rw [HDF.out, hok]; rfl
    have hO3 : OwnD w3 (w.heap.size + 2) (.agg #[.slice a1 d.1.length c1, .slice b1 d.2.length d1]) d := ⟨_, _, rfl, o13, o23⟩
    have HO10 : Hid (OwnD ((w3.setCell ⟨w.heap.size + 1, 0, none⟩ (.slice a1 d.1.length c1)).setCell ⟨w.heap.size + 1, 1, none⟩ (.slice b1 d.2.length d1)) w.heap.size (.agg #[.slice a1 d.1.length c1, .slice b1 d.2.length d1]) d) := ((hO3.setVar HR3.out 0 _).setVar (HR3.out.set 0 _) 1 _).base (by omega)
    have HR10 : Hid (Var ((w3.setCell ⟨w.heap.size + 1, 0, none⟩ (.slice a1 d.1.length c1)).setCell ⟨w.heap.size + 1, 1, none⟩ (.slice b1 d.2.length d1)) (w.heap.size + 1) #[.slice a1 d.1.length c1, .slice b1 d.2.length d1] 27) := HR3.out.two _ _
    have hb10 : Below w.heap.size w ((w3.setCell ⟨w.heap.size + 1, 0, none⟩ (.slice a1 d.1.length c1)).setCell ⟨w.heap.size + 1, 1, none⟩ (.slice b1 d.2.length d1)) := (hb03.setCell (p := ⟨w.heap.size + 1, 0, none⟩) (by show _ ≤ w.heap.size + 1; omega) _).setCell (p := ⟨w.heap.size + 1, 1, none⟩) (by show _ ≤ w.heap.size + 1; omega) _
    have hq0 := HR3.out.cell 0
    have hq1 := (HR3.out.set 0 (.slice a1 d.1.length c1)).cell 1
    have hk0 := HR3.out.frozen 0
    have hk1 := HR3.out.frozen 1
    simp at hq0 hq1
    clear hO3 o13 o23 hX3 hV3
    go_wp2
    refine bodyPost_ret (results_cell_row rfl _ _ (w.heap.size + 1) 27 #[.slice a1 d.1.length c1, .slice b1 d.2.length d1] (0, 0) _ rfl HR10.out Tryd.underlying27 rfl Tryd.sizeDisk) rfl ?_
    exact ⟨_, rfl, by rw [HF.out]; exact HO10.out, hb10⟩
  | true =>
    have HF : Hid (dkFlush d = (putIn d.1 d.2, [])) := by show _ = _; rw [HDF.out, hok]; rfl
    have HAT : Hid (∀ k (hk : k < d.2.length), 0 ≤ d.2[k].1 ∧ d.2[k].1 < (d.1.length : Int)) := by
      intro k hk
      have := (dkOk_iff.1 hok).2.2.2 _ (List.getElem_mem hk)
      exact ⟨this.1, this.2.1⟩
    have HX3 : Hid (Var w3 w.heap.size #[.slice a d.1.length ca, .slice b d.2.length cb] 27) := hX3
    have HV3 : Hid (Var w3 w1.heap.size #[.slice a1 d.1.length c1, .slice b1 d.2.length d1] 27) := hV3
    have hbl : ∀ k, blk (.slice a1 d.1.length c1) k → w.heap.size + 2 ≤ k ∧ k < w3.heap.size := o13.lt
    have HNX : Hid (¬ blk (.slice a1 d.1.length c1) w.heap.size ∧ ¬ blk (.slice a1 d.1.length c1) (w.heap.size + 1) ∧ ¬ blk (.slice a1 d.1.length c1) w1.heap.size) := ⟨own_var o13 hX3 (by decide), own_var o13 HR3.out (by decide), own_var o13 hV3 (by decide)⟩
    have HO13 : Hid (w3.ownsRow (w.heap.size + 2) 9 1 (.slice a1 d.1.length c1) d.1.length (d.1.map Value.string)) := o13
    clear hX3 hV3 o13 o23
    go_wp2
    go_loopw [4] (fun i wr => ∃ k : Nat, k ≤ d.2.length ∧ i = .int .i64 k ∧ Hid (wr.ownsRow (w.heap.size + 2) 9 1 (.slice a1 d.1.length c1) d.1.length ((putIn d.1 (d.2.take k)).map Value.string)) ∧ Hid (Only (blk (.slice a1 d.1.length c1)) w3 wr)) (fun i _ => d.2.length - (intOf i).toNat)
    case atStart => exact ⟨0, Nat.zero_le _, rfl, by show World.ownsRow _ _ _ _ _ _ _; rw [List.take_zero]; exact HO13.out, Only.refl _ _⟩
    case round =>
      obtain ⟨k, hk, rfl, HOW, HON⟩ := hrel
      have hXr := HX3.out.only HON.out HNX.out.1
      have hRr := HR3.out.only HON.out HNX.out.2.1
      have hVr := HV3.out.only HON.out HNX.out.2.2
      have hb0r : Below w.heap.size w wr := hb03.trans (HON.out.below hb03.size (fun j hj => by have := (hbl j hj).1; omega))
      have hxr1 := hXr.cell 1
      have hvr0 := hVr.cell 0
      have hvr1 := hVr.cell 1
      simp at hxr1 hvr0 hvr1
      by_cases hlt : k < d.2.length
      · obtain ⟨x, off, rfl, hblt, hc0, hc1⟩ := HPS.out k hlt
        have hd0 : wr.cell? ⟨x, off + k * 2, none⟩ = some (.int .i64 d.2[k].1) := (hb0r.cell hblt).trans hc0
        have hd1 : wr.cell? ⟨x, off + k * 2 + 1, none⟩ = some (.string d.2[k].2) := (hb0r.cell hblt).trans hc1
        obtain ⟨hat0, hat1⟩ := HAT.out k hlt
        have HPT : Hid (putIn d.1 (d.2.take (k + 1)) = (putIn d.1 (d.2.take k)).set d.2[k].1.toNat d.2[k].2) := putIn_take hlt
        have hplen : (putIn d.1 (d.2.take k)).length = d.1.length := putIn_len _ _
        have hform := HOW.out.2
        rcases hform with ⟨hv, hn0⟩ | ⟨g, cap, cur, hv, hgb, _⟩
        · exfalso; omega
        · simp only [Value.slice.injEq] at hv
          obtain ⟨rfl, _, rfl⟩ := hv
          have hcg := HOW.out.cellAt d.2[k].1.toNat (by omega)
          have hfg := HOW.out.frozenAt d.2[k].1.toNat
          have hst := (HOW.out.stored d.2[k].1.toNat (.string d.2[k].2)).1
          rw [← List.map_set, ← HPT.out] at hst
          have HST : Hid ((wr.setCell ⟨g, d.2[k].1.toNat, none⟩ (.string d.2[k].2)).ownsRow (w.heap.size + 2) 9 1 (.slice (some ⟨g, 0, none⟩) d.1.length c1) d.1.length ((putIn d.1 (d.2.take (k + 1))).map Value.string)) := hst
          have HON' : Hid (Only (blk (.slice (some ⟨g, 0, none⟩) d.1.length c1)) w3 (wr.setCell ⟨g, d.2[k].1.toNat, none⟩ (.string d.2[k].2))) := HON.out.setCell (p := ⟨g, d.2[k].1.toNat, none⟩) rfl _
          obtain ⟨old, hcg2⟩ : ∃ o, wr.cell? ⟨g, d.2[k].1.toNat, none⟩ = some o := by
            rw [hcg]
            exact ⟨_, List.getElem?_eq_getElem (by simp [hplen]; omega)⟩
          clear hcg hst hc0 hc1 hXr hRr hVr HPT
          generalize d.2[k].1 = yn at *
          generalize d.2[k].2 = ys at *
          go_wp2
          go_region
          all_goals
            go_wp2
            go_roundw
            case rel => exact ⟨k + 1, by omega, by go_num, HST.out.drew, HON'.out.drew⟩
            case measure => simp [intOf]; omega
      · obtain rfl : k = d.2.length := by omega
        have HOF : Hid (wr.ownsRow (w.heap.size + 2) 9 1 (.slice a1 d.1.length c1) d.1.length ((putIn d.1 d.2).map Value.string)) := by have := HOW.out; rw [List.take_length] at this; exact this
        have hf1 := hVr.frozen 1
        have HVr : Hid (Var wr w1.heap.size #[.slice a1 d.1.length c1, .slice b1 d.2.length d1] 27) := hVr
        have hV9 := hVr.set 1 (.slice none 0 0)
        have hR9 := hRr.other (Q := w1.heap.size) (by omega) 1 (.slice none 0 0)
        have ho9 := own_setVar HOF.out hVr (by decide) 1 (.slice none 0 0)
        have hO9 : OwnD (wr.setCell ⟨w1.heap.size, 1, none⟩ (.slice none 0 0)) (w.heap.size + 2) (.agg #[.slice a1 d.1.length c1, .slice none 0 0]) (putIn d.1 d.2, []) := by
          refine ⟨_, _, rfl, ?_, World.ownsRow_nil _ _ _ _⟩
          rw [putIn_len]
          exact ho9
        have hb09 : Below w.heap.size w (wr.setCell ⟨w1.heap.size, 1, none⟩ (.slice none 0 0)) := hb0r.setCell (p := ⟨w1.heap.size, 1, none⟩) (by show _ ≤ w1.heap.size; omega) _
        have hw0 := hV9.cell 0
        have hw1 := hV9.cell 1
        have hq0 := hR9.cell 0
        have hq1 := (hR9.set 0 (.slice a1 d.1.length c1)).cell 1
        have hk0 := hR9.frozen 0
        have hk1 := hR9.frozen 1
        simp at hw0 hw1 hq0 hq1 hk0 hk1
        have HO10 : Hid (OwnD (((wr.setCell ⟨w1.heap.size, 1, none⟩ (.slice none 0 0)).setCell ⟨w.heap.size + 1, 0, none⟩ (.slice a1 d.1.length c1)).setCell ⟨w.heap.size + 1, 1, none⟩ (.slice none 0 0)) w.heap.size (.agg #[.slice a1 d.1.length c1, .slice none 0 0]) (putIn d.1 d.2, [])) := ((hO9.setVar hR9 0 _).setVar (hR9.set 0 _) 1 _).base (by omega)
        have HR10 : Hid (Var (((wr.setCell ⟨w1.heap.size, 1, none⟩ (.slice none 0 0)).setCell ⟨w.heap.size + 1, 0, none⟩ (.slice a1 d.1.length c1)).setCell ⟨w.heap.size + 1, 1, none⟩ (.slice none 0 0)) (w.heap.size + 1) #[.slice a1 d.1.length c1, .slice none 0 0] 27) := hR9.two _ _
        have hb10 : Below w.heap.size w (((wr.setCell ⟨w1.heap.size, 1, none⟩ (.slice none 0 0)).setCell ⟨w.heap.size + 1, 0, none⟩ (.slice a1 d.1.length c1)).setCell ⟨w.heap.size + 1, 1, none⟩ (.slice none 0 0)) := (hb09.setCell (p := ⟨w.heap.size + 1, 0, none⟩) (by show _ ≤ w.heap.size + 1; omega) _).setCell (p := ⟨w.heap.size + 1, 1, none⟩) (by show _ ≤ w.heap.size + 1; omega) _
        clear hV9 hR9 ho9 hO9 hb09 hXr hRr hVr
        go_wp2
        refine bodyPost_ret (results_cell_row rfl _ _ (w.heap.size + 1) 27 #[.slice a1 d.1.length c1, .slice none 0 0] (0, 0) _ rfl HR10.out Tryd.underlying27 rfl Tryd.sizeDisk) rfl ?_
        exact ⟨_, rfl, by rw [HF.out]; exact HO10.out, hb10⟩
end Go.Proofs.YtlidmnehpcodkaaDoor

/-
  Own text: a fall of the power, as the other program does it.
-/
namespace Go.Proofs.YtlidmnehpcodkaaDoor
open Go.RowKit

def encB (b : Bool) : List Value := [.bool b]
theorem encB_len (b : Bool) : (encB b).length = 1 := rfl
theorem keepL_take : ∀ (l : List PutD) (ks : List Bool) (k : Nat) (h : k < l.length) (h' : k < ks.length), keepL (l.take (k + 1)) ks = keepL (l.take k) ks ++ (if ks[k] then [l[k]] else [])
  | p :: l, c :: ks, 0, _, _ => by cases c <;> simp [keepL]
  | p :: l, c :: ks, k + 1, h, h' => by
    have ih := keepL_take l ks k (by simpa using h) (by simpa using h')
    cases c
    · simp only [List.take_succ_cons, keepL]
      simpa using ih
    · simp only [List.take_succ_cons, keepL, if_true]
      rw [ih]
      simp
theorem keepL_short : ∀ (l : List PutD) (ks : List Bool) (k : Nat), (l.length ≤ k ∨ ks.length ≤ k) → keepL (l.take k) ks = keepL l ks
  | [], ks, k, _ => by simp
  | p :: l, [], k, _ => by cases k <;> simp [keepL]
  | p :: l, c :: ks, 0, h => by simp at h
  | p :: l, c :: ks, k + 1, h => by
    have ih := keepL_short l ks k (by simpa using h)
    simp only [List.take_succ_cons, keepL]
    rw [ih]

set_option maxRecDepth 20000 in
set_option maxHeartbeats 2000000 in
theorem specFall (v : Value) (d : DiskD) (q : Option Addr) (qc : Nat) (ks : List Bool) (w : World) (hl : d.1.length ≤ 4194303 ∧ d.2.length ≤ 4194303) (hr : RdD w v d) (hrq : RdF encB 1 w q ks) :
    Calls Tryd.prog 64 #[v, .slice q ks.length qc] w fun e w' => ∃ v', e = .returned v' ∧ OwnD w' w.heap.size v' (dkFall d ks) ∧ Below w.heap.size w w' := by
  have hrd := hr
  obtain ⟨a, ca, b, cb, rfl, r1, r2⟩ := hr
  have hl1 := hl.1
  have hl2 := hl.2
  have HPS : Hid (∀ k (hk : k < d.2.length), ∃ x off, b = some ⟨x, off, none⟩ ∧ x < w.heap.size ∧ w.cell? ⟨x, off + k * 2, none⟩ = some (.int .i64 d.2[k].1) ∧ w.cell? ⟨x, off + k * 2 + 1, none⟩ = some (.string d.2[k].2)) := by
    intro k hk
    obtain ⟨x, off, h1, h2, h3⟩ := r2.at k hk
    exact ⟨x, off, h1, h2, h3 0 (by omega), h3 1 (by omega)⟩
  have HOK : Hid (∀ W, Below w.heap.size w W → Calls Tryd.prog 24 #[.agg #[.slice a d.1.length ca, .slice b d.2.length cb]] W fun e w' => e = .returned (.bool (dkOk d)) ∧ Below W.heap.size W w') :=
    fun W hW => specDiskOk _ d W ⟨by omega, by omega⟩ (hrd.below hW (Nat.le_refl _))
  have HDF : Hid (dkFall d ks = if dkOk d = true then (putIn d.1 (keepL d.2 ks), []) else d) := rfl
  have HKS : Hid (∀ k (hk : k < ks.length), ∃ x off, q = some ⟨x, off, none⟩ ∧ x < w.heap.size ∧ w.cell? ⟨x, off + k, none⟩ = some (.bool ks[k])) := by
    intro k hk
    obtain ⟨x, off, h1, h2, h3⟩ := hrq.at k hk
    have := h3 0 (by omega)
    rw [Nat.mul_one, Nat.add_zero] at this
    exact ⟨x, off, h1, h2, this⟩
  have HCP : Hid (∀ W, Below w.heap.size w W → Calls Tryd.prog 63 #[.agg #[.slice a d.1.length ca, .slice b d.2.length cb]] W fun e w' => ∃ v', e = .returned v' ∧ OwnD w' W.heap.size v' d ∧ Below W.heap.size W w') :=
    fun W hW => copyD _ d W ⟨by omega, by omega⟩ (hrd.below hW (Nat.le_refl _))
  clear r1 r2 hrd hrq
  go_enter Tryd.func64, Tryd.ntmps64
  go_wp2_with fail
  refine (HCP.out _ (below2 _ _ _)).mono ?_
  rintro e w1 ⟨v1, rfl, ho1, hb1⟩
  obtain ⟨u1, u2, rfl, o1, o2⟩ := ho1
  obtain ⟨a1, c1, rfl, _, _⟩ := own_rdS o1
  obtain ⟨b1, d1, rfl, _, _⟩ := own_rdF encP_len o2 rfl
  have hs0 : ((w.alloc (.cells #[.slice a d.1.length ca, .slice b d.2.length cb] 27)).alloc (.cells #[.slice none 0 0, .slice none 0 0] 27)).heap.size = w.heap.size + 2 := by simp
  have hX1 : Var w1 w.heap.size #[.slice a d.1.length ca, .slice b d.2.length cb] 27 := ((Var.made w _ _).alloc _).new hb1
  have hR1 : Var w1 (w.heap.size + 1) #[.slice none 0 0, .slice none 0 0] 27 := (Var.made2 w _ _ _).new hb1
  have hb01 : Below w.heap.size w w1 := (below2 w _ _).trans (hb1.mono (by simp; omega))
  rw [hs0] at o1 o2
  have hlt1 : w.heap.size + 2 ≤ w1.heap.size := hR1.lt
  have hV2 : Var (w1.alloc (.cells #[.slice a1 d.1.length c1, .slice b1 d.2.length d1] 27)) w1.heap.size #[.slice a1 d.1.length c1, .slice b1 d.2.length d1] 27 := Var.made w1 _ _
  have hX2 := hX1.alloc (.cells #[.slice a1 d.1.length c1, .slice b1 d.2.length d1] 27)
  have hR2 := hR1.alloc (.cells #[.slice a1 d.1.length c1, .slice b1 d.2.length d1] 27)
  have o12 := o1.alloc (.cells #[.slice a1 d.1.length c1, .slice b1 d.2.length d1] 27)
  have o22 := o2.alloc (.cells #[.slice a1 d.1.length c1, .slice b1 d.2.length d1] 27)
  have hb02 : Below w.heap.size w (w1.alloc (.cells #[.slice a1 d.1.length c1, .slice b1 d.2.length d1] 27)) := hb01.alloc (by omega) _
  have hx0 := hX2.cell 0
  have hx1 := hX2.cell 1
  simp at hx0 hx1
  clear hX1 hR1 hb01 hb1 hs0 o1 o2 HCP
  go_wp2_with fail
  clear hx0 hx1
  generalize w1.alloc (.cells #[.slice a1 d.1.length c1, .slice b1 d.2.length d1] 27) = W2 at *
  refine (HOK.out W2 hb02).mono ?_
  rintro e w3 ⟨rfl, hb3⟩
  have hX3 := hX2.new hb3
  have hR3 := hR2.new hb3
  have hV3 := hV2.new hb3
  have o13 := ownsRow_below o12 hb3 (Nat.le_refl _)
  have o23 := ownsRow_below o22 hb3 (Nat.le_refl _)
  have hb03 : Below w.heap.size w w3 := hb02.trans (hb3.mono hb02.size)
  have hv0 := hV3.cell 0
  have hv1 := hV3.cell 1
  have hx1 := hX3.cell 1
  simp at hv0 hv1 hx1
  have HR3 : Hid (Var w3 (w.heap.size + 1) #[.slice none 0 0, .slice none 0 0] 27) := hR3
  clear hX2 hR2 hV2 o12 o22 hb02 hb3 HOK hR3
  cases hok : dkOk d with
  | false =>
    have HF : Hid (dkFall d ks = d) := by show _ = _; rw [HDF.out, hok]; rfl
    have hO3 : OwnD w3 (w.heap.size + 2) (.agg #[.slice a1 d.1.length c1, .slice b1 d.2.length d1]) d := ⟨_, _, rfl, o13, o23⟩
    have HO10 : Hid (OwnD ((w3.setCell ⟨w.heap.size + 1, 0, none⟩ (.slice a1 d.1.length c1)).setCell ⟨w.heap.size + 1, 1, none⟩ (.slice b1 d.2.length d1)) w.heap.size (.agg #[.slice a1 d.1.length c1, .slice b1 d.2.length d1]) d) := ((hO3.setVar HR3.out 0 _).setVar (HR3.out.set 0 _) 1 _).base (by omega)
    have HR10 : Hid (Var ((w3.setCell ⟨w.heap.size + 1, 0, none⟩ (.slice a1 d.1.length c1)).setCell ⟨w.heap.size + 1, 1, none⟩ (.slice b1 d.2.length d1)) (w.heap.size + 1) #[.slice a1 d.1.length c1, .slice b1 d.2.length d1] 27) := HR3.out.two _ _
    have hb10 : Below w.heap.size w ((w3.setCell ⟨w.heap.size + 1, 0, none⟩ (.slice a1 d.1.length c1)).setCell ⟨w.heap.size + 1, 1, none⟩ (.slice b1 d.2.length d1)) := (hb03.setCell (p := ⟨w.heap.size + 1, 0, none⟩) (by show _ ≤ w.heap.size + 1; omega) _).setCell (p := ⟨w.heap.size + 1, 1, none⟩) (by show _ ≤ w.heap.size + 1; omega) _
    have hq0 := HR3.out.cell 0
    have hq1 := (HR3.out.set 0 (.slice a1 d.1.length c1)).cell 1
    have hk0 := HR3.out.frozen 0
    have hk1 := HR3.out.frozen 1
    simp at hq0 hq1
    clear hO3 o13 o23 hX3 hV3
    go_wp2
    refine bodyPost_ret (results_cell_row rfl _ _ (w.heap.size + 1) 27 #[.slice a1 d.1.length c1, .slice b1 d.2.length d1] (0, 0) _ rfl HR10.out Tryd.underlying27 rfl Tryd.sizeDisk) rfl ?_
    exact ⟨_, rfl, by rw [HF.out]; exact HO10.out, hb10⟩
  | true =>
    have HF : Hid (dkFall d ks = (putIn d.1 (keepL d.2 ks), [])) := by show _ = _; rw [HDF.out, hok]; rfl
    have HAT : Hid (∀ k (hk : k < d.2.length), 0 ≤ d.2[k].1 ∧ d.2[k].1 < (d.1.length : Int)) := by
      intro k hk
      have := (dkOk_iff.1 hok).2.2.2 _ (List.getElem_mem hk)
      exact ⟨this.1, this.2.1⟩
    have HX3 : Hid (Var w3 w.heap.size #[.slice a d.1.length ca, .slice b d.2.length cb] 27) := hX3
    have HV3 : Hid (Var w3 w1.heap.size #[.slice a1 d.1.length c1, .slice b1 d.2.length d1] 27) := hV3
    have hbl : ∀ k, blk (.slice a1 d.1.length c1) k → w.heap.size + 2 ≤ k ∧ k < w3.heap.size := o13.lt
    have HNX : Hid (¬ blk (.slice a1 d.1.length c1) w.heap.size ∧ ¬ blk (.slice a1 d.1.length c1) (w.heap.size + 1) ∧ ¬ blk (.slice a1 d.1.length c1) w1.heap.size) := ⟨own_var o13 hX3 (by decide), own_var o13 HR3.out (by decide), own_var o13 hV3 (by decide)⟩
    have HO13 : Hid (w3.ownsRow (w.heap.size + 2) 9 1 (.slice a1 d.1.length c1) d.1.length (d.1.map Value.string)) := o13
    clear hX3 hV3 o13 o23
    go_wp2
    go_loopw [6] (fun i wr => ∃ k : Nat, k ≤ d.2.length ∧ k ≤ ks.length ∧ i = .int .i64 k ∧ Hid (wr.ownsRow (w.heap.size + 2) 9 1 (.slice a1 d.1.length c1) d.1.length ((putIn d.1 (keepL (d.2.take k) ks)).map Value.string)) ∧ Hid (Only (blk (.slice a1 d.1.length c1)) w3 wr)) (fun i _ => d.2.length - (intOf i).toNat)
    case atStart => exact ⟨0, Nat.zero_le _, Nat.zero_le _, rfl, by show World.ownsRow _ _ _ _ _ _ _; rw [List.take_zero]; exact HO13.out, Only.refl _ _⟩
    case round =>
      obtain ⟨k, hk, hkq, rfl, HOW, HON⟩ := hrel
      have hXr := HX3.out.only HON.out HNX.out.1
      have hRr := HR3.out.only HON.out HNX.out.2.1
      have hVr := HV3.out.only HON.out HNX.out.2.2
      have hb0r : Below w.heap.size w wr := hb03.trans (HON.out.below hb03.size (fun j hj => by have := (hbl j hj).1; omega))
      have hxr1 := hXr.cell 1
      have hvr0 := hVr.cell 0
      have hvr1 := hVr.cell 1
      simp at hxr1 hvr0 hvr1
      by_cases hboth : k < d.2.length ∧ k < ks.length
      · obtain ⟨hlt, hltq⟩ := hboth
        obtain ⟨xq, offq, rfl, hbq, hcq⟩ := HKS.out k hltq
        have hdq : wr.cell? ⟨xq, offq + k, none⟩ = some (.bool ks[k]) := (hb0r.cell hbq).trans hcq
        clear hcq
        have HKT : Hid (keepL (d.2.take (k + 1)) ks = keepL (d.2.take k) ks ++ (if ks[k] then [d.2[k]] else [])) := keepL_take d.2 ks k hlt hltq
        cases hkk : ks[k] with
        | false =>
          have HOW' : Hid (wr.ownsRow (w.heap.size + 2) 9 1 (.slice a1 d.1.length c1) d.1.length ((putIn d.1 (keepL (d.2.take (k + 1)) ks)).map Value.string)) := by
            show World.ownsRow _ _ _ _ _ _ _
            rw [HKT.out, hkk]
            simpa using HOW.out
          rw [hkk] at hdq
          clear hXr hRr hVr
          go_wp2
          go_roundw
          case rel => exact ⟨k + 1, by omega, by omega, by go_num, HOW', HON⟩
          case measure => simp [intOf]; omega
        | true =>
        rw [hkk] at hdq
        obtain ⟨x, off, rfl, hblt, hc0, hc1⟩ := HPS.out k hlt
        have hd0 : wr.cell? ⟨x, off + k * 2, none⟩ = some (.int .i64 d.2[k].1) := (hb0r.cell hblt).trans hc0
        have hd1 : wr.cell? ⟨x, off + k * 2 + 1, none⟩ = some (.string d.2[k].2) := (hb0r.cell hblt).trans hc1
        obtain ⟨hat0, hat1⟩ := HAT.out k hlt
        have HPT : Hid (putIn d.1 (keepL (d.2.take (k + 1)) ks) = (putIn d.1 (keepL (d.2.take k) ks)).set d.2[k].1.toNat d.2[k].2) := by
          show _ = _
          rw [HKT.out, hkk, if_pos rfl, putIn_app]
          rfl
        have hplen : (putIn d.1 (keepL (d.2.take k) ks)).length = d.1.length := putIn_len _ _
        have hform := HOW.out.2
        rcases hform with ⟨hv, hn0⟩ | ⟨g, cap, cur, hv, hgb, _⟩
        · exfalso; omega
        · simp only [Value.slice.injEq] at hv
          obtain ⟨rfl, _, rfl⟩ := hv
          have hcg := HOW.out.cellAt d.2[k].1.toNat (by omega)
          have hfg := HOW.out.frozenAt d.2[k].1.toNat
          have hst := (HOW.out.stored d.2[k].1.toNat (.string d.2[k].2)).1
          rw [← List.map_set, ← HPT.out] at hst
          have HST : Hid ((wr.setCell ⟨g, d.2[k].1.toNat, none⟩ (.string d.2[k].2)).ownsRow (w.heap.size + 2) 9 1 (.slice (some ⟨g, 0, none⟩) d.1.length c1) d.1.length ((putIn d.1 (keepL (d.2.take (k + 1)) ks)).map Value.string)) := hst
          have HON' : Hid (Only (blk (.slice (some ⟨g, 0, none⟩) d.1.length c1)) w3 (wr.setCell ⟨g, d.2[k].1.toNat, none⟩ (.string d.2[k].2))) := HON.out.setCell (p := ⟨g, d.2[k].1.toNat, none⟩) rfl _
          obtain ⟨old, hcg2⟩ : ∃ o, wr.cell? ⟨g, d.2[k].1.toNat, none⟩ = some o := by
            rw [hcg]
            exact ⟨_, List.getElem?_eq_getElem (by simp [hplen]; omega)⟩
          clear hcg hst hc0 hc1 hXr hRr hVr HPT HKT
          generalize d.2[k].1 = yn at *
          generalize d.2[k].2 = ys at *
          go_wp2
          go_region
          all_goals
            go_wp2
            go_roundw
            case rel => exact ⟨k + 1, by omega, by omega, by go_num, HST.out.drew, HON'.out.drew⟩
            case measure => simp [intOf]; omega
      · have hend : d.2.length ≤ k ∨ ks.length ≤ k := by omega
        have HKE : Hid (keepL (d.2.take k) ks = keepL d.2 ks) := keepL_short d.2 ks k hend
        have HOF : Hid (wr.ownsRow (w.heap.size + 2) 9 1 (.slice a1 d.1.length c1) d.1.length ((putIn d.1 (keepL d.2 ks)).map Value.string)) := by have := HOW.out; rw [HKE.out] at this; exact this
        have hf1 := hVr.frozen 1
        have HVr : Hid (Var wr w1.heap.size #[.slice a1 d.1.length c1, .slice b1 d.2.length d1] 27) := hVr
        have hV9 := hVr.set 1 (.slice none 0 0)
        have hR9 := hRr.other (Q := w1.heap.size) (by omega) 1 (.slice none 0 0)
        have ho9 := own_setVar HOF.out hVr (by decide) 1 (.slice none 0 0)
        have hO9 : OwnD (wr.setCell ⟨w1.heap.size, 1, none⟩ (.slice none 0 0)) (w.heap.size + 2) (.agg #[.slice a1 d.1.length c1, .slice none 0 0]) (putIn d.1 (keepL d.2 ks), []) := by
          refine ⟨_, _, rfl, ?_, World.ownsRow_nil _ _ _ _⟩
          rw [putIn_len]
          exact ho9
        have hb09 : Below w.heap.size w (wr.setCell ⟨w1.heap.size, 1, none⟩ (.slice none 0 0)) := hb0r.setCell (p := ⟨w1.heap.size, 1, none⟩) (by show _ ≤ w1.heap.size; omega) _
        have hw0 := hV9.cell 0
        have hw1 := hV9.cell 1
        have hq0 := hR9.cell 0
        have hq1 := (hR9.set 0 (.slice a1 d.1.length c1)).cell 1
        have hk0 := hR9.frozen 0
        have hk1 := hR9.frozen 1
        simp at hw0 hw1 hq0 hq1 hk0 hk1
        have HO10 : Hid (OwnD (((wr.setCell ⟨w1.heap.size, 1, none⟩ (.slice none 0 0)).setCell ⟨w.heap.size + 1, 0, none⟩ (.slice a1 d.1.length c1)).setCell ⟨w.heap.size + 1, 1, none⟩ (.slice none 0 0)) w.heap.size (.agg #[.slice a1 d.1.length c1, .slice none 0 0]) (putIn d.1 (keepL d.2 ks), [])) := ((hO9.setVar hR9 0 _).setVar (hR9.set 0 _) 1 _).base (by omega)
        have HR10 : Hid (Var (((wr.setCell ⟨w1.heap.size, 1, none⟩ (.slice none 0 0)).setCell ⟨w.heap.size + 1, 0, none⟩ (.slice a1 d.1.length c1)).setCell ⟨w.heap.size + 1, 1, none⟩ (.slice none 0 0)) (w.heap.size + 1) #[.slice a1 d.1.length c1, .slice none 0 0] 27) := hR9.two _ _
        have hb10 : Below w.heap.size w (((wr.setCell ⟨w1.heap.size, 1, none⟩ (.slice none 0 0)).setCell ⟨w.heap.size + 1, 0, none⟩ (.slice a1 d.1.length c1)).setCell ⟨w.heap.size + 1, 1, none⟩ (.slice none 0 0)) := (hb09.setCell (p := ⟨w.heap.size + 1, 0, none⟩) (by show _ ≤ w.heap.size + 1; omega) _).setCell (p := ⟨w.heap.size + 1, 1, none⟩) (by show _ ≤ w.heap.size + 1; omega) _
        clear hV9 hR9 ho9 hO9 hb09 hXr hRr hVr
        by_cases hdk : k < d.2.length
        · have hnk : ¬ k < ks.length := by omega
          go_wp2
          refine bodyPost_ret (results_cell_row rfl _ _ (w.heap.size + 1) 27 #[.slice a1 d.1.length c1, .slice none 0 0] (0, 0) _ rfl HR10.out Tryd.underlying27 rfl Tryd.sizeDisk) rfl ?_
          exact ⟨_, rfl, by rw [HF.out]; exact HO10.out, hb10⟩
        · go_wp2
          refine bodyPost_ret (results_cell_row rfl _ _ (w.heap.size + 1) 27 #[.slice a1 d.1.length c1, .slice none 0 0] (0, 0) _ rfl HR10.out Tryd.underlying27 rfl Tryd.sizeDisk) rfl ?_
          exact ⟨_, rfl, by rw [HF.out]; exact HO10.out, hb10⟩

/-! ### For the laws' walks -/
theorem OwnD.notVar {w : World} {lo : Nat} {v : Value} {d : DiskD} {P : Nat} {C : Array Value} {t : TypeId} (h : OwnD w lo v d) (hV : Var w P C t) (h1 : 9 ≠ t) (h2 : 39 ≠ t) : ¬ blkD v P := by
  obtain ⟨v1, v2, rfl, o1, o2⟩ := h
  rintro ⟨x, y, e, hk⟩
  cases e
  rcases hk with hk | hk
  · exact own_var o1 hV h1 hk
  · exact own_var o2 hV h2 hk
theorem len_of_sz1 {d : DiskD} (h : szD d ≤ 1048576) : d.1.length ≤ 4194303 ∧ d.2.length ≤ 4194303 := by
  have h1 := szT_len d.1
  have h2 := szP_len d.2
  unfold szD at h
  omega
theorem len_flush {d : DiskD} (h : d.1.length ≤ 4194303 ∧ d.2.length ≤ 4194303) : (dkFlush d).1.length ≤ 4194304 ∧ (dkFlush d).2.length ≤ 4194304 := by
  unfold dkFlush
  split
  · exact ⟨by show (putIn d.1 d.2).length ≤ _; rw [putIn_len]; omega, by simp⟩
  · omega
theorem len_fall {d : DiskD} {ks : List Bool} (h : d.1.length ≤ 4194303 ∧ d.2.length ≤ 4194303) : (dkFall d ks).1.length ≤ 4194304 ∧ (dkFall d ks).2.length ≤ 4194304 := by
  unfold dkFall
  split
  · exact ⟨by show (putIn d.1 _).length ≤ _; rw [putIn_len]; omega, by simp⟩
  · omega
theorem len_write {d : DiskD} {at' : Int} {s : ByteArray} (h : d.1.length ≤ 4194303 ∧ d.2.length ≤ 4194303) : (wrD d at' s).1.length ≤ 4194304 ∧ (wrD d at' s).2.length ≤ 4194304 := by
  unfold wrD dkWrite
  split
  · exact ⟨by show d.1.length ≤ _; omega, by show (d.2 ++ [(at', s)]).length ≤ _; simp; omega⟩
  · exact ⟨by show d.1.length ≤ _; omega, by show d.2.length ≤ _; omega⟩
end Go.Proofs.YtlidmnehpcodkaaDoor

/-
  Own text: a new disk, as the other program makes it.
-/
namespace Go.Proofs.YtlidmnehpcodkaaDoor
open Go.RowKit

def newOk (n : Int) : Bool := decide (1 ≤ n) && decide (n ≤ 120)
def newD' (n : Int) : DiskD := if newOk n = true then (List.replicate n.toNat ⟨#[]⟩, []) else ([], [])
theorem new_no {n : Int} (h : newOk n = false) : newD' n = ([], []) := by simp [newD', h]
theorem new_yes {n : Int} (h : newOk n = true) : newD' n = (List.replicate n.toNat ⟨#[]⟩, []) := by simp [newD', h]

theorem len_new (n : Int) : (newD' n).1.length ≤ 4194304 ∧ (newD' n).2.length ≤ 4194304 := by
  unfold newD'
  split
  · rename_i h
    have : 1 ≤ n ∧ n ≤ 120 := by simpa [newOk] using h
    exact ⟨by show (List.replicate n.toNat _).length ≤ _; rw [List.length_replicate]; omega, by simp⟩
  · simp

set_option maxRecDepth 20000 in
set_option maxHeartbeats 400000 in
theorem specDiskNew (n : Int) (w : World) :
    Calls Tryd.prog 88 #[.int .i64 n] w fun e w' => ∃ v', e = .returned (.tuple #[v', .bool (newOk n)]) ∧ OwnD w' w.heap.size v' (newD' n) ∧ Below w.heap.size w w' := by
  obtain ⟨i0, hi, hz0, hz1, hz2⟩ := info_parts Tryd.infoTxt
  have HI : Hid (∀ q, newOk n = q → ∀ W, Calls Tryd.prog 76 #[.int .i64 n, .int .i64 1, .int .i64 120] W fun e w' => e = .returned (.bool q) ∧ w' = W) := by
    rintro q rfl W
    exact inW n 1 120 W
  cases hn : newOk n with
  | false =>
    have HN : Hid (newD' n = ([], [])) := new_no hn
    have HI' : Hid (∀ W, Calls Tryd.prog 76 #[.int .i64 n, .int .i64 1, .int .i64 120] W fun e w' => e = .returned (.bool false) ∧ w' = W) := HI.out false hn
    clear HI hn
    go_enter Tryd.func88, Tryd.ntmps88
    go_wp2_with (go_at_call 76; refine (HI'.out _).mono ?_; rintro e w1 ⟨rfl, hw1⟩; subst w1)
    refine bodyPost_ret (results_row_tmp rfl _ _ w.heap.size 27 #[.slice none 0 0, .slice none 0 0] _ rfl (Var.made w _ _) Tryd.underlying27 rfl Tryd.sizeDisk) rfl ?_
    exact ⟨_, rfl, by rw [HN.out]; exact ⟨_, _, rfl, World.ownsRow_nil _ _ _ _, World.ownsRow_nil _ _ _ _⟩, below1 _ _⟩
  | true =>
    have HN : Hid (newD' n = (List.replicate n.toNat ⟨#[]⟩, [])) := new_yes hn
    have HI' : Hid (∀ W, Calls Tryd.prog 76 #[.int .i64 n, .int .i64 1, .int .i64 120] W fun e w' => e = .returned (.bool true) ∧ w' = W) := HI.out true hn
    have hn2 : 1 ≤ n ∧ n ≤ 120 := by simpa [newOk] using hn
    obtain ⟨m, rfl⟩ : ∃ m : Nat, n = m := ⟨n.toNat, by omega⟩
    obtain ⟨hn1, hn3⟩ := hn2
    clear HI hn
    rw [Int.toNat_natCast] at HN
    go_enter Tryd.func88, Tryd.ntmps88
    go_wp2_with fail
    refine (HI'.out _).mono ?_
    rintro e w1 ⟨rfl, hw1⟩
    subst w1
    go_wp2_with (at_make; refine wpList_make_full _ rfl _ _ 24 rfl w.heap.size 9 i0 (.string ⟨#[]⟩) 1 Tryd.underlying24 hi hz0 hz1 _ _ _ _ m rfl rfl rfl rfl (by rw [hz2]; omega) (by unfold maxLen; omega) (by simp) ?_)
    intro w2 hown hgrow
    have hR2 : Var w2 w.heap.size #[.slice none 0 0, .slice none 0 0] 27 := (Var.made w _ _).only (Only.of_grown hgrow) (by simp)
    have hb2 : Below w.heap.size w w2 := (below1 w _).grown hgrow (by simp) (fun k hk => by simp at hk)
    have hown' : w2.ownsRow w.heap.size 9 1 (.slice (some ⟨w.heap.size + 1, 0, none⟩) m m) m ((List.replicate m ⟨#[]⟩).map Value.string) := by
      rw [← made_txt]
      exact hown
    have hO2 : OwnD w2 w.heap.size (.agg #[.slice (some ⟨w.heap.size + 1, 0, none⟩) m m, .slice none 0 0]) (List.replicate m ⟨#[]⟩, []) := by
      refine ⟨_, _, rfl, ?_, World.ownsRow_nil _ _ _ _⟩
      rw [List.length_replicate]
      exact hown'
    have HO3 : Hid (OwnD ((w2.setCell ⟨w.heap.size, 0, none⟩ (.slice (some ⟨w.heap.size + 1, 0, none⟩) m m)).setCell ⟨w.heap.size, 1, none⟩ (.slice none 0 0)) w.heap.size (.agg #[.slice (some ⟨w.heap.size + 1, 0, none⟩) m m, .slice none 0 0]) (List.replicate m ⟨#[]⟩, [])) := (hO2.setVar hR2 0 _).setVar (hR2.set 0 _) 1 _
    have HR3 : Hid (Var ((w2.setCell ⟨w.heap.size, 0, none⟩ (.slice (some ⟨w.heap.size + 1, 0, none⟩) m m)).setCell ⟨w.heap.size, 1, none⟩ (.slice none 0 0)) w.heap.size #[.slice (some ⟨w.heap.size + 1, 0, none⟩) m m, .slice none 0 0] 27) := hR2.two _ _
    have hb3 : Below w.heap.size w ((w2.setCell ⟨w.heap.size, 0, none⟩ (.slice (some ⟨w.heap.size + 1, 0, none⟩) m m)).setCell ⟨w.heap.size, 1, none⟩ (.slice none 0 0)) := (hb2.setCell (p := ⟨w.heap.size, 0, none⟩) (Nat.le_refl _) _).setCell (p := ⟨w.heap.size, 1, none⟩) (Nat.le_refl _) _
    have hq0 := hR2.cell 0
    have hq1 := (hR2.set 0 (.slice (some ⟨w.heap.size + 1, 0, none⟩) m m)).cell 1
    have hk0 := hR2.frozen 0
    have hk1 := hR2.frozen 1
    simp at hq0 hq1
    clear hR2 hb2 hown hgrow hown' hO2
    go_wp2
    refine bodyPost_ret (results_row_tmp rfl _ _ w.heap.size 27 #[.slice (some ⟨w.heap.size + 1, 0, none⟩) m m, .slice none 0 0] _ rfl HR3.out Tryd.underlying27 rfl Tryd.sizeDisk) rfl ?_
    exact ⟨_, rfl, by rw [HN.out]; exact HO3.out, hb3⟩
end Go.Proofs.YtlidmnehpcodkaaDoor

/-
  Own text: the laws' helpers over rows of yes and no: a copy, alike, marked; what the frame tells of such a row that came in.
-/
namespace Go.Proofs.YtlidmnehpcodkaaDoor
open Go.RowKit

theorem Tryd.infoBool : (Tryd.prog.info? 4).map (fun i => (i.zero, i.size, i.bytes)) = some (some (.bool false), 1, 1) := by kernel_rfl
theorem RdF.cellB {w : World} {a : Option Addr} {l : List Bool} (h : RdF encB 1 w a l) (k : Nat) (hk : k < l.length) : ∃ x off, a = some ⟨x, off, none⟩ ∧ x < w.heap.size ∧ w.cell? ⟨x, off + k, none⟩ = some (.bool l[k]) := by
  obtain ⟨x, off, h1, h2, h3⟩ := h.at k hk
  have := h3 0 (by omega)
  rw [Nat.mul_one, Nat.add_zero] at this
  exact ⟨x, off, h1, h2, this⟩
theorem flatB (l : List Bool) : l.flatMap encB = l.map Value.bool := by
  induction l with
  | nil => rfl
  | cons b l ih => rw [List.flatMap_cons, ih]; rfl

theorem rdB {w : World} {base : Nat} {a : Option Addr} {cap : Nat} {l : List Bool} (h : w.ownsRow base 4 1 (.slice a l.length cap) l.length (l.flatMap encB)) : RdF encB 1 w a l := by
  obtain ⟨a', c', e, _, hr⟩ := own_rdF encB_len h rfl
  cases e
  exact hr
theorem OwnD.notRow {w : World} {lo lo' : Nat} {v u : Value} {d : DiskD} {e : TypeId} {size n : Nat} {xs : List Value} (h : OwnD w lo v d) (hr : w.ownsRow lo' e size u n xs) (h1 : 9 ≠ e) (h2 : 39 ≠ e) : ∀ j, blkD v j → ¬ u.ownBlock = some j := by
  obtain ⟨v1, v2, rfl, o1, o2⟩ := h
  rintro j ⟨x, y, e', hk⟩ hu
  cases e'
  rcases hk with hk | hk
  · exact own_apart o1 hr h1 j hk hu
  · exact own_apart o2 hr h2 j hk hu
theorem cnt_le {d : DiskD} (h : szD d ≤ 1048576) : 1 + cntD d ≤ 2147483648 := by
  have h1 := szT_len d.1
  have h2 := szP_len d.2
  unfold szD at h
  unfold cntD
  omega

section
open Go.ChangeShapes Go.WideShapes Go.ChangeAt
variable {H : Type} {enc : TypeId × Value → H} {w : World} {held : Bool}
set_option maxRecDepth 100000 in
theorem open_Bools {r : Reach} {b0 : Nat} {v : Value} {d : DataW H} {p : List MemPlace} (hv : Value.okWide Tryd.prog w r b0 32 v) (h : DataW.Trod enc Tryd.prog w 0 (fun _ => true) held 32 v d p) :
    ∃ (a : Option Addr) (cap : Nat) (l : List Bool), v = .slice a l.length cap ∧ l.length ≤ maxLen ∧ RdF encB 1 w a l := by
  obtain ⟨a0, len0, cap0, rfl⟩ := okWide_slice Tryd.underlying32 hv
  obtain ⟨fuel, hf⟩ := h
  rcases Go.Deep.open_bools Tryd.underlying32 Tryd.underlying4 (by kernel_rfl) hf with ⟨hcs, _⟩ | ⟨x, l, c, B, hcs, _, hl, hm, _, hcell⟩
  · simp [Value.cells] at hcs
    obtain ⟨rfl, rfl, rfl⟩ := hcs
    exact ⟨none, 0, [], rfl, Nat.zero_le _, .inl rfl⟩
  · simp [Value.cells] at hcs
    obtain ⟨rfl, rfl, rfl⟩ := hcs
    refine ⟨some x, cap0, (List.range len0).map B, by simp, by simp; omega, ?_⟩
    by_cases h0 : len0 = 0
    · left; simp [h0]
    · right
      obtain ⟨b, off, spot⟩ := x
      have hc0 := hcell 0 (by omega)
      have hspot : spot = none := by simpa [Addr.add] using World.cell?_spot hc0
      subst hspot
      refine ⟨b, off, rfl, World.block_lt_of_cell? w _ hc0, fun i hi j hj => ?_⟩
      simp at hi
      obtain rfl : j = 0 := by omega
      have := hcell i (by omega)
      rw [Go.WideShapes.add_plain] at this
      rw [Nat.mul_one, Nat.add_zero, this]
      simp [encB]
end
end Go.Proofs.YtlidmnehpcodkaaDoor
