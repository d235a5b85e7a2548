/-
  Own texts, several together.
-/
import Derived.Test.YtlidmnehpcodkaaDoorBunS
import Derived.Test.YtlidmnehpcodkaaDoorCloneW
import Derived.Test.YtlidmnehpcodkaaDoorBunA
import Derived.Deep.RegionLaw
import Derived.Deep.RegionLawGrows
import Derived.Test.YtlidmnehpcodkaaDoorShelfM
import Derived.Laws.CopyOwn
import Derived.Test.YtlidmnehpcodkaaDoorBunC
/-
  Own text: the program's own right disks.
-/
namespace Go.Proofs.YtlidmnehpcodkaaDoor
open Go.RowKit

theorem implHas (P : Nat) (a : Option Addr) (n ca : Nat) (at' : Int) (w : World) (hc : w.cell? ⟨P, 0, none⟩ = some (.slice a n ca)) :
    Calls Tryd.prog 100 #[.pointer (some ⟨P, 0, none⟩), .int .i64 at'] w fun e w' => e = .returned (.bool (decide (0 ≤ at') && decide (at' ≤ (n : Int) - 1))) ∧ w' = w := by
  by_cases h0 : 0 ≤ at'
  · by_cases h1 : at' < (n : Int)
    · have h2 : at' ≤ (n : Int) - 1 := by omega
      go_enter Tryd.func100, Tryd.ntmps100
      go_wp2
      go_ret
      exact ⟨by simp [h0, h2], rfl⟩
    · have h2 : ¬ at' ≤ (n : Int) - 1 := by omega
      go_enter Tryd.func100, Tryd.ntmps100
      go_wp2
      go_ret
      exact ⟨by simp [h2], rfl⟩
  · have h2 : ¬ (0 ≤ at' ∧ at' ≤ (n : Int) - 1) := by omega
    go_enter Tryd.func100, Tryd.ntmps100
    go_wp2
    go_ret
    exact ⟨by rw [← Bool.decide_and, decide_eq_false h2]; rfl, rfl⟩

set_option maxRecDepth 20000 in
set_option maxHeartbeats 400000 in
theorem implOk (P : Nat) (a b : Option Addr) (ca cb : Nat) (d : DiskD) (w : World) (hl : d.1.length ≤ 4194304 ∧ d.2.length ≤ 4194304)
    (hc0 : w.cell? ⟨P, 0, none⟩ = some (.slice a d.1.length ca)) (hc1 : w.cell? ⟨P, 1, none⟩ = some (.slice b d.2.length cb)) (r1 : RdS w a d.1) (r2 : RdF encP 2 w b d.2) :
    Calls Tryd.prog 60 #[.pointer (some ⟨P, 0, none⟩)] w fun e w' => e = .returned (.bool (dkOk d)) ∧ Below w.heap.size w w' := by
  obtain ⟨hl1, hl2⟩ := hl
  have HK : Hid (dkOk d = (decide (d.1.length ≤ 120) && decide (d.2.length ≤ 400) && d.1.all txOk && d.2.all (putOk d.1.length))) := rfl
  by_cases h120 : 120 < d.1.length
  · have HF : Hid (dkOk d = false) := by show _ = _; rw [HK.out]; simp [show ¬ d.1.length ≤ 120 by omega]
    clear r1 r2 HK
    go_enter Tryd.func60, Tryd.ntmps60
    go_wp2
    go_ret
    exact ⟨by rw [HF.out]; rfl, Below.refl _ _⟩
  by_cases h400 : 400 < d.2.length
  · have HF : Hid (dkOk d = false) := by show _ = _; rw [HK.out]; simp [show ¬ d.2.length ≤ 400 by omega]
    clear r1 r2 HK
    go_enter Tryd.func60, Tryd.ntmps60
    go_wp2
    go_ret
    exact ⟨by rw [HF.out]; rfl, Below.refl _ _⟩
  have HK2 : Hid (dkOk d = (d.1.all txOk && d.2.all (putOk d.1.length))) := by
    show _ = _; rw [HK.out]; simp [show d.1.length ≤ 120 by omega, show d.2.length ≤ 400 by omega]
  have HCS : Hid (∀ k (hk : k < d.1.length), ∃ x off, a = some ⟨x, off, none⟩ ∧ x < w.heap.size ∧ w.cell? ⟨x, off + k, none⟩ = some (.string d.1[k])) := fun k hk => r1.cellT k hk
  have HPS : Hid (∀ k (hk : k < d.2.length), ∃ x off, b = some ⟨x, off, none⟩ ∧ x < w.heap.size ∧ w.cell? ⟨x, off + k * 2, none⟩ = some (.int .i64 d.2[k].1) ∧ w.cell? ⟨x, off + k * 2 + 1, none⟩ = some (.string d.2[k].2)) := by
    intro k hk
    obtain ⟨x, off, h1, h2, h3⟩ := r2.at k hk
    exact ⟨x, off, h1, h2, h3 0 (by omega), h3 1 (by omega)⟩
  clear r1 r2 HK
  go_enter Tryd.func60, Tryd.ntmps60
  go_wp2
  go_loopw [26] (fun i wr => ∃ k : Nat, k ≤ d.1.length ∧ i = .int .i64 k ∧ wr = w ∧ Hid (∀ j (hj : j < d.1.length), j < k → txOk d.1[j] = true)) (fun i _ => d.1.length - (intOf i).toNat)
  case atStart => exact ⟨0, Nat.zero_le _, rfl, rfl, fun j hj h => by omega⟩
  case round =>
    obtain ⟨k, hk, rfl, hwr, HA⟩ := hrel
    have hwr' := hwr.symm
    subst hwr'
    by_cases hlt : k < d.1.length
    · obtain ⟨x, off, rfl, hblt, hc⟩ := HCS.out k hlt
      have HB : Hid (txOk d.1[k] = false → d.1.all txOk = false) := all_bad hlt
      have HN : Hid (txOk d.1[k] = true → ∀ j (hj : j < d.1.length), j < k + 1 → txOk d.1[j] = true) := by
        intro h j hj h2
        by_cases e : j = k
        · subst e; exact h
        · exact HA.out j hj (by omega)
      have HT : Hid (txOk d.1[k] = decide (d.1[k].size ≤ 90)) := rfl
      generalize d.1[k] = y at *
      by_cases hsz : y.size ≤ 90
      · have HN' : Hid (∀ j (hj : j < d.1.length), j < k + 1 → txOk d.1[j] = true) := HN.out (by rw [HT.out]; simpa using hsz)
        have hsz' : ¬ (90 : Int) < (y.size : Int) := by omega
        clear HB HN HT
        go_wp2
        go_roundw
        case rel => exact ⟨k + 1, by omega, by go_num, by trivial, HN'⟩
        case measure => simp [intOf]; omega
      · have HF' : Hid (dkOk d = false) := by show _ = _; rw [HK2.out, HB.out (by rw [HT.out]; simpa using hsz)]; rfl
        have hsz' : (90 : Int) < (y.size : Int) := by omega
        clear HB HN HT
        go_wp2
        go_ret
        exact ⟨by rw [HF'.out]; rfl, Below.refl _ _⟩
    · obtain rfl : k = d.1.length := by omega
      have HE : Hid (dkOk d = d.2.all (putOk d.1.length)) := by show _ = _; rw [HK2.out, all_good (f := txOk) fun j hj => HA.out j hj hj]; rfl
      clear HA HK2 HCS
      have HC0 : Hid (∀ W, Below w.heap.size w W → W.cell? ⟨P, 0, none⟩ = some (.slice a d.1.length ca)) := fun W h => (h.cell (World.block_lt_of_cell? _ _ hc0)).trans hc0
      go_wp2
      go_loopw [39] (fun i w2 => ∃ k : Nat, k ≤ d.2.length ∧ i = .int .i64 k ∧ Below w.heap.size w w2 ∧ Hid (∀ j (hj : j < d.2.length), j < k → putOk d.1.length d.2[j] = true)) (fun i _ => d.2.length - (intOf i).toNat)
      case atStart => exact ⟨0, Nat.zero_le _, rfl, Below.refl _ _, fun j hj h => by omega⟩
      case round =>
        obtain ⟨k, hk, rfl, hb2, HA⟩ := hrel
        by_cases hlt2 : k < d.2.length
        · obtain ⟨x, off, rfl, hblt, hd0, hd1⟩ := HPS.out k hlt2
          have he0 : wr.cell? ⟨x, off + k * 2, none⟩ = some (.int .i64 d.2[k].1) := (hb2.cell hblt).trans hd0
          have he1 : wr.cell? ⟨x, off + k * 2 + 1, none⟩ = some (.string d.2[k].2) := (hb2.cell hblt).trans hd1
          have HB : Hid (putOk d.1.length d.2[k] = false → dkOk d = false) := fun h => HE.out.trans (all_bad hlt2 h)
          have HN : Hid (putOk d.1.length d.2[k] = true → ∀ j (hj : j < d.2.length), j < k + 1 → putOk d.1.length d.2[j] = true) := by
            intro h j hj h2
            by_cases e : j = k
            · subst e; exact h
            · exact HA.out j hj (by omega)
          have HP : Hid (putOk d.1.length d.2[k] = ((decide (0 ≤ d.2[k].1) && decide (d.2[k].1 ≤ (d.1.length : Int) - 1)) && decide (d.2[k].2.size ≤ 90))) := rfl
          clear hd0 hd1
          generalize d.2[k] = y at *
          obtain ⟨yn, ys⟩ := y
          simp only at he0 he1 HP
          have hb3 : Below w.heap.size w (wr.alloc (.cells #[.int .i64 yn, .string ys] 39)) := hb2.alloc hb2.size _
          cases hin : (decide (0 ≤ yn) && decide (yn ≤ (d.1.length : Int) - 1)) with
          | false =>
            have HF : Hid (dkOk d = false) := HB.out (by rw [HP.out, hin]; rfl)
            clear HB HN HP HE
            go_wp2_with (go_at_call 100; refine (implHas P a d.1.length ca yn _ (HC0.out _ hb3)).mono ?_; rintro e w1 ⟨rfl, hw1⟩; subst w1; rw [hin])
            go_ret
            exact ⟨by rw [HF.out]; rfl, hb3⟩
          | true =>
            by_cases hsz : ys.size ≤ 90
            · have HN' : Hid (∀ j (hj : j < d.2.length), j < k + 1 → putOk d.1.length d.2[j] = true) := HN.out (by rw [HP.out, hin]; simpa using hsz)
              have hsz' : ¬ (90 : Int) < (ys.size : Int) := by omega
              clear HB HN HP
              go_wp2_with (go_at_call 100; refine (implHas P a d.1.length ca yn _ (HC0.out _ hb3)).mono ?_; rintro e w1 ⟨rfl, hw1⟩; subst w1; rw [hin])
              go_roundw
              case rel => exact ⟨k + 1, by omega, by go_num, hb3, HN'⟩
              case measure => simp [intOf]; omega
            · have HF : Hid (dkOk d = false) := HB.out (by rw [HP.out, hin]; simpa using hsz)
              have hsz' : (90 : Int) < (ys.size : Int) := by omega
              clear HB HN HP HE
              go_wp2_with (go_at_call 100; refine (implHas P a d.1.length ca yn _ (HC0.out _ hb3)).mono ?_; rintro e w1 ⟨rfl, hw1⟩; subst w1; rw [hin])
              go_ret
              exact ⟨by rw [HF.out]; rfl, hb3⟩
        · obtain rfl : k = d.2.length := by omega
          have HT : Hid (dkOk d = true) := HE.out.trans (all_good (f := putOk d.1.length) fun j hj => HA.out j hj hj)
          go_wp2
          go_ret
          exact ⟨by rw [HT.out]; rfl, hb2⟩

end Go.Proofs.YtlidmnehpcodkaaDoor

/-
  Own text: a new disk, as the program makes it.
-/
namespace Go.Proofs.YtlidmnehpcodkaaDoor
open Go.RowKit

end Go.Proofs.YtlidmnehpcodkaaDoor

/-
  Own text: what is read, as the program reads it.
-/
namespace Go.Proofs.YtlidmnehpcodkaaDoor
open Go.RowKit

def rdAt (d : DiskD) (at' : Int) : ByteArray := (lastAt d.2 at').getD (d.1.getD at'.toNat ⟨#[]⟩)

set_option maxRecDepth 20000 in
set_option maxHeartbeats 400000 in
theorem implRead (P : Nat) (a b : Option Addr) (ca cb : Nat) (d : DiskD) (at' : Int) (w : World) (hl : d.1.length ≤ 4194304 ∧ d.2.length ≤ 4194304) (h0 : 0 ≤ at') (h1 : at' ≤ (d.1.length : Int) - 1)
    (hc0 : w.cell? ⟨P, 0, none⟩ = some (.slice a d.1.length ca)) (hc1 : w.cell? ⟨P, 1, none⟩ = some (.slice b d.2.length cb)) (r1 : RdS w a d.1) (r2 : RdF encP 2 w b d.2) :
    Calls Tryd.prog 52 #[.pointer (some ⟨P, 0, none⟩), .int .i64 at'] w fun e w' => e = .returned (.string (rdAt d at')) ∧ w' = w := by
  obtain ⟨hl1, hl2⟩ := hl
  have HCS : Hid (∀ k (hk : k < d.1.length), ∃ x off, a = some ⟨x, off, none⟩ ∧ x < w.heap.size ∧ w.cell? ⟨x, off + k, none⟩ = some (.string d.1[k])) := fun k hk => r1.cellT k hk
  have HPS : Hid (∀ k (hk : k < d.2.length), ∃ x off, b = some ⟨x, off, none⟩ ∧ x < w.heap.size ∧ w.cell? ⟨x, off + k * 2, none⟩ = some (.int .i64 d.2[k].1) ∧ w.cell? ⟨x, off + k * 2 + 1, none⟩ = some (.string d.2[k].2)) := by
    intro k hk
    obtain ⟨x, off, h1, h2, h3⟩ := r2.at k hk
    exact ⟨x, off, h1, h2, h3 0 (by omega), h3 1 (by omega)⟩
  have HY : Hid (rdAt d at' = (lastAt d.2 at').getD (d.1.getD at'.toNat ⟨#[]⟩)) := rfl
  clear r1 r2
  go_enter Tryd.func52, Tryd.ntmps52
  go_wp2
  go_loopw [5] (fun i wr => ∃ m : Nat, m ≤ d.2.length ∧ i = .int .i64 ((m : Int) - 1) ∧ wr = w ∧ Hid (∀ j (hj : j < d.2.length), m ≤ j → ¬ d.2[j].1 = at')) (fun i _ => (intOf i + 1).toNat)
  case atStart => exact ⟨d.2.length, Nat.le_refl _, by go_num, rfl, fun j hj h => by omega⟩
  case round =>
    obtain ⟨m, hm, rfl, hwr, HA⟩ := hrel
    subst hwr
    by_cases h0 : m = 0
    · subst h0
      obtain ⟨x, off, rfl, hblt, hc⟩ := HCS.out at'.toNat (by omega)
      have HE : Hid (rdAt d at' = d.1[at'.toNat]'(by omega)) := by
        show _ = _
        rw [HY.out, lastAt_none fun j hj => HA.out j hj (by omega)]
        simp [List.getD, show at'.toNat < d.1.length by omega]
      rw [← HE.out] at hc
      clear HE HA HY
      generalize hz : rdAt d at' = z at *
      have HZ : Hid (rdAt d at' = z) := hz
      clear hz
      go_wp2
      go_ret
      exact ⟨by rw [HZ.out]; rfl, rfl⟩
    · obtain ⟨x, off, rfl, hblt, hd0, hd1⟩ := HPS.out (m - 1) (by omega)
      have hge : (0 : Int) ≤ (m : Int) - 1 := by omega
      by_cases hq : d.2[m - 1].1 = at'
      · have HE : Hid (rdAt d at' = d.2[m - 1].2) := by
          show _ = _
          rw [HY.out, lastAt_at (by omega) hq fun j hj h => HA.out j hj (by omega)]
          rfl
        generalize d.2[m - 1].1 = yn at *
        generalize d.2[m - 1].2 = ys at *
        subst hq
        go_wp2
        go_ret
        exact ⟨by rw [HE.out]; rfl, rfl⟩
      · have HN : Hid (∀ j (hj : j < d.2.length), m - 1 ≤ j → ¬ d.2[j].1 = at') := by
          intro j hj h
          by_cases e : j = m - 1
          · subst e; exact hq
          · exact HA.out j hj (by omega)
        have hlen : m - 1 < d.2.length := by omega
        generalize d.2[m - 1].1 = yn at *
        generalize d.2[m - 1].2 = ys at *
        have hq2 : (yn == at') = false := by simpa using hq
        go_wp2
        go_roundw
        case rel => exact ⟨m - 1, by omega, by go_num, by trivial, HN⟩
        case measure => simp [intOf]; omega

theorem rd_small {d : DiskD} {at' : Int} (h : dkOk d = true) : (rdAt d at').size ≤ 90 := by
  have hd := dkOk_iff.1 h
  unfold rdAt lastAt
  cases hf : d.2.reverse.find? fun p => decide (p.1 = at') with
  | some p =>
    have := (hd.2.2.2 p (by simpa using List.mem_of_find?_eq_some hf)).2.2
    simpa using this
  | none =>
    simp only [Option.map_none, Option.getD_none]
    by_cases hk : at'.toNat < d.1.length
    · have := hd.2.2.1 _ (List.getElem_mem hk)
      simpa [List.getD, hk] using this
    · simp only [List.getD, List.getElem?_eq_none (Nat.le_of_not_lt hk)]
      exact Nat.zero_le _

end Go.Proofs.YtlidmnehpcodkaaDoor

/-
  Own text: whether two disks are the same, as the program tells it.
-/
namespace Go.Proofs.YtlidmnehpcodkaaDoor
open Go.RowKit

set_option maxRecDepth 20000 in
set_option maxHeartbeats 400000 in
theorem equalT (a c : Option Addr) (ca cc : Nat) (l m : List ByteArray) (w : World) (hl : l.length ≤ 4194304) (hr : RdS w a l) (hs : RdS w c m) :
    Calls Tryd.prog 66 #[.slice a l.length ca, .slice c m.length cc] w fun e w' => e = .returned (.bool (decide (l = m))) ∧ Below w.heap.size w w' := by
  by_cases hne : l.length = m.length
  · have HCS : Hid (∀ k, k < l.length → ∃ b off x, a = some ⟨b, off, none⟩ ∧ b < w.heap.size ∧ w.cell? ⟨b, off + k, none⟩ = some (.string x) ∧ l[k]? = some x) := by
      intro k hk
      obtain ⟨b, off, h1, h2, h3⟩ := hr.cellT k (by omega)
      exact ⟨b, off, _, h1, h2, h3, by simp [hk]⟩
    have HDS : Hid (∀ k, k < l.length → ∃ b off x, c = some ⟨b, off, none⟩ ∧ b < w.heap.size ∧ w.cell? ⟨b, off + k, none⟩ = some (.string x) ∧ m[k]? = some x) := by
      intro k hk
      obtain ⟨b, off, h1, h2, h3⟩ := hs.cellT k (by omega)
      exact ⟨b, off, _, h1, h2, h3, by simp [show k < m.length by omega]⟩
    have HLM : Hid (l.length = m.length) := hne
    clear hr hs
    rw [← hne]
    clear hne
    generalize hn : l.length = n at *
    have HLN : Hid (l.length = n) := hn
    clear hn
    go_enter Tryd.func66, Tryd.ntmps66
    go_wp2
    go_loopw [13] (fun i wr => ∃ k : Nat, k ≤ n ∧ i = .int .i64 k ∧ Below w.heap.size w wr ∧ Hid (∀ j, j < k → l[j]? = m[j]?)) (fun i _ => n - (intOf i).toNat)
    case atStart => exact ⟨0, Nat.zero_le _, rfl, Below.refl _ _, fun j h => by omega⟩
    case round =>
      obtain ⟨k, hk, rfl, hbel, HA⟩ := hrel
      by_cases hlt : k < n
      · obtain ⟨b, off, x, rfl, hblt, hcell, hx⟩ := HCS.out k hlt
        obtain ⟨d, off2, y, rfl, hdlt, hcell2, hy⟩ := HDS.out k hlt
        have hcr : wr.cell? ⟨b, off + k, none⟩ = some (.string x) := (hbel.cell hblt).trans hcell
        have hdr : wr.cell? ⟨d, off2 + k, none⟩ = some (.string y) := (hbel.cell hdlt).trans hcell2
        have HX : Hid (l[k]? = some x) := hx
        have HY : Hid (m[k]? = some y) := hy
        clear hcell hcell2 hx hy
        by_cases hxy : x = y
        · have HT2 : Hid (∀ j, j < k + 1 → l[j]? = m[j]?) := by
            intro j hj
            by_cases e : j = k
            · subst e; rw [HX.out, HY.out, hxy]
            · exact HA.out j (by omega)
          subst hxy
          clear HX HY HA
          go_wp2
          go_region
          all_goals (go_wp2)
          all_goals go_roundw
          case rel => exact ⟨k + 1, by omega, by go_num, hbel.drew, HT2⟩
          case measure => simp [intOf]; omega
        · have hxl := bytes_ne hxy
          have HF' : Hid (¬ l = m) := by
            intro e
            have := HX.out
            rw [e, HY.out] at this
            exact hxy (Option.some.inj this).symm
          clear HX HY HA hxy
          go_wp2
          go_region
          all_goals (go_wp2)
          all_goals go_ret
          all_goals exact ⟨by simp [HF'.out], hbel.drew⟩
      · obtain rfl : k = n := by omega
        have HE : Hid (l = m) := by
          show _ = _
          apply List.ext_getElem?
          intro j
          by_cases hj : j < k
          · exact HA.out j hj
          · rw [List.getElem?_eq_none (by have := HLN.out; omega), List.getElem?_eq_none (by have := HLN.out; have := HLM.out; omega)]
        go_wp2
        go_ret
        exact ⟨by simp [HE.out], hbel⟩
  · have HF : Hid (¬ l = m) := fun e => hne (by rw [e])
    have hne' : ¬ (l.length : Int) = (m.length : Int) := by omega
    clear hr hs
    generalize l.length = n at *
    generalize m.length = n' at *
    go_enter Tryd.func66, Tryd.ntmps66
    go_wp2
    go_ret
    exact ⟨by simp [HF.out], Below.refl _ _⟩

set_option maxRecDepth 20000 in
set_option maxHeartbeats 400000 in
theorem equalP (a c : Option Addr) (ca cc : Nat) (l m : List PutD) (w : World) (hl : l.length ≤ 4194304) (hr : RdF encP 2 w a l) (hs : RdF encP 2 w c m) :
    Calls Tryd.prog 67 #[.slice a l.length ca, .slice c m.length cc] w fun e w' => e = .returned (.bool (decide (l = m))) ∧ Below w.heap.size w w' := by
  by_cases hne : l.length = m.length
  · have HCS : Hid (∀ k, k < l.length → ∃ b off x, a = some ⟨b, off, none⟩ ∧ b < w.heap.size ∧ w.cell? ⟨b, off + k * 2, none⟩ = some (.int .i64 x.1) ∧ w.cell? ⟨b, off + k * 2 + 1, none⟩ = some (.string x.2) ∧ l[k]? = some x) := by
      intro k hk
      obtain ⟨b, off, h1, h2, h3⟩ := hr.at k (by omega)
      exact ⟨b, off, l[k], h1, h2, h3 0 (by omega), h3 1 (by omega), by simp [hk]⟩
    have HDS : Hid (∀ k, k < l.length → ∃ b off x, c = some ⟨b, off, none⟩ ∧ b < w.heap.size ∧ w.cell? ⟨b, off + k * 2, none⟩ = some (.int .i64 x.1) ∧ w.cell? ⟨b, off + k * 2 + 1, none⟩ = some (.string x.2) ∧ m[k]? = some x) := by
      intro k hk
      obtain ⟨b, off, h1, h2, h3⟩ := hs.at k (by omega)
      exact ⟨b, off, m[k], h1, h2, h3 0 (by omega), h3 1 (by omega), by simp [show k < m.length by omega]⟩
    have HLM : Hid (l.length = m.length) := hne
    clear hr hs
    rw [← hne]
    clear hne
    generalize hn : l.length = n at *
    have HLN : Hid (l.length = n) := hn
    clear hn
    go_enter Tryd.func67, Tryd.ntmps67
    go_wp2
    go_loopw [13] (fun i wr => ∃ k : Nat, k ≤ n ∧ i = .int .i64 k ∧ Below w.heap.size w wr ∧ Hid (∀ j, j < k → l[j]? = m[j]?)) (fun i _ => n - (intOf i).toNat)
    case atStart => exact ⟨0, Nat.zero_le _, rfl, Below.refl _ _, fun j h => by omega⟩
    case round =>
      obtain ⟨k, hk, rfl, hbel, HA⟩ := hrel
      by_cases hlt : k < n
      · obtain ⟨b, off, x, rfl, hblt, hc0, hc1, hx⟩ := HCS.out k hlt
        obtain ⟨d, off2, y, rfl, hdlt, hd0, hd1, hy⟩ := HDS.out k hlt
        have hcr0 : wr.cell? ⟨b, off + k * 2, none⟩ = some (.int .i64 x.1) := (hbel.cell hblt).trans hc0
        have hcr1 : wr.cell? ⟨b, off + k * 2 + 1, none⟩ = some (.string x.2) := (hbel.cell hblt).trans hc1
        have hdr0 : wr.cell? ⟨d, off2 + k * 2, none⟩ = some (.int .i64 y.1) := (hbel.cell hdlt).trans hd0
        have hdr1 : wr.cell? ⟨d, off2 + k * 2 + 1, none⟩ = some (.string y.2) := (hbel.cell hdlt).trans hd1
        have HX : Hid (l[k]? = some x) := hx
        have HY : Hid (m[k]? = some y) := hy
        clear hc0 hc1 hd0 hd1 hx hy
        by_cases hxy : x = y
        · have HT2 : Hid (∀ j, j < k + 1 → l[j]? = m[j]?) := by
            intro j hj
            by_cases e : j = k
            · subst e; rw [HX.out, HY.out, hxy]
            · exact HA.out j (by omega)
          subst hxy
          clear HX HY HA
          obtain ⟨xn, xs⟩ := x
          simp only at hcr0 hcr1 hdr0 hdr1
          go_wp2
          go_region
          all_goals (go_wp2)
          all_goals go_roundw
          case rel => exact ⟨k + 1, by omega, by go_num, hbel.drew, HT2⟩
          case measure => simp [intOf]; omega
        · have HF' : Hid (¬ l = m) := by
            intro e
            have := HX.out
            rw [e, HY.out] at this
            exact hxy (Option.some.inj this).symm
          clear HX HY HA
          obtain ⟨xn, xs⟩ := x
          obtain ⟨yn, ys⟩ := y
          simp only at hcr0 hcr1 hdr0 hdr1
          by_cases hn0 : xn = yn
          · have hxl := bytes_ne (a := xs) (b := ys) (fun e => hxy (by rw [hn0, e]))
            subst hn0
            clear hxy
            go_wp2
            go_region
            all_goals (go_wp2)
            all_goals go_ret
            all_goals exact ⟨by simp [HF'.out], hbel.drew⟩
          · have hnl : (xn == yn) = false := by simpa using hn0
            clear hxy
            go_wp2
            go_region
            all_goals (go_wp2)
            all_goals go_ret
            all_goals exact ⟨by simp [HF'.out], hbel.drew⟩
      · obtain rfl : k = n := by omega
        have HE : Hid (l = m) := by
          show _ = _
          apply List.ext_getElem?
          intro j
          by_cases hj : j < k
          · exact HA.out j hj
          · rw [List.getElem?_eq_none (by have := HLN.out; omega), List.getElem?_eq_none (by have := HLN.out; have := HLM.out; omega)]
        go_wp2
        go_ret
        exact ⟨by simp [HE.out], hbel⟩
  · have HF : Hid (¬ l = m) := fun e => hne (by rw [e])
    have hne' : ¬ (l.length : Int) = (m.length : Int) := by omega
    clear hr hs
    generalize l.length = n at *
    generalize m.length = n' at *
    go_enter Tryd.func67, Tryd.ntmps67
    go_wp2
    go_ret
    exact ⟨by simp [HF.out], Below.refl _ _⟩

set_option maxRecDepth 20000 in
set_option maxHeartbeats 400000 in
theorem implDiskSame (v u : Value) (d e : DiskD) (w : World) (hl : d.1.length ≤ 4194304 ∧ d.2.length ≤ 4194304) (hr : RdD w v d) (hs : RdD w u e) :
    Calls Tryd.prog 23 #[v, u] w fun r w' => r = .returned (.bool (dkSame d e)) ∧ Below w.heap.size w w' := by
  obtain ⟨a, ca, b, cb, rfl, r1, r2⟩ := hr
  obtain ⟨a', ca', b', cb', rfl, r1', r2'⟩ := hs
  have HT : Hid (∀ q, decide (d.1 = e.1) = q → ∀ W, Below w.heap.size w W → Calls Tryd.prog 66 #[.slice a d.1.length ca, .slice a' e.1.length ca'] W fun r w' => r = .returned (.bool q) ∧ Below W.heap.size W w') := by
    rintro q rfl W hW
    exact equalT a a' ca ca' d.1 e.1 W hl.1 (r1.below hW (Nat.le_refl _)) (r1'.below hW (Nat.le_refl _))
  have HP : Hid (∀ q, decide (d.2 = e.2) = q → ∀ W, Below w.heap.size w W → Calls Tryd.prog 67 #[.slice b d.2.length cb, .slice b' e.2.length cb'] W fun r w' => r = .returned (.bool q) ∧ Below W.heap.size W w') := by
    rintro q rfl W hW
    exact equalP b b' cb cb' d.2 e.2 W hl.2 (r2.below hW (Nat.le_refl _)) (r2'.below hW (Nat.le_refl _))
  have HSM : Hid (dkSame d e = (decide (d.1 = e.1) && decide (d.2 = e.2))) := rfl
  obtain ⟨hl1, hl2⟩ := hl
  clear r1 r2 r1' r2'
  obtain ⟨q1, hq1⟩ : ∃ q, decide (d.1 = e.1) = q := ⟨_, rfl⟩
  obtain ⟨q2, hq2⟩ : ∃ q, decide (d.2 = e.2) = q := ⟨_, rfl⟩
  have HT' : Hid (∀ W, Below w.heap.size w W → Calls Tryd.prog 66 #[.slice a d.1.length ca, .slice a' e.1.length ca'] W fun r w' => r = .returned (.bool q1) ∧ Below W.heap.size W w') := HT.out q1 hq1
  have HP' : Hid (∀ W, Below w.heap.size w W → Calls Tryd.prog 67 #[.slice b d.2.length cb, .slice b' e.2.length cb'] W fun r w' => r = .returned (.bool q2) ∧ Below W.heap.size W w') := HP.out q2 hq2
  have HSQ : Hid (dkSame d e = (q1 && q2)) := by show _ = _; rw [HSM.out, hq1, hq2]
  clear hq1 hq2 HT HP HSM
  go_enter Tryd.func23, Tryd.ntmps23
  go_wp2_with fail
  refine (HT'.out _ (below2 _ _ _)).mono ?_
  rintro r w1 ⟨rfl, hb1⟩
  have hX : Var w1 w.heap.size #[.slice a d.1.length ca, .slice b d.2.length cb] 27 := ((Var.made w _ _).alloc _).new hb1
  have hY : Var w1 (w.heap.size + 1) #[.slice a' e.1.length ca', .slice b' e.2.length cb'] 27 := (Var.made2 w _ _ _).new hb1
  have hb01 : Below w.heap.size w w1 := (below2 w _ _).trans (hb1.mono (by simp; omega))
  have hx1 := hX.cell 1
  have hy1 := hY.cell 1
  clear hX hY hb1
  simp at hx1 hy1
  cases q1 with
  | false =>
    go_wp2
    go_ret
    exact ⟨by rw [HSQ.out]; rfl, hb01⟩
  | true =>
    go_wp2_with fail
    refine (HP'.out _ hb01).mono ?_
    rintro r w2 ⟨rfl, hb2⟩
    go_wp2
    go_ret
    exact ⟨by rw [HSQ.out]; rfl, hb01.trans (hb2.mono hb01.size)⟩
end Go.Proofs.YtlidmnehpcodkaaDoor

/-
  Own text: a fresh copy of a disk, as the program makes it: every row and every text anew.
-/
namespace Go.Proofs.YtlidmnehpcodkaaDoor
open Go.RowKit

/-- One text, made by itself, as a row. -/
theorem rd_oneTx {W : World} {P : Nat} {s : ByteArray} {t : TypeId} (h : Var W P #[.string s] t) : RdS W (some ⟨P, 0, none⟩) [s] := by
  refine .inr ⟨P, 0, rfl, h.lt, fun i hi => ?_⟩
  simp at hi
  subst hi
  rw [show 0 + 0 = 0 by omega, h.cell 0]
  rfl

set_option maxRecDepth 20000 in
set_option maxHeartbeats 2000000 in
theorem implFresh (P : Nat) (a b : Option Addr) (ca cb : Nat) (d : DiskD) (w : World) (hl : d.1.length ≤ 4194304 ∧ d.2.length ≤ 4194304) (hs : SmD d)
    (hc0 : w.cell? ⟨P, 0, none⟩ = some (.slice a d.1.length ca)) (hc1 : w.cell? ⟨P, 1, none⟩ = some (.slice b d.2.length cb)) (r1 : RdS w a d.1) (r2 : RdF encP 2 w b d.2) :
    Calls Tryd.prog 45 #[.pointer (some ⟨P, 0, none⟩)] w fun e w' => ∃ v1 v2, e = .returned (.pointer (some ⟨w.heap.size, 0, none⟩)) ∧ Var w' w.heap.size #[v1, v2] 27 ∧ OwnD w' (w.heap.size + 1) (.agg #[v1, v2]) d ∧ Below w.heap.size w w' := by
  obtain ⟨hl1, hl2⟩ := hl
  obtain ⟨i0, hi, hz0, hz1, hz2⟩ := info_parts Tryd.infoTxt
  obtain ⟨i1, gi, gz0, gz1, gz2⟩ := info_parts Tryd.infoPut
  have HCS : Hid (∀ k (hk : k < d.1.length), ∃ x off, a = some ⟨x, off, none⟩ ∧ x < w.heap.size ∧ w.cell? ⟨x, off + k, none⟩ = some (.string d.1[k])) := fun k hk => r1.cellT k hk
  have HPS : Hid (∀ k (hk : k < d.2.length), ∃ x off, b = some ⟨x, off, none⟩ ∧ x < w.heap.size ∧ w.cell? ⟨x, off + k * 2, none⟩ = some (.int .i64 d.2[k].1) ∧ w.cell? ⟨x, off + k * 2 + 1, none⟩ = some (.string d.2[k].2)) := by
    intro k hk
    obtain ⟨x, off, h1, h2, h3⟩ := r2.at k hk
    exact ⟨x, off, h1, h2, h3 0 (by omega), h3 1 (by omega)⟩
  have HS1 : Hid (∀ k (hk : k < d.1.length), d.1[k].size ≤ 281474976710656) := fun k hk => hs.1 _ (List.getElem_mem hk)
  have HS2 : Hid (∀ k (hk : k < d.2.length), d.2[k].2.size ≤ 281474976710656) := fun k hk => hs.2 _ (List.getElem_mem hk)
  have HC1 : Hid (∀ W, Below w.heap.size w W → W.cell? ⟨P, 1, none⟩ = some (.slice b d.2.length cb)) := fun W h => (h.cell (World.block_lt_of_cell? _ _ hc1)).trans hc1
  have hPn : P ≠ w.heap.size := Nat.ne_of_lt (World.block_lt_of_cell? _ _ hc1)
  clear r1 r2 hs hc1
  have hc0a : (w.alloc (.cells #[.slice none 0 0, .slice none 0 0] 27)).cell? ⟨P, 0, none⟩ = some (.slice a d.1.length ca) := ((below1 w _).cell (World.block_lt_of_cell? _ _ hc0)).trans hc0
  have hV0 : Var (w.alloc (.cells #[.slice none 0 0, .slice none 0 0] 27)) w.heap.size #[.slice none 0 0, .slice none 0 0] 27 := Var.made w _ _
  clear hc0
  go_enter Tryd.func45, Tryd.ntmps45
  go_wp2
  go_loopw [15] (fun i wr => ∃ k : Nat, k ≤ d.1.length ∧ i = .int .i64 k ∧ ∃ v, Var wr w.heap.size #[v, .slice none 0 0] 27 ∧ wr.ownsRow (w.heap.size + 1) 9 1 v k ((d.1.take k).map Value.string) ∧ Below w.heap.size w wr) (fun i _ => d.1.length - (intOf i).toNat)
  case atStart => exact ⟨0, Nat.zero_le _, rfl, _, hV0, by rw [List.take_zero]; exact World.ownsRow_nil _ _ _ _, below1 _ _⟩
  case round =>
    obtain ⟨k, hk, rfl, v, hV, hO, hb⟩ := hrel
    clear hc0a hV0
    by_cases hlt : k < d.1.length
    · obtain ⟨x, off, rfl, hblt, hcx⟩ := HCS.out k hlt
      have hcr : wr.cell? ⟨x, off + k, none⟩ = some (.string d.1[k]) := (hb.cell hblt).trans hcx
      have hsz := HS1.out k hlt
      have HTK : Hid ((d.1.take (k + 1)).map Value.string = (d.1.take k).map Value.string ++ [.string d.1[k]]) := by show _ = _; rw [List.take_succ_eq_append_getElem hlt, List.map_append]; rfl
      clear hcx
      generalize d.1[k] = y at *
      have hy0 := hV.cell 0
      have HV : Hid (Var wr w.heap.size #[v, .slice none 0 0] 27) := hV
      have HO : Hid (wr.ownsRow (w.heap.size + 1) 9 1 v k ((d.1.take k).map Value.string)) := hO
      have HB : Hid (Below w.heap.size w wr) := hb
      have hwl : w.heap.size + 1 ≤ wr.heap.size := hV.lt
      simp at hy0
      clear hV hO hb
      go_wp2
      go_region_law (first
        | (refine step_own_src _ (by rfl) (.tmp 23) (.tmp 26) 24 24 (by rfl) (w.heap.size + 1) 9 i0 (.string ⟨#[]⟩) 1 16 Tryd.underlying24 hi hz0 hz1 hz2 rfl v k ((d.1.take k).map Value.string) (.slice (some ⟨w1.heap.size, 0, none⟩) 1 1) 1 [.string y] (by unfold maxLen; omega) (by omega) (by simp [Act.eval]) (by simp [Act.eval]) hoA hsA hlA ?_
           intro v2 w2 hO2 hg2
           obtain ⟨a2, c2, hv2⟩ : ∃ a2 c2, v2 = .slice a2 (k + 1) c2 := by
             rcases hO2.2 with ⟨_, h0⟩ | ⟨g, cap, cur, h0, _⟩
             · exact absurd h0 (by omega)
             · exact ⟨_, _, h0⟩
           subst hv2
           have HO2 : Hid (w2.ownsRow (w.heap.size + 1) 9 1 (.slice a2 (k + 1) c2) (k + 1) ((d.1.take (k + 1)).map Value.string)) := by
             show World.ownsRow _ _ _ _ _ _ _
             rw [HTK.out]; exact hO2
           have hb2 : Below (w.heap.size + 1) (w1.alloc (.cells #[.string y] 9)) w2 := (Below.refl _ _).grown hg2 hlA (fun j hj => (hoA.lt j hj).1)
           have hV2 : Var w2 w.heap.size #[v, .slice none 0 0] 27 := (HV1.out.alloc _).below hb2 (by omega)
           have HV2 : Hid (Var w2 w.heap.size #[v, .slice none 0 0] 27) := hV2
           have HB2 : Hid (Below w.heap.size w w2) := (HB1.out.alloc HB1.out.size _).trans (hb2.mono (by omega))
           have hy2 : w2.cell? ⟨w.heap.size, 0, none⟩ = some v := hV2.cell 0
           have hf2 : w2.frozen? ⟨w.heap.size, 0, none⟩ = false := hV2.frozen 0
           clear hO2 hg2 hb2 hV2 hoA hsA hlA HB1 HV1 hyA hyB)
        | (go_simp
           go_at_call 51
           refine (cloneT y _ hsz).mono ?_
           rintro e w1 ⟨rfl, hb1'⟩
           have hb1 : Below wr.heap.size wr w1 := (Below.refl _ wr).drew.trans hb1'
           clear hb1'
           have hV1 : Var w1 w.heap.size #[v, .slice none 0 0] 27 := HV.out.new hb1
           have HV1 : Hid (Var w1 w.heap.size #[v, .slice none 0 0] 27) := hV1
           have HB1 : Hid (Below w.heap.size w w1) := HB.out.trans (hb1.mono HB.out.size)
           have hyA : w1.cell? ⟨w.heap.size, 0, none⟩ = some v := hV1.cell 0
           have hyB : (w1.alloc (.cells #[.string y] 9)).cell? ⟨w.heap.size, 0, none⟩ = some v := (hV1.alloc _).cell 0
           have hoA : (w1.alloc (.cells #[.string y] 9)).ownsRow (w.heap.size + 1) 9 1 v k ((d.1.take k).map Value.string) := (ownsRow_below HO.out hb1 (Nat.le_refl _)).alloc _
           have hsA : Src Tryd.prog 1 24 (.slice (some ⟨w1.heap.size, 0, none⟩) 1 1) 1 [.string y] (w1.alloc (.cells #[.string y] 9)) := src_txt (l := [y]) 1 (rd_oneTx (Var.made w1 _ _))
           have hlA : w.heap.size + 1 ≤ (w1.alloc (.cells #[.string y] 9)).heap.size := by have := hb1.size; simp; omega
           clear hb1 hV1))
      all_goals
        have hV3 := HV2.out.set 0 (.slice a2 (k + 1) c2)
        have hO3 := own_set HO2.out (Q := w.heap.size) (by omega) 0 (.slice a2 (k + 1) c2)
        have hb3 := HB2.out.setCell (p := ⟨w.heap.size, 0, none⟩) (Nat.le_refl _) (.slice a2 (k + 1) c2)
        clear hy2 hf2 HV2 HO2 HB2
        go_wp2
        go_roundw
        case rel => exact ⟨k + 1, by omega, by go_num, _, hV3, hO3, hb3⟩
        case measure => simp [intOf]; omega
    · obtain rfl : k = d.1.length := by omega
      have HOS : Hid (wr.ownsRow (w.heap.size + 1) 9 1 v d.1.length (d.1.map Value.string)) := by
        have := hO; rw [List.take_length] at this; exact this
      have hcp := HC1.out _ hb
      have HV0 : Hid (Var wr w.heap.size #[v, .slice none 0 0] 27) := hV
      have HB0 : Hid (Below w.heap.size w wr) := hb
      clear hO hV hb HCS HS1
      generalize wr = w9 at *
      go_wp2
      go_loopw [36] (fun i wr => ∃ k : Nat, k ≤ d.2.length ∧ i = .int .i64 k ∧ ∃ u, Var wr w.heap.size #[v, u] 27 ∧ wr.ownsRow (w.heap.size + 1) 9 1 v d.1.length (d.1.map Value.string) ∧ wr.ownsRow (w.heap.size + 1) 39 2 u k ((d.2.take k).flatMap encP) ∧ Below w.heap.size w wr) (fun i _ => d.2.length - (intOf i).toNat)
      case atStart => exact ⟨0, Nat.zero_le _, rfl, _, HV0.out, HOS.out, by rw [List.take_zero]; exact World.ownsRow_nil _ _ _ _, HB0.out⟩
      case round =>
        obtain ⟨k, hk, rfl, u, hV, hO1, hO, hb⟩ := hrel
        clear hcp HV0 HOS HB0
        by_cases hlt2 : k < d.2.length
        · obtain ⟨x, off, rfl, hblt, hcx0, hcx1⟩ := HPS.out k hlt2
          have hcr0 : wr.cell? ⟨x, off + k * 2, none⟩ = some (.int .i64 d.2[k].1) := (hb.cell hblt).trans hcx0
          have hcr1 : wr.cell? ⟨x, off + k * 2 + 1, none⟩ = some (.string d.2[k].2) := (hb.cell hblt).trans hcx1
          have hsz := HS2.out k hlt2
          have HTK : Hid ((d.2.take (k + 1)).flatMap encP = (d.2.take k).flatMap encP ++ [.int .i64 d.2[k].1, .string d.2[k].2]) := by show _ = _; rw [List.take_succ_eq_append_getElem hlt2, List.flatMap_append]; simp [encP]
          clear hcx0 hcx1
          generalize d.2[k].1 = yn at *
          generalize d.2[k].2 = ys at *
          have hVa := hV.alloc (.cells #[.int .i64 yn, .string ys] 39)
          have hVp : Var (wr.alloc (.cells #[.int .i64 yn, .string ys] 39)) wr.heap.size #[.int .i64 yn, .string ys] 39 := Var.made wr _ _
          have hwl : w.heap.size + 1 ≤ wr.heap.size := hV.lt
          have HUB : Hid (∀ j, u.ownBlock = some j → j < wr.heap.size) := fun j hj => (hO.lt j hj).2
          have HV : Hid (Var (wr.alloc (.cells #[.int .i64 yn, .string ys] 39)) w.heap.size #[v, u] 27) := hVa
          have HVp : Hid (Var (wr.alloc (.cells #[.int .i64 yn, .string ys] 39)) wr.heap.size #[.int .i64 yn, .string ys] 39) := hVp
          have HO : Hid ((wr.alloc (.cells #[.int .i64 yn, .string ys] 39)).ownsRow (w.heap.size + 1) 39 2 u k ((d.2.take k).flatMap encP)) := hO.alloc _
          have HO1 : Hid ((wr.alloc (.cells #[.int .i64 yn, .string ys] 39)).ownsRow (w.heap.size + 1) 9 1 v d.1.length (d.1.map Value.string)) := hO1.alloc _
          have HB : Hid (Below w.heap.size w (wr.alloc (.cells #[.int .i64 yn, .string ys] 39))) := hb.alloc hb.size _
          clear hV hO hO1 hb hVa hVp
          go_wp2
          generalize hW : wr.alloc (.cells #[.int .i64 yn, .string ys] 39) = W0 at *
          have hy1 : W0.cell? ⟨w.heap.size, 1, none⟩ = some u := HV.out.cell 1
          have hp0 : W0.cell? ⟨wr.heap.size, 0, none⟩ = some (.int .i64 yn) := HVp.out.cell 0
          have hp1 : W0.cell? ⟨wr.heap.size, 1, none⟩ = some (.string ys) := HVp.out.cell 1
          go_region_law (first
            | (refine step_own_src _ (by rfl) (.tmp 44) (.tmp 51) 25 25 (by rfl) (w.heap.size + 1) 39 i1 (.agg #[.int .i64 0, .string ⟨#[]⟩]) 2 24 Tryd.underlying25 gi gz0 gz1 gz2 rfl u k ((d.2.take k).flatMap encP) (.slice (some ⟨w1.heap.size, 0, none⟩) 1 1) 1 [.int .i64 yn, .string ys] (by unfold maxLen; omega) (by omega) (by simp [Act.eval]) (by simp [Act.eval]) hoA hsA hlA ?_
               intro v2 w2 hO2 hg2
               obtain ⟨a2, c2, hv2⟩ : ∃ a2 c2, v2 = .slice a2 (k + 1) c2 := by
                 rcases hO2.2 with ⟨_, h0⟩ | ⟨g, cap, cur, h0, _⟩
                 · exact absurd h0 (by omega)
                 · exact ⟨_, _, h0⟩
               subst hv2
               have HO2 : Hid (w2.ownsRow (w.heap.size + 1) 39 2 (.slice a2 (k + 1) c2) (k + 1) ((d.2.take (k + 1)).flatMap encP)) := by
                 show World.ownsRow _ _ _ _ _ _ _
                 rw [HTK.out]; exact hO2
               have hb2 : Below (w.heap.size + 1) (w1.alloc (.cells #[.int .i64 yn, .string ys] 39)) w2 := (Below.refl _ _).grown hg2 hlA (fun j hj => (hoA.lt j hj).1)
               have hV2 : Var w2 w.heap.size #[v, u] 27 := (HV1.out.alloc _).below hb2 (by omega)
               have HV2 : Hid (Var w2 w.heap.size #[v, u] 27) := hV2
               have HB2 : Hid (Below w.heap.size w w2) := (HB1.out.alloc HB1.out.size _).trans (hb2.mono (by omega))
               have HP2 : Hid (w2.ownsRow (w.heap.size + 1) 9 1 v d.1.length (d.1.map Value.string)) := own_only (HP1.out.alloc _) (Only.of_grown hg2) (fun j hj h => own_apart (HP1.out.alloc _) hoA (by decide) j hj h)
               have hy2 : w2.cell? ⟨w.heap.size, 1, none⟩ = some u := hV2.cell 1
               have hf2 : w2.frozen? ⟨w.heap.size, 1, none⟩ = false := hV2.frozen 1
               have hVq2 : Var w2 wr.heap.size #[.int .i64 yn, .string ys] 39 := (HVq.out.alloc _).only (Only.of_grown hg2) (fun h => Nat.lt_irrefl _ (HUB.out _ h))
               have hq2 : w2.cell? ⟨wr.heap.size, 0, none⟩ = some (.int .i64 yn) := hVq2.cell 0
               have hq3 : w2.cell? ⟨wr.heap.size, 1, none⟩ = some (.string ys) := hVq2.cell 1
               clear hO2 hg2 hb2 hV2 hoA hsA hlA HB1 HV1 hyA hyB HP1 hVq2 HVq)
            | (go_simp
               go_at_call 51
               refine (cloneT ys _ hsz).mono ?_
               rintro e w1 ⟨rfl, hb1'⟩
               have hb1 : Below W0.heap.size W0 w1 := (Below.refl _ W0).drew.trans hb1'
               clear hb1'
               have hV1 : Var w1 w.heap.size #[v, u] 27 := HV.out.new hb1
               have hVq : Var w1 wr.heap.size #[.int .i64 yn, .string ys] 39 := HVp.out.new hb1
               have HV1 : Hid (Var w1 w.heap.size #[v, u] 27) := hV1
               have HVq : Hid (Var w1 wr.heap.size #[.int .i64 yn, .string ys] 39) := hVq
               have HB1 : Hid (Below w.heap.size w w1) := HB.out.trans (hb1.mono HB.out.size)
               have HP1 : Hid (w1.ownsRow (w.heap.size + 1) 9 1 v d.1.length (d.1.map Value.string)) := ownsRow_below HO1.out hb1 (Nat.le_refl _)
               have hyA : w1.cell? ⟨w.heap.size, 1, none⟩ = some u := hV1.cell 1
               have hyB : (w1.alloc (.cells #[.int .i64 yn, .string ys] 39)).cell? ⟨w.heap.size, 1, none⟩ = some u := (hV1.alloc _).cell 1
               have hq0 : w1.cell? ⟨wr.heap.size, 0, none⟩ = some (.int .i64 yn) := hVq.cell 0
               have hq1 : w1.cell? ⟨wr.heap.size, 1, none⟩ = some (.string ys) := hVq.cell 1
               have hoA : (w1.alloc (.cells #[.int .i64 yn, .string ys] 39)).ownsRow (w.heap.size + 1) 39 2 u k ((d.2.take k).flatMap encP) := (ownsRow_below HO.out hb1 (Nat.le_refl _)).alloc _
               have hsA : Src Tryd.prog 2 25 (.slice (some ⟨w1.heap.size, 0, none⟩) 1 1) 1 [.int .i64 yn, .string ys] (w1.alloc (.cells #[.int .i64 yn, .string ys] 39)) := src_puts (l := [(yn, ys)]) 1 (rd_onePut (Var.made w1 _ _))
               have hlA : w.heap.size + 1 ≤ (w1.alloc (.cells #[.int .i64 yn, .string ys] 39)).heap.size := by have := hV1.lt; simp; omega
               clear hb1 hV1 hVq))
          all_goals
            have hV3 := HV2.out.set 1 (.slice a2 (k + 1) c2)
            have hO3 := own_set HO2.out (Q := w.heap.size) (by omega) 1 (.slice a2 (k + 1) c2)
            have hP3 := own_set HP2.out (Q := w.heap.size) (by omega) 1 (.slice a2 (k + 1) c2)
            have hb3 := HB2.out.setCell (p := ⟨w.heap.size, 1, none⟩) (Nat.le_refl _) (.slice a2 (k + 1) c2)
            clear hy2 hf2 HV2 HO2 HB2 HP2
            go_wp2
            go_roundw
            case rel => exact ⟨k + 1, by omega, by go_num, _, hV3, hP3, hO3, hb3⟩
            case measure => simp [intOf]; omega
        · obtain rfl : k = d.2.length := by omega
          have hO2 : wr.ownsRow (w.heap.size + 1) 39 2 u d.2.length (d.2.flatMap encP) := by have := hO; rw [List.take_length] at this; exact this
          go_wp2
          go_ret
          exact ⟨v, u, rfl, hV, ⟨_, _, rfl, hO1, hO2⟩, hb⟩
end Go.Proofs.YtlidmnehpcodkaaDoor

/-
  Own text: what falls and what is kept, as the program puts it into the sectors.
-/
namespace Go.Proofs.YtlidmnehpcodkaaDoor
open Go.RowKit

theorem Var.drew {w : World} {P : Nat} {C : Array Value} {t : TypeId} (h : Var w P C t) : Var w.drew P C t := h
theorem keepL_stop {l : List PutD} {ks : List Bool} {k : Nat} (h' : ks.length ≤ k) : keepL (l.take (k + 1)) ks = keepL (l.take k) ks := by
  rw [keepL_short l ks (k + 1) (.inr (by omega)), keepL_short l ks k (.inr h')]

set_option maxRecDepth 20000 in
set_option maxHeartbeats 2000000 in
theorem implSettle (C lo : Nat) (a b : Option Addr) (ca cb : Nat) (d : DiskD) (q : Option Addr) (qc : Nat) (ks : List Bool) (w : World) (hok : dkOk d = true) (hC : C < lo)
    (hV : Var w C #[.slice a d.1.length ca, .slice b d.2.length cb] 27) (o1 : w.ownsRow lo 9 1 (.slice a d.1.length ca) d.1.length (d.1.map Value.string)) (o2 : w.ownsRow lo 39 2 (.slice b d.2.length cb) d.2.length (d.2.flatMap encP))
    (hK : ∀ W, Below C w W → RdF encB 1 W q ks) :
    Calls Tryd.prog 47 #[.pointer (some ⟨C, 0, none⟩), .slice q ks.length qc] w fun e w' => (∃ r, e = .returned r) ∧ Var w' C #[.slice a d.1.length ca, .slice none 0 0] 27 ∧ w'.ownsRow lo 9 1 (.slice a d.1.length ca) d.1.length ((putIn d.1 (keepL d.2 ks)).map Value.string) ∧ Below C w w' := by
  have hl := dkOk_iff.1 hok
  obtain ⟨hl1, hl2, _, _⟩ := hl
  have HAT : Hid (∀ k (hk : k < d.2.length), 0 ≤ d.2[k].1 ∧ d.2[k].1 < (d.1.length : Int)) := by
    intro k hk
    have := (dkOk_iff.1 hok).2.2.2 _ (List.getElem_mem hk)
    exact ⟨this.1, this.2.1⟩
  have HK : Hid (∀ W, Below C w W → RdF encB 1 W q ks) := hK
  have HO1 : Hid (w.ownsRow lo 9 1 (.slice a d.1.length ca) d.1.length (d.1.map Value.string)) := o1
  have HO2 : Hid (w.ownsRow lo 39 2 (.slice b d.2.length cb) d.2.length (d.2.flatMap encP)) := o2
  have HV : Hid (Var w C #[.slice a d.1.length ca, .slice b d.2.length cb] 27) := hV
  have hy1 : w.cell? ⟨C, 1, none⟩ = some (.slice b d.2.length cb) := hV.cell 1
  have hCl : C < w.heap.size := hV.lt
  clear hK o1 o2 hok hV
  go_enter Tryd.func47, Tryd.ntmps47
  go_wp2
  go_loopw [11] (fun i wr => ∃ k : Nat, k ≤ d.2.length ∧ i = .int .i64 k ∧ Hid (Var wr C #[.slice a d.1.length ca, .slice b d.2.length cb] 27) ∧ Hid (wr.ownsRow lo 9 1 (.slice a d.1.length ca) d.1.length ((putIn d.1 (keepL (d.2.take k) ks)).map Value.string)) ∧ Hid (wr.ownsRow lo 39 2 (.slice b d.2.length cb) d.2.length (d.2.flatMap encP)) ∧ Hid (Below C w wr)) (fun i _ => d.2.length - (intOf i).toNat)
  case atStart => exact ⟨0, Nat.zero_le _, rfl, HV, by show World.ownsRow _ _ _ _ _ _ _; rw [List.take_zero]; exact HO1.out, HO2, Below.refl _ _⟩
  case round =>
    obtain ⟨k, hk, rfl, HVr, HOr, HPr, HBr⟩ := hrel
    clear hy1 HV HO1 HO2
    by_cases hlt : k < d.2.length
    · obtain ⟨b0, c0, he0, _, hrp⟩ := own_rdF encP_len HPr.out rfl
      obtain ⟨x, off, hx, hblt, hcc⟩ := hrp.at k hlt
      cases he0
      subst hx
      have hd0 : wr.cell? ⟨x, off + k * 2, none⟩ = some (.int .i64 d.2[k].1) := hcc 0 (by omega)
      have hd1 : wr.cell? ⟨x, off + k * 2 + 1, none⟩ = some (.string d.2[k].2) := hcc 1 (by omega)
      obtain ⟨hat0, hat1⟩ := HAT.out k hlt
      have HKT : Hid (∀ h' : k < ks.length, keepL (d.2.take (k + 1)) ks = keepL (d.2.take k) ks ++ (if ks[k] then [d.2[k]] else [])) := fun h' => keepL_take d.2 ks k hlt h'
      have HKS : Hid (ks.length ≤ k → keepL (d.2.take (k + 1)) ks = keepL (d.2.take k) ks) := fun h' => keepL_stop h'
      have HPI : Hid (putIn (putIn d.1 (keepL (d.2.take k) ks)) [d.2[k]] = (putIn d.1 (keepL (d.2.take k) ks)).set d.2[k].1.toNat d.2[k].2) := rfl
      have hplen : (putIn d.1 (keepL (d.2.take k) ks)).length = d.1.length := putIn_len _ _
      have HW0V : Hid (∀ o, Var (wr.alloc o) C #[.slice a d.1.length ca, .slice (some ⟨x, off, none⟩) d.2.length cb] 27) := fun o => HVr.out.alloc o
      have HW0O : Hid (∀ o, (wr.alloc o).ownsRow lo 9 1 (.slice a d.1.length ca) d.1.length ((putIn d.1 (keepL (d.2.take k) ks)).map Value.string)) := fun o => HOr.out.alloc o
      have HW0P : Hid (∀ o, (wr.alloc o).ownsRow lo 39 2 (.slice (some ⟨x, off, none⟩) d.2.length cb) d.2.length (d.2.flatMap encP)) := fun o => HPr.out.alloc o
      have hCr : C ≤ wr.heap.size := Nat.le_of_lt HVr.out.lt
      have HW0B : Hid (∀ o, Below C w (wr.alloc o)) := fun o => HBr.out.alloc hCr o
      have HZ : Hid (∀ o (h : k < ks.length), ∃ z zo, q = some ⟨z, zo, none⟩ ∧ (wr.alloc o).cell? ⟨z, zo + k, none⟩ = some (.bool ks[k])) := by
        intro o h
        obtain ⟨z, zo, h1, _, hzc⟩ := (HK.out _ (HW0B.out o)).at k h
        have := hzc 0 (by omega)
        rw [Nat.mul_one, Nat.add_zero] at this
        exact ⟨z, zo, h1, this⟩
      clear hcc hrp HVr HOr HPr HBr
      by_cases hkk : k < ks.length
      · obtain ⟨z, zo, rfl, hz0⟩ := HZ.out (.cells #[.int .i64 d.2[k].1, .string d.2[k].2] 39) hkk
        have HKT' : Hid (keepL (d.2.take (k + 1)) ks = keepL (d.2.take k) ks ++ (if ks[k] then [d.2[k]] else [])) := HKT.out hkk
        clear HKT HKS HZ
        generalize hB : ks[k] = B at *
        cases B with
        | false =>
          have HE : Hid (keepL (d.2.take (k + 1)) ks = keepL (d.2.take k) ks) := by show _ = _; rw [HKT'.out]; simp
          clear hB HKT' HPI
          generalize d.2[k].1 = yn at *
          generalize d.2[k].2 = ys at *
          go_wp2
          go_roundw
          case rel => exact ⟨k + 1, by omega, by go_num, HW0V.out _, by show World.ownsRow _ _ _ _ _ _ _; rw [HE.out]; exact HW0O.out _, HW0P.out _, HW0B.out _⟩
          case measure => simp [intOf]; omega
        | true =>
          have HE : Hid (putIn d.1 (keepL (d.2.take (k + 1)) ks) = (putIn d.1 (keepL (d.2.take k) ks)).set d.2[k].1.toNat d.2[k].2) := by show _ = _; rw [HKT'.out, ← HPI.out, if_pos rfl, putIn_app]
          clear hB HKT' HPI
          generalize d.2[k].1 = yn at *
          generalize d.2[k].2 = ys at *
          have hform := (HW0O.out (.cells #[.int .i64 yn, .string ys] 39)).2
          rcases hform with ⟨hv, hn0⟩ | ⟨g, cap, cur, hv, hgb, _⟩
          · exfalso; omega
          · simp only [Value.slice.injEq] at hv
            obtain ⟨rfl, _, rfl⟩ := hv
            have hp0 : (wr.alloc (.cells #[.int .i64 yn, .string ys] 39)).cell? ⟨wr.heap.size, 0, none⟩ = some (.int .i64 yn) := (Var.made wr _ _).cell 0
            have hp1 : (wr.alloc (.cells #[.int .i64 yn, .string ys] 39)).cell? ⟨wr.heap.size, 1, none⟩ = some (.string ys) := (Var.made wr _ _).cell 1
            go_wp2
            have HV1 := HW0V.out (.cells #[.int .i64 yn, .string ys] 39)
            have HO1 := HW0O.out (.cells #[.int .i64 yn, .string ys] 39)
            have HP1 := HW0P.out (.cells #[.int .i64 yn, .string ys] 39)
            have HB1 := HW0B.out (.cells #[.int .i64 yn, .string ys] 39)
            have hcg := HO1.cellAt yn.toNat (by omega)
            have hfg := HO1.frozenAt yn.toNat
            have hst := (HO1.stored yn.toNat (.string ys)).1
            rw [← List.map_set, ← HE.out] at hst
            have hy0 : (wr.alloc (.cells #[.int .i64 yn, .string ys] 39)).cell? ⟨C, 0, none⟩ = some (.slice (some ⟨g, 0, none⟩) d.1.length ca) := HV1.cell 0
            have HV2 : Hid (Var ((wr.alloc (.cells #[.int .i64 yn, .string ys] 39)).setCell ⟨g, yn.toNat, none⟩ (.string ys)) C #[.slice (some ⟨g, 0, none⟩) d.1.length ca, .slice (some ⟨x, off, none⟩) d.2.length cb] 27) := HV1.other (by omega) _ _
            have HO2 : Hid (((wr.alloc (.cells #[.int .i64 yn, .string ys] 39)).setCell ⟨g, yn.toNat, none⟩ (.string ys)).ownsRow lo 9 1 (.slice (some ⟨g, 0, none⟩) d.1.length ca) d.1.length ((putIn d.1 (keepL (d.2.take (k + 1)) ks)).map Value.string)) := hst
            have HP2 : Hid (((wr.alloc (.cells #[.int .i64 yn, .string ys] 39)).setCell ⟨g, yn.toNat, none⟩ (.string ys)).ownsRow lo 39 2 (.slice (some ⟨x, off, none⟩) d.2.length cb) d.2.length (d.2.flatMap encP)) := own_only (S := fun j => j = g) HP1 (Only.setCell (S := fun j => j = g) (Only.refl _ _) (p := ⟨g, yn.toNat, none⟩) rfl _) (fun j hj h => own_apart HP1 HO1 (by decide) j hj (by rw [h]; rfl))
            have HB2 : Hid (Below C w ((wr.alloc (.cells #[.int .i64 yn, .string ys] 39)).setCell ⟨g, yn.toNat, none⟩ (.string ys))) := HB1.setCell (p := ⟨g, yn.toNat, none⟩) (by show _ ≤ g; omega) _
            obtain ⟨old, hcg2⟩ : ∃ o, (wr.alloc (.cells #[.int .i64 yn, .string ys] 39)).cell? ⟨g, yn.toNat, none⟩ = some o := by
              rw [hcg]
              exact ⟨_, List.getElem?_eq_getElem (by simp [hplen]; omega)⟩
            clear hcg hst HV1 HO1 HP1 HB1 HW0V HW0O HW0P HW0B HE
            generalize wr.alloc (.cells #[.int .i64 yn, .string ys] 39) = W0 at *
            go_region
            all_goals
              go_wp2
              go_roundw
              case rel => exact ⟨k + 1, by omega, by go_num, HV2.out.drew, HO2.out.drew, HP2.out.drew, HB2.out.drew⟩
              case measure => simp [intOf]; omega
      · have HE : Hid (keepL (d.2.take (k + 1)) ks = keepL (d.2.take k) ks) := HKS.out (by omega)
        have hkk' : (ks.length : Int) ≤ (k : Int) := by omega
        clear HKT HKS HZ HPI
        generalize d.2[k].1 = yn at *
        generalize d.2[k].2 = ys at *
        go_wp2
        go_roundw
        case rel => exact ⟨k + 1, by omega, by go_num, HW0V.out _, by show World.ownsRow _ _ _ _ _ _ _; rw [HE.out]; exact HW0O.out _, HW0P.out _, HW0B.out _⟩
        case measure => simp [intOf]; omega
    · obtain rfl : k = d.2.length := by omega
      have hf1 := HVr.out.frozen 1
      have hy1 : wr.cell? ⟨C, 1, none⟩ = some (.slice b d.2.length cb) := HVr.out.cell 1
      have hV9 := HVr.out.set 1 (.slice none 0 0)
      have hO9 := own_set HOr.out hC 1 (.slice none 0 0)
      have hB9 := HBr.out.setCell (p := ⟨C, 1, none⟩) (Nat.le_refl _) (.slice none 0 0)
      rw [List.take_length] at hO9
      go_wp2
      go_end0
      exact ⟨⟨_, rfl⟩, hV9, hO9, hB9⟩
end Go.Proofs.YtlidmnehpcodkaaDoor

/-
  Own text: what falls, as the program does it.
-/
namespace Go.Proofs.YtlidmnehpcodkaaDoor
open Go.RowKit

set_option maxRecDepth 20000 in
set_option maxHeartbeats 2000000 in
theorem implFall (v : Value) (d : DiskD) (q : Option Addr) (qc : Nat) (ks : List Bool) (w : World) (hl : d.1.length ≤ 4194303 ∧ d.2.length ≤ 4194303) (hs : SmD d) (hr : RdD w v d) (hrq : RdF encB 1 w q ks) :
    Calls Tryd.prog 19 #[v, .slice q ks.length qc] w fun e w' => ∃ v', e = .returned v' ∧ OwnD w' w.heap.size v' (dkFall d ks) ∧ Below w.heap.size w w' := by
  obtain ⟨a, ca, b, cb, rfl, r1, r2⟩ := hr
  obtain ⟨hl1, hl2⟩ := hl
  have HDF : Hid (dkFall d ks = if dkOk d = true then (putIn d.1 (keepL d.2 ks), []) else d) := rfl
  have HRQ : Hid (∀ W, Below w.heap.size w W → RdF encB 1 W q ks) := fun W h => hrq.below h (Nat.le_refl _)
  have HFR : Hid (∀ W, Below w.heap.size w W → W.cell? ⟨w.heap.size, 0, none⟩ = some (.slice a d.1.length ca) → W.cell? ⟨w.heap.size, 1, none⟩ = some (.slice b d.2.length cb) → Calls Tryd.prog 45 #[.pointer (some ⟨w.heap.size, 0, none⟩)] W fun e w' => ∃ v1 v2, e = .returned (.pointer (some ⟨W.heap.size, 0, none⟩)) ∧ Var w' W.heap.size #[v1, v2] 27 ∧ OwnD w' (W.heap.size + 1) (.agg #[v1, v2]) d ∧ Below W.heap.size W w') :=
    fun W h h0 h1 => implFresh w.heap.size a b ca cb d W ⟨by omega, by omega⟩ hs h0 h1 (r1.below h (Nat.le_refl _)) (r2.below h (Nat.le_refl _))
  clear r1 r2 hs hrq
  go_enter Tryd.func19, Tryd.ntmps19
  go_wp2_with fail
  refine (HFR.out _ (below2 _ _ _) (((Var.made w _ _).alloc _).cell 0) (((Var.made w _ _).alloc _).cell 1)).mono ?_
  rintro e w1 ⟨v1, v2, rfl, hV1, hO1, hb1⟩
  have hs0 : ((w.alloc (.cells #[.slice a d.1.length ca, .slice b d.2.length cb] 27)).alloc (.cells #[.slice none 0 0, .slice none 0 0] 27)).heap.size = w.heap.size + 2 := by simp
  rw [hs0] at hV1 hO1 ⊢
  have hR1 : Var w1 (w.heap.size + 1) #[.slice none 0 0, .slice none 0 0] 27 := (Var.made2 w _ _ _).new hb1
  have hb01 : Below w.heap.size w w1 := (below2 w _ _).trans (hb1.mono (by omega))
  obtain ⟨a1, c1, b1, d1, he⟩ := hO1.shape
  cases he
  have HR1 : Hid (Var w1 (w.heap.size + 1) #[.slice none 0 0, .slice none 0 0] 27) := hR1
  have HV1 : Hid (Var w1 (w.heap.size + 2) #[.slice a1 d.1.length c1, .slice b1 d.2.length d1] 27) := hV1
  have HO1 : Hid (OwnD w1 (w.heap.size + 2 + 1) (.agg #[.slice a1 d.1.length c1, .slice b1 d.2.length d1]) d) := hO1
  have HOK : Hid (∀ Q, dkOk d = Q → Calls Tryd.prog 60 #[.pointer (some ⟨w.heap.size + 2, 0, none⟩)] w1 fun e w' => e = .returned (.bool Q) ∧ Below w1.heap.size w1 w') := by
    rintro Q rfl
    obtain ⟨x1, x2, x3, x4, hx, h1, h2⟩ := hO1.rd
    cases hx
    exact implOk (w.heap.size + 2) _ _ _ _ d w1 ⟨by omega, by omega⟩ (hV1.cell 0) (hV1.cell 1) h1 h2
  clear HFR hR1 hV1 hO1 hb1 hs0
  cases hok : dkOk d with
  | false =>
    have HF : Hid (dkFall d ks = d) := by show _ = _; rw [HDF.out, hok]; rfl
    have HOK' : Hid (Calls Tryd.prog 60 #[.pointer (some ⟨w.heap.size + 2, 0, none⟩)] w1 fun e w' => e = .returned (.bool false) ∧ Below w1.heap.size w1 w') := HOK.out false hok
    clear HOK HDF hok
    go_wp2_with fail
    refine HOK'.out.mono ?_
    rintro e w3 ⟨rfl, hb3⟩
    have hV3 := HV1.out.new hb3
    have HR3 : Hid (Var w3 (w.heap.size + 1) #[.slice none 0 0, .slice none 0 0] 27) := HR1.out.new hb3
    have hO3 := HO1.out.below hb3
    have hb03 : Below w.heap.size w w3 := hb01.trans (hb3.mono hb01.size)
    have HO10 : Hid (OwnD ((w3.setCell ⟨w.heap.size + 1, 0, none⟩ (.slice a1 d.1.length c1)).setCell ⟨w.heap.size + 1, 1, none⟩ (.slice b1 d.2.length d1)) w.heap.size (.agg #[.slice a1 d.1.length c1, .slice b1 d.2.length d1]) d) := ((hO3.setVar HR3.out 0 _).setVar (HR3.out.set 0 _) 1 _).base (by omega)
    have HR10 : Hid (Var ((w3.setCell ⟨w.heap.size + 1, 0, none⟩ (.slice a1 d.1.length c1)).setCell ⟨w.heap.size + 1, 1, none⟩ (.slice b1 d.2.length d1)) (w.heap.size + 1) #[.slice a1 d.1.length c1, .slice b1 d.2.length d1] 27) := HR3.out.two _ _
    have hb10 : Below w.heap.size w ((w3.setCell ⟨w.heap.size + 1, 0, none⟩ (.slice a1 d.1.length c1)).setCell ⟨w.heap.size + 1, 1, none⟩ (.slice b1 d.2.length d1)) := (hb03.setCell (p := ⟨w.heap.size + 1, 0, none⟩) (by show _ ≤ w.heap.size + 1; omega) _).setCell (p := ⟨w.heap.size + 1, 1, none⟩) (by show _ ≤ w.heap.size + 1; omega) _
    have hv0 : w3.cell? ⟨w.heap.size + 2, 0, none⟩ = some (.slice a1 d.1.length c1) := hV3.cell 0
    have hv1 : w3.cell? ⟨w.heap.size + 2, 1, none⟩ = some (.slice b1 d.2.length d1) := hV3.cell 1
    have hq0 := HR3.out.cell 0
    have hq1 := (HR3.out.set 0 (.slice a1 d.1.length c1)).cell 1
    have hk0 := HR3.out.frozen 0
    have hk1 := HR3.out.frozen 1
    simp at hq0 hq1
    clear hV3 hO3 hb3 hb03 hb01 HV1 HO1 HR1 HOK'
    go_wp2
    refine bodyPost_ret (results_cell_row rfl _ _ (w.heap.size + 1) 27 #[.slice a1 d.1.length c1, .slice b1 d.2.length d1] (0, 0) _ rfl HR10.out Tryd.underlying27 rfl Tryd.sizeDisk) rfl ?_
    exact ⟨_, rfl, by rw [HF.out]; exact HO10.out, hb10⟩
  | true =>
    have HF : Hid (dkFall d ks = (putIn d.1 (keepL d.2 ks), [])) := by show _ = _; rw [HDF.out, hok]; rfl
    have HOK' : Hid (Calls Tryd.prog 60 #[.pointer (some ⟨w.heap.size + 2, 0, none⟩)] w1 fun e w' => e = .returned (.bool true) ∧ Below w1.heap.size w1 w') := HOK.out true hok
    have HOKT : Hid (dkOk d = true) := hok
    clear HOK HDF hok
    go_wp2_with fail
    refine HOK'.out.mono ?_
    rintro e w3 ⟨rfl, hb3⟩
    have HV3 : Hid (Var w3 (w.heap.size + 2) #[.slice a1 d.1.length c1, .slice b1 d.2.length d1] 27) := HV1.out.new hb3
    have HR3 : Hid (Var w3 (w.heap.size + 1) #[.slice none 0 0, .slice none 0 0] 27) := HR1.out.new hb3
    have HO3 : Hid (OwnD w3 (w.heap.size + 2 + 1) (.agg #[.slice a1 d.1.length c1, .slice b1 d.2.length d1]) d) := HO1.out.below hb3
    have HB03 : Hid (Below w.heap.size w w3) := hb01.trans (hb3.mono hb01.size)
    clear hb3 hb01 HV1 HO1 HR1 HOK'
    go_wp2_with fail
    have HST : Hid (Calls Tryd.prog 47 #[.pointer (some ⟨w.heap.size + 2, 0, none⟩), .slice q ks.length qc] w3 fun e w' => (∃ r, e = .returned r) ∧ Var w' (w.heap.size + 2) #[.slice a1 d.1.length c1, .slice none 0 0] 27 ∧ w'.ownsRow (w.heap.size + 2 + 1) 9 1 (.slice a1 d.1.length c1) d.1.length ((putIn d.1 (keepL d.2 ks)).map Value.string) ∧ Below (w.heap.size + 2) w3 w') := by
      obtain ⟨u1, u2, he, h1, h2⟩ := HO3.out
      cases he
      exact implSettle (w.heap.size + 2) (w.heap.size + 2 + 1) a1 b1 c1 d1 d q qc ks w3 HOKT.out (by omega) HV3.out h1 h2 (fun W h => HRQ.out W (HB03.out.trans (h.mono (by omega))))
    refine HST.out.mono ?_
    rintro e w4 ⟨⟨r, rfl⟩, hV4, ho4, hb4⟩
    have HR4 : Hid (Var w4 (w.heap.size + 1) #[.slice none 0 0, .slice none 0 0] 27) := HR3.out.below hb4 (by omega)
    have hb04 : Below w.heap.size w w4 := HB03.out.trans (hb4.mono (by omega))
    have hO4 : OwnD w4 (w.heap.size + 2 + 1) (.agg #[.slice a1 d.1.length c1, .slice none 0 0]) (putIn d.1 (keepL d.2 ks), []) := by
      refine ⟨_, _, rfl, ?_, World.ownsRow_nil _ _ _ _⟩
      rw [putIn_len]
      exact ho4
    have HO10 : Hid (OwnD ((w4.setCell ⟨w.heap.size + 1, 0, none⟩ (.slice a1 d.1.length c1)).setCell ⟨w.heap.size + 1, 1, none⟩ (.slice none 0 0)) w.heap.size (.agg #[.slice a1 d.1.length c1, .slice none 0 0]) (putIn d.1 (keepL d.2 ks), [])) := ((hO4.setVar HR4.out 0 _).setVar (HR4.out.set 0 _) 1 _).base (by omega)
    have HR10 : Hid (Var ((w4.setCell ⟨w.heap.size + 1, 0, none⟩ (.slice a1 d.1.length c1)).setCell ⟨w.heap.size + 1, 1, none⟩ (.slice none 0 0)) (w.heap.size + 1) #[.slice a1 d.1.length c1, .slice none 0 0] 27) := HR4.out.two _ _
    have hb10 : Below w.heap.size w ((w4.setCell ⟨w.heap.size + 1, 0, none⟩ (.slice a1 d.1.length c1)).setCell ⟨w.heap.size + 1, 1, none⟩ (.slice none 0 0)) := (hb04.setCell (p := ⟨w.heap.size + 1, 0, none⟩) (by show _ ≤ w.heap.size + 1; omega) _).setCell (p := ⟨w.heap.size + 1, 1, none⟩) (by show _ ≤ w.heap.size + 1; omega) _
    have hv0 : w4.cell? ⟨w.heap.size + 2, 0, none⟩ = some (.slice a1 d.1.length c1) := hV4.cell 0
    have hv1 : w4.cell? ⟨w.heap.size + 2, 1, none⟩ = some (.slice none 0 0) := hV4.cell 1
    have hq0 := HR4.out.cell 0
    have hq1 := (HR4.out.set 0 (.slice a1 d.1.length c1)).cell 1
    have hk0 := HR4.out.frozen 0
    have hk1 := HR4.out.frozen 1
    simp at hq0 hq1
    clear hV4 hO4 hb4 hb04 ho4 HV3 HR3 HO3 HB03 HST HRQ
    go_wp2
    refine bodyPost_ret (results_cell_row rfl _ _ (w.heap.size + 1) 27 #[.slice a1 d.1.length c1, .slice none 0 0] (0, 0) _ rfl HR10.out Tryd.underlying27 rfl Tryd.sizeDisk) rfl ?_
    exact ⟨_, rfl, by rw [HF.out]; exact HO10.out, hb10⟩
end Go.Proofs.YtlidmnehpcodkaaDoor

/-
  Own text: a disk with one write more, as the program makes it beside the old one.
-/
namespace Go.Proofs.YtlidmnehpcodkaaDoor
open Go.RowKit

theorem rd_flatP {w : World} {b : Addr} {l : List PutD} (h : RdF encP 2 w (some b) l) : ∀ j u, (l.flatMap encP)[j]? = some u → w.cell? (b.add j) = some u := by
  intro j u hj
  rcases h with rfl | ⟨g, off, h, hlt, hc⟩
  · simp at hj
  · cases h
    have hjl : j < l.length * 2 := by have := (List.getElem?_eq_some_iff.1 hj).1; rw [flat_len_c encP_len] at this; exact this
    have e := flat_get encP_len l (j / 2) (by omega) (j % 2) (by omega)
    rw [show j / 2 * 2 + j % 2 = j by omega, hj] at e
    have := hc (j / 2) (by omega) (j % 2) (by omega)
    rw [Go.WideShapes.add_plain, show off + j = off + j / 2 * 2 + j % 2 by omega, this, ← e]
theorem Below.ofGrown {w w' : World} (h : w.grownBy w' none) : Below w.heap.size w w' := (Below.refl _ _).grown h (Nat.le_refl _) (fun k hk => by cases hk)

set_option maxRecDepth 20000 in
set_option maxHeartbeats 2000000 in
theorem implWith (P : Nat) (a b : Option Addr) (ca cb : Nat) (d : DiskD) (n : Int) (s : ByteArray) (w : World) (hl : d.2.length ≤ 4194303)
    (hc0 : w.cell? ⟨P, 0, none⟩ = some (.slice a d.1.length ca)) (hc1 : w.cell? ⟨P, 1, none⟩ = some (.slice b d.2.length cb)) (hcap : d.2.length ≤ cb) (hnil : b = none → d.2.length = 0) (r2 : RdF encP 2 w b d.2) :
    Calls Tryd.prog 101 #[.pointer (some ⟨P, 0, none⟩), .agg #[.int .i64 n, .string s]] w fun e w' => ∃ Q b' cb', e = .returned (.pointer (some ⟨Q, 0, none⟩)) ∧ Var w' Q #[.slice a d.1.length ca, .slice b' (d.2.length + 1) cb'] 27 ∧ RdF encP 2 w' b' (d.2 ++ [(n, s)]) ∧ w.heap.size ≤ Q ∧ Below w.heap.size w w' := by
  obtain ⟨i1, gi, gz0, gz1, gz2⟩ := info_parts Tryd.infoPut
  have HC : Hid (∀ W, Below w.heap.size w W → W.cell? ⟨P, 0, none⟩ = some (.slice a d.1.length ca) ∧ W.cell? ⟨P, 1, none⟩ = some (.slice b d.2.length cb)) := fun W h => ⟨(h.cell (World.block_lt_of_cell? _ _ hc0)).trans hc0, (h.cell (World.block_lt_of_cell? _ _ hc1)).trans hc1⟩
  have HR : Hid (∀ W, Below w.heap.size w W → ∀ x, b = some x → ∀ j u, (d.2.flatMap encP)[j]? = some u → W.cell? (x.add j) = some u) := fun W h x hx => rd_flatP (by rw [← hx]; exact r2.below h (Nat.le_refl _))
  have HN : Hid (b = none → d.2.length = 0 ∧ d.2.length = 0) := fun h => ⟨hnil h, hnil h⟩
  have HFL : Hid ((d.2.flatMap encP).length = d.2.length * 2) := flat_len_c encP_len _
  have HFA : Hid ((d.2 ++ [(n, s)]).flatMap encP = d.2.flatMap encP ++ [.int .i64 n, .string s]) := by show _ = _; rw [List.flatMap_append]; simp [encP]
  have HLA : Hid ((d.2 ++ [(n, s)]).length = d.2.length + 1) := by show _ = _; simp
  have hx0 := (HC.out _ (below1 w (.cells #[.int .i64 n, .string s] 39))).1
  have hx1 := (HC.out _ (below1 w (.cells #[.int .i64 n, .string s] 39))).2
  have hbx : Var (w.alloc (.cells #[.int .i64 n, .string s] 39)) w.heap.size #[.int .i64 n, .string s] 39 := Var.made w _ _
  have hp0 : (w.alloc (.cells #[.int .i64 n, .string s] 39)).cell? ⟨w.heap.size, 0, none⟩ = some (.int .i64 n) := hbx.cell 0
  have hp1 : (w.alloc (.cells #[.int .i64 n, .string s] 39)).cell? ⟨w.heap.size, 1, none⟩ = some (.string s) := hbx.cell 1
  clear r2 hc0 hc1 hnil
  go_enter Tryd.func101, Tryd.ntmps101
  go_wp2
  generalize hW : w.alloc (.cells #[.int .i64 n, .string s] 39) = W0 at *
  have hb0 : Below w.heap.size w W0 := by rw [← hW]; exact below1 _ _
  have HB0 : Hid (Below w.heap.size w W0) := hb0
  have HL0 : Hid (w.heap.size + 1 = W0.heap.size) := by show _ = _; rw [← hW]; simp
  have hn0 : (0 : Int) ≤ (d.2.length : Int) := by omega
  have hn1 : (d.2.length : Int) ≤ (cb : Int) := by omega
  obtain ⟨hu0, hu1⟩ := HC.out _ (HB0.out.alloc HB0.out.size (.cells #[.int .i64 n, .string s] 39))
  have hm : Var (W0.alloc (.cells #[.int .i64 n, .string s] 39)) W0.heap.size #[.int .i64 n, .string s] 39 := Var.made W0 _ _
  have HM : Hid (∀ j u, [Value.int .i64 n, .string s][j]? = some u → (W0.alloc (.cells #[.int .i64 n, .string s] 39)).cell? ((⟨W0.heap.size, 0, none⟩ : Addr).add j) = some u) := by
    intro j u hj
    rw [Go.WideShapes.add_plain, Nat.zero_add, hm.cell j]
    simpa using hj
  clear hb0 hbx hm hW
  go_region_law (first
    | (refine step_append_grows (by rfl) (.tmp 21) (.tmp 23) 25 (by rfl) 39 i1 (.agg #[.int .i64 0, .string ⟨#[]⟩]) 2 24 Tryd.underlying25 gi gz0 gz1 gz2 rfl (by decide) b d.2.length d.2.length (d.2.flatMap encP) (by simp [Act.eval, Act.put]) HN.out HFL.out (HR.out _ (by exact (HB0.out.alloc HB0.out.size _).drew)) ⟨W0.heap.size, 0, none⟩ 1 1 [.int .i64 n, .string s] (by simp [Act.eval, Act.put]) rfl (by exact HM.out) (by intro u hu; simp at hu; rcases hu with rfl | rfl <;> rfl) (by omega) (by unfold maxLen; omega) (by omega) ?_
       intro v' w1 ho1 hg1
       have ho1' : w1.ownsRow (W0.heap.size + 1) 39 2 v' (d.2.length + 1) ((d.2 ++ [(n, s)]).flatMap encP) := by rw [HFA.out]; have := ho1; simp at this; exact this
       obtain ⟨b1, c1, rfl, _, hr1⟩ := own_rdF encP_len ho1' HLA.out
       have hb1 : Below w.heap.size w w1 := (HB0.out.alloc HB0.out.size (.cells #[.int .i64 n, .string s] 39)).drew.trans ((Below.ofGrown hg1).mono (by have := HB0.out.size; simp; omega))
       have HR1 : Hid (RdF encP 2 w1 b1 (d.2 ++ [(n, s)])) := hr1
       have HB1 : Hid (Below w.heap.size w w1) := hb1
       have hy0 := (HC.out _ hb1).1
       clear hb1 hr1 ho1 ho1' hg1))
  all_goals
    have hV9 := Var.made w1 #[.slice a d.1.length ca, .slice b1 (d.2.length + 1) c1] 27
    have hb9 : Below w.heap.size w (w1.alloc (.cells #[.slice a d.1.length ca, .slice b1 (d.2.length + 1) c1] 27)) := HB1.out.alloc HB1.out.size _
    have hr9 := HR1.out.below (below1 w1 (.cells #[.slice a d.1.length ca, .slice b1 (d.2.length + 1) c1] 27)) (Nat.le_refl _)
    have hs9 := HB1.out.size
    go_wp2
    go_ret
    exact ⟨_, b1, c1, rfl, hV9, hr9, hs9, hb9⟩
end Go.Proofs.YtlidmnehpcodkaaDoor

/-
  Own text: a write, as the program takes it.
-/
namespace Go.Proofs.YtlidmnehpcodkaaDoor
open Go.RowKit

theorem dkOk_less {d : DiskD} {x : PutD} (h : dkOk (d.1, d.2 ++ [x]) = true) : dkOk d = true := by
  obtain ⟨h1, h2, h3, h4⟩ := dkOk_iff.1 h
  refine dkOk_iff.2 ⟨h1, ?_, h3, fun p hp => h4 p (List.mem_append_left _ hp)⟩
  simp at h2
  omega
theorem OwnD.caps {w : World} {lo : Nat} {a b : Option Addr} {n m ca cb : Nat} {d : DiskD} (h : OwnD w lo (.agg #[.slice a n ca, .slice b m cb]) d) : d.2.length ≤ cb ∧ (b = none → d.2.length = 0) := by
  obtain ⟨v1, v2, he, _, h2⟩ := h
  cases he
  rcases h2.2 with ⟨he, h0⟩ | ⟨g, cap, cur, he, _, _, hc, _⟩
  · cases he; omega
  · cases he; exact ⟨hc, fun h => by cases h⟩

set_option maxRecDepth 20000 in
set_option maxHeartbeats 2000000 in
theorem implSectorWrite (v : Value) (d : DiskD) (at' : Int) (s : ByteArray) (w : World) (lo : Nat) (hl : d.1.length ≤ 4194303 ∧ d.2.length ≤ 4194303) (hs : SmD d) (ho : OwnD w lo v d) :
    Calls Tryd.prog 61 #[v, .int .i64 at', .string s] w fun e w' => ∃ v', e = .returned (.tuple #[v', .bool (wrOk d at' s)]) ∧ OwnD w' w.heap.size v' (wrD d at' s) ∧ Below w.heap.size w w' := by
  obtain ⟨a, ca, b, cb, rfl⟩ := ho.shape
  obtain ⟨hcap, hnil⟩ := ho.caps
  obtain ⟨x1, x2, x3, x4, he, r1, r2⟩ := ho.rd
  cases he
  obtain ⟨hl1, hl2⟩ := hl
  have HNO : Hid (dkOk (d.1, d.2 ++ [(at', s)]) = false → wrD d at' s = d ∧ wrOk d at' s = false) := fun h => wr_no (by rw [h]; simp)
  have HYE : Hid (dkOk (d.1, d.2 ++ [(at', s)]) = true → wrD d at' s = (d.1, d.2 ++ [(at', s)]) ∧ wrOk d at' s = true) := fun h => wr_yes ⟨dkOk_less h, h⟩
  have HR1 : Hid (∀ W, Below w.heap.size w W → RdS W a d.1) := fun W h => r1.below h (Nat.le_refl _)
  have HR2 : Hid (∀ W, Below w.heap.size w W → RdF encP 2 W b d.2) := fun W h => r2.below h (Nat.le_refl _)
  have HFR : Hid (∀ W, Below w.heap.size w W → W.cell? ⟨w.heap.size, 0, none⟩ = some (.slice a d.1.length ca) → W.cell? ⟨w.heap.size, 1, none⟩ = some (.slice b d.2.length cb) → Calls Tryd.prog 45 #[.pointer (some ⟨w.heap.size, 0, none⟩)] W fun e w' => ∃ v1 v2, e = .returned (.pointer (some ⟨W.heap.size, 0, none⟩)) ∧ Var w' W.heap.size #[v1, v2] 27 ∧ OwnD w' (W.heap.size + 1) (.agg #[v1, v2]) d ∧ Below W.heap.size W w') :=
    fun W h h0 h1 => implFresh w.heap.size a b ca cb d W ⟨by omega, by omega⟩ hs h0 h1 (HR1.out W h) (HR2.out W h)
  have HWI : Hid (∀ W, Below w.heap.size w W → W.cell? ⟨w.heap.size, 0, none⟩ = some (.slice a d.1.length ca) → W.cell? ⟨w.heap.size, 1, none⟩ = some (.slice b d.2.length cb) → Calls Tryd.prog 101 #[.pointer (some ⟨w.heap.size, 0, none⟩), .agg #[.int .i64 at', .string s]] W fun e w' => ∃ Q b' cb', e = .returned (.pointer (some ⟨Q, 0, none⟩)) ∧ Var w' Q #[.slice a d.1.length ca, .slice b' (d.2.length + 1) cb'] 27 ∧ RdF encP 2 w' b' (d.2 ++ [(at', s)]) ∧ W.heap.size ≤ Q ∧ Below W.heap.size W w') :=
    fun W h h0 h1 => implWith w.heap.size a b ca cb d at' s W hl2 h0 h1 hcap hnil (HR2.out W h)
  have hLA : (d.2 ++ [(at', s)]).length = d.2.length + 1 := by simp
  clear r1 r2 hs ho hcap hnil
  rw [← hLA] at HWI
  generalize d.2 ++ [(at', s)] = L at *
  have hLL : L.length ≤ 4194304 := by omega
  clear hLA
  go_enter Tryd.func61, Tryd.ntmps61
  go_wp2_with fail
  refine (HWI.out _ (below2 _ _ _) (((Var.made w _ _).alloc _).cell 0) (((Var.made w _ _).alloc _).cell 1)).mono ?_
  rintro e w1 ⟨Q, b', cb', rfl, hV1, hr1, hQ, hb1⟩
  have hs0 : ((w.alloc (.cells #[.slice a d.1.length ca, .slice b d.2.length cb] 27)).alloc (.cells #[.slice none 0 0, .slice none 0 0] 27)).heap.size = w.heap.size + 2 := by simp
  have hX1 : Var w1 w.heap.size #[.slice a d.1.length ca, .slice b d.2.length cb] 27 := ((Var.made w _ _).alloc _).new hb1
  have hT1 : Var w1 (w.heap.size + 1) #[.slice none 0 0, .slice none 0 0] 27 := (Var.made2 w _ _ _).new hb1
  have hb01 : Below w.heap.size w w1 := (below2 w _ _).trans (hb1.mono (by omega))
  rw [hs0] at hQ
  have HX1 : Hid (Var w1 w.heap.size #[.slice a d.1.length ca, .slice b d.2.length cb] 27) := hX1
  have HT1 : Hid (Var w1 (w.heap.size + 1) #[.slice none 0 0, .slice none 0 0] 27) := hT1
  have HV1 : Hid (Var w1 Q #[.slice a d.1.length ca, .slice b' L.length cb'] 27) := hV1
  have HL1 : Hid (RdF encP 2 w1 b' L) := hr1
  have HOK : Hid (∀ R, dkOk (d.1, L) = R → Calls Tryd.prog 60 #[.pointer (some ⟨Q, 0, none⟩)] w1 fun e w' => e = .returned (.bool R) ∧ Below w1.heap.size w1 w') := by
    rintro R rfl
    exact implOk Q a b' ca cb' (d.1, L) w1 ⟨by show d.1.length ≤ _; omega, by show L.length ≤ _; omega⟩ (hV1.cell 0) (hV1.cell 1) (HR1.out _ hb01) hr1
  clear HWI hs0 hb1 hV1 hr1 hX1 hT1
  cases hok : dkOk (d.1, L) with
  | false =>
    have HF : Hid (wrD d at' s = d ∧ wrOk d at' s = false) := HNO.out hok
    have HOK' := HOK.out false hok
    have HOK2 : Hid (Calls Tryd.prog 60 #[.pointer (some ⟨Q, 0, none⟩)] w1 fun e w' => e = .returned (.bool false) ∧ Below w1.heap.size w1 w') := HOK'
    clear HOK HOK' hok HNO HYE
    go_wp2_with fail
    refine HOK2.out.mono ?_
    rintro e w2 ⟨rfl, hb2⟩
    have HX2 : Hid (Var w2 w.heap.size #[.slice a d.1.length ca, .slice b d.2.length cb] 27) := HX1.out.new hb2
    have HT2 : Hid (Var w2 (w.heap.size + 1) #[.slice none 0 0, .slice none 0 0] 27) := HT1.out.new hb2
    have hb02 : Below w.heap.size w w2 := hb01.trans (hb2.mono hb01.size)
    have hlt2 := HT2.out.lt
    clear HX1 HT1 HV1 HL1 HOK2 hb01 hb2
    go_wp2_with fail
    refine (HFR.out _ hb02 (HX2.out.cell 0) (HX2.out.cell 1)).mono ?_
    rintro e w3 ⟨v1, v2, rfl, hV3, hO3, hb3⟩
    obtain ⟨a3, c3, b3, d3, he⟩ := hO3.shape
    cases he
    have HR3 : Hid (Var w3 (w.heap.size + 1) #[.slice none 0 0, .slice none 0 0] 27) := HT2.out.new hb3
    have hb03 : Below w.heap.size w w3 := hb02.trans (hb3.mono hb02.size)
    have HO10 : Hid (OwnD ((w3.setCell ⟨w.heap.size + 1, 0, none⟩ (.slice a3 d.1.length c3)).setCell ⟨w.heap.size + 1, 1, none⟩ (.slice b3 d.2.length d3)) w.heap.size (.agg #[.slice a3 d.1.length c3, .slice b3 d.2.length d3]) d) := ((hO3.setVar HR3.out 0 _).setVar (HR3.out.set 0 _) 1 _).base (by omega)
    have HR10 : Hid (Var ((w3.setCell ⟨w.heap.size + 1, 0, none⟩ (.slice a3 d.1.length c3)).setCell ⟨w.heap.size + 1, 1, none⟩ (.slice b3 d.2.length d3)) (w.heap.size + 1) #[.slice a3 d.1.length c3, .slice b3 d.2.length d3] 27) := HR3.out.two _ _
    have hb10 : Below w.heap.size w ((w3.setCell ⟨w.heap.size + 1, 0, none⟩ (.slice a3 d.1.length c3)).setCell ⟨w.heap.size + 1, 1, none⟩ (.slice b3 d.2.length d3)) := (hb03.setCell (p := ⟨w.heap.size + 1, 0, none⟩) (by show _ ≤ w.heap.size + 1; omega) _).setCell (p := ⟨w.heap.size + 1, 1, none⟩) (by show _ ≤ w.heap.size + 1; omega) _
    have hv0 : w3.cell? ⟨w2.heap.size, 0, none⟩ = some (.slice a3 d.1.length c3) := hV3.cell 0
    have hv1 : w3.cell? ⟨w2.heap.size, 1, none⟩ = some (.slice b3 d.2.length d3) := hV3.cell 1
    have hq0 := HR3.out.cell 0
    have hq1 := (HR3.out.set 0 (.slice a3 d.1.length c3)).cell 1
    have hk0 := HR3.out.frozen 0
    have hk1 := HR3.out.frozen 1
    simp at hq0 hq1
    clear hV3 hO3 hb3 hb03 hb02 HX2 HT2 HR3 HFR
    go_wp2
    refine bodyPost_ret (results_row_tmp rfl _ _ (w.heap.size + 1) 27 #[.slice a3 d.1.length c3, .slice b3 d.2.length d3] _ rfl HR10.out Tryd.underlying27 rfl Tryd.sizeDisk) rfl ?_
    exact ⟨_, by rw [HF.out.2]; rfl, by rw [HF.out.1]; exact HO10.out, hb10⟩
  | true =>
    have HF : Hid (wrD d at' s = (d.1, L) ∧ wrOk d at' s = true) := HYE.out hok
    have HOK' := HOK.out true hok
    have HOK2 : Hid (Calls Tryd.prog 60 #[.pointer (some ⟨Q, 0, none⟩)] w1 fun e w' => e = .returned (.bool true) ∧ Below w1.heap.size w1 w') := HOK'
    have HSL : Hid (SmD (d.1, L)) := smD_ok hok
    clear HOK HOK' hok HNO HYE
    go_wp2_with fail
    refine HOK2.out.mono ?_
    rintro e w2 ⟨rfl, hb2⟩
    have HV2 : Hid (Var w2 Q #[.slice a d.1.length ca, .slice b' L.length cb'] 27) := HV1.out.new hb2
    have HT2 : Hid (Var w2 (w.heap.size + 1) #[.slice none 0 0, .slice none 0 0] 27) := HT1.out.new hb2
    have HL2 : Hid (RdF encP 2 w2 b' L) := HL1.out.below hb2 (Nat.le_refl _)
    have hb02 : Below w.heap.size w w2 := hb01.trans (hb2.mono hb01.size)
    have hlt2 := HT2.out.lt
    have HFN : Hid (Calls Tryd.prog 45 #[.pointer (some ⟨Q, 0, none⟩)] w2 fun e w' => ∃ v1 v2, e = .returned (.pointer (some ⟨w2.heap.size, 0, none⟩)) ∧ Var w' w2.heap.size #[v1, v2] 27 ∧ OwnD w' (w2.heap.size + 1) (.agg #[v1, v2]) (d.1, L) ∧ Below w2.heap.size w2 w') := implFresh Q a b' ca cb' (d.1, L) w2 ⟨by show d.1.length ≤ _; omega, by show L.length ≤ _; omega⟩ HSL.out (HV2.out.cell 0) (HV2.out.cell 1) (HR1.out _ hb02) HL2.out
    clear HX1 HT1 HV1 HL1 HOK2 hb01 hb2 HL2 HV2 HFR
    go_wp2_with fail
    refine HFN.out.mono ?_
    rintro e w3 ⟨v1, v2, rfl, hV3, hO3, hb3⟩
    obtain ⟨a3, c3, b3, d3, he⟩ := hO3.shape
    cases he
    have HR3 : Hid (Var w3 (w.heap.size + 1) #[.slice none 0 0, .slice none 0 0] 27) := HT2.out.new hb3
    have hb03 : Below w.heap.size w w3 := hb02.trans (hb3.mono hb02.size)
    have HO10 : Hid (OwnD ((w3.setCell ⟨w.heap.size + 1, 0, none⟩ (.slice a3 d.1.length c3)).setCell ⟨w.heap.size + 1, 1, none⟩ (.slice b3 L.length d3)) w.heap.size (.agg #[.slice a3 d.1.length c3, .slice b3 L.length d3]) (d.1, L)) := ((hO3.setVar HR3.out 0 _).setVar (HR3.out.set 0 _) 1 _).base (by omega)
    have HR10 : Hid (Var ((w3.setCell ⟨w.heap.size + 1, 0, none⟩ (.slice a3 d.1.length c3)).setCell ⟨w.heap.size + 1, 1, none⟩ (.slice b3 L.length d3)) (w.heap.size + 1) #[.slice a3 d.1.length c3, .slice b3 L.length d3] 27) := HR3.out.two _ _
    have hb10 : Below w.heap.size w ((w3.setCell ⟨w.heap.size + 1, 0, none⟩ (.slice a3 d.1.length c3)).setCell ⟨w.heap.size + 1, 1, none⟩ (.slice b3 L.length d3)) := (hb03.setCell (p := ⟨w.heap.size + 1, 0, none⟩) (by show _ ≤ w.heap.size + 1; omega) _).setCell (p := ⟨w.heap.size + 1, 1, none⟩) (by show _ ≤ w.heap.size + 1; omega) _
    have hv0 : w3.cell? ⟨w2.heap.size, 0, none⟩ = some (.slice a3 d.1.length c3) := hV3.cell 0
    have hv1 : w3.cell? ⟨w2.heap.size, 1, none⟩ = some (.slice b3 L.length d3) := hV3.cell 1
    have hq0 := HR3.out.cell 0
    have hq1 := (HR3.out.set 0 (.slice a3 d.1.length c3)).cell 1
    have hk0 := HR3.out.frozen 0
    have hk1 := HR3.out.frozen 1
    simp at hq0 hq1
    clear hV3 hO3 hb3 hb03 hb02 HT2 HR3 HFN HSL
    go_wp2
    refine bodyPost_ret (results_row_tmp rfl _ _ (w.heap.size + 1) 27 #[.slice a3 d.1.length c3, .slice b3 L.length d3] _ rfl HR10.out Tryd.underlying27 rfl Tryd.sizeDisk) rfl ?_
    exact ⟨_, by rw [HF.out.2]; rfl, by rw [HF.out.1]; exact HO10.out, hb10⟩
end Go.Proofs.YtlidmnehpcodkaaDoor

/-
  Own text: slices.Repeat of one yes: as many as were asked for.
-/
namespace Go.Proofs.YtlidmnehpcodkaaDoor
open Go.RowKit

def fillB (n m : Nat) : List Value := (List.replicate m true ++ List.replicate (n - m) false).map Value.bool
theorem fillB_len {n m : Nat} (h : m ≤ n) : (fillB n m).length = n := by simp [fillB]; omega
theorem fillB_zero (n : Nat) : (madeCells #[Value.bool false] n).toList = fillB n 0 := by
  have h := made_flat encB_len false #[.bool false] rfl (by omega) n
  rw [Nat.mul_one] at h
  rw [h, flatB]
  simp [fillB]
theorem fillB_all (n : Nat) : fillB n n = (List.replicate n true).flatMap encB := by
  rw [flatB]; simp [fillB]
theorem fillB_more {n m c : Nat} (h : m + c ≤ n) : splice (fillB n m) m (List.replicate c (Value.bool true)) = fillB n (m + c) := by
  unfold splice fillB
  simp only [List.map_append, List.map_replicate, List.length_replicate]
  rw [List.take_append_of_le_length (by simp), List.take_of_length_le (by simp), List.drop_append]
  simp only [List.length_replicate, List.drop_replicate]
  rw [show m - (m + c) = 0 by omega, show n - m - (m + c - m) = n - (m + c) by omega]
  simp
  rw [← List.append_assoc, List.replicate_append_replicate]
theorem fillB_get {n m j : Nat} (h : j < m) : (fillB n m)[j]? = some (.bool true) := by
  unfold fillB
  rw [List.map_append, List.getElem?_append_left (by simpa using h)]
  simp [h]

set_option maxRecDepth 20000 in
set_option maxHeartbeats 1000000 in
theorem repT (g0 n : Nat) (w : World) (hn : n ≤ 4194304) (hc : w.cell? ⟨g0, 0, none⟩ = some (.bool true)) :
    Calls Tryd.prog 102 #[.slice (some ⟨g0, 0, none⟩) 1 1, .int .i64 n] w fun e w' => ∃ q cap, e = .returned (.slice q n cap) ∧ RdF encB 1 w' q (List.replicate n true) ∧ Below w.heap.size w w' := by
  obtain ⟨i0, hi, hz0, hz1, hz2⟩ := info_parts Tryd.infoBool
  have hsz : (Tryd.prog.info? 4).map (·.size) = some 1 := by rw [hi]; simp [hz1]
  have hmu := Tryd.bits_Mul 1 n (by omega) (by omega) w
  rw [show 1 * n / 18446744073709551616 = 0 by omega, show 1 * n % 18446744073709551616 = n by omega] at hmu
  have HMU : Hid (Calls Tryd.prog 120 #[.int .u64 1, .int .u64 n] w fun e w' => e = .returned (.tuple #[.int .u64 0, .int .u64 n]) ∧ w' = w) := hmu
  clear hmu
  have hn63 : ¬ (9223372036854775807 < n) := by omega
  go_enter Tryd.func102, Tryd.ntmps102
  go_wp2_with fail
  refine HMU.out.mono ?_
  rintro e w1 ⟨rfl, hw1⟩
  subst w1
  go_wp2_with (at_make; refine wpList_make_full _ rfl _ _ 32 rfl w.heap.size 4 i0 (.bool false) 1 Tryd.underlying32 hi hz0 hz1 _ _ _ _ n rfl rfl rfl rfl (by rw [hz2]; omega) (by unfold maxLen; omega) (Nat.le_refl _) ?_)
  intro w4 hown hgrow
  have HG4 : Hid (w4.heap[w.heap.size]? = some (.cells (fillB n 0).toArray 4 (0, 0))) := by
    show _ = _
    rw [fillB_zero] at hown
    rcases hown.2 with ⟨he, _⟩ | ⟨g, cap, cur, he, _, hg, _, _, hcs, ht⟩
    · cases he
    · cases he
      rw [hg, ← ht, Nat.mul_one, List.take_of_length_le (by rw [Array.length_toList, hcs]; omega)]
  have hb4 : Below w.heap.size w w4 := (Below.refl _ _).grown hgrow (Nat.le_refl _) (fun k hk => by simp at hk)
  have HB4 : Hid (Below w.heap.size w w4) := hb4
  have HC4 : Hid (w4.cell? ⟨g0, 0, none⟩ = some (.bool true)) := (hb4.cell (World.block_lt_of_cell? _ _ hc)).trans hc
  obtain ⟨c0, hc0⟩ : ∃ c0, c0 = Nat.min 1 n := ⟨_, rfl⟩
  have hc1 : c0 ≤ 1 ∧ c0 ≤ n ∧ (1 ≤ c0 ∨ n = 0) := by rw [hc0]; simp only [Nat.min_def]; split <;> omega
  clear hown hgrow hb4 HMU hc
  obtain ⟨w5, hcp, hg5, hb5⟩ : ∃ w5, (Builtin.copy_ #[32, 32] 3 #[.slice (some ⟨w.heap.size, 0, none⟩) n n, .slice (some ⟨g0, 0, none⟩) 1 1]).run Tryd.prog w4 = .ok (.int .i64 c0) w5 ∧ w5.heap[w.heap.size]? = some (.cells (fillB n c0).toArray 4 (0, 0)) ∧ Below w.heap.size w w5 := by
    by_cases h0 : n = 0
    · subst h0
      obtain rfl : c0 = 0 := by omega
      exact ⟨w4, run_copy_none (P := Tryd.prog) w4 _ _ _ 4 _ _ _ _ _ _ Tryd.underlying32 hsz (by simp), HG4.out, HB4.out⟩
    · obtain rfl : c0 = 1 := by omega
      have h := run_copy_row (P := Tryd.prog) w4 32 32 3 4 w.heap.size 0 n n ⟨g0, 0, none⟩ 1 1 (fillB n 0).toArray 4 [.bool true] Tryd.underlying32 hsz HG4.out (by simp only [List.length_singleton]; exact hc0) (fun j u hj => by
        obtain ⟨hj1, rfl⟩ := List.getElem?_eq_some_iff.1 hj
        simp at hj1
        subst hj1
        rw [Go.WideShapes.add_plain]; exact HC4.out) (by simp [fillB_len (Nat.zero_le n)]; omega) (by intro u hu; simp at hu; subst hu; rfl)
      refine ⟨_, h, ?_, below_setRow HB4.out (Nat.le_refl _) _⟩
      rw [setRow_heap w4 w.heap.size _ _ 4 _ HG4.out]
      have := fillB_more (n := n) (m := 0) (c := 1) (by omega)
      rw [← Nat.zero_add 1, ← this]
      rfl
  have HG5 : Hid (w5.heap[w.heap.size]? = some (.cells (fillB n c0).toArray 4 (0, 0))) := by
    exact hg5
  have HB5 : Hid (Below w.heap.size w w5) := hb5
  clear hg5 hb5 HG4 HB4 HC4 hc0
  go_wp2
  clear hcp
  go_loopw [8] (fun i wr => ∃ m : Nat, m ≤ n ∧ (1 ≤ m ∨ n = 0) ∧ i = .int .i64 m ∧ Hid (wr.heap[w.heap.size]? = some (.cells (fillB n m).toArray 4 (0, 0))) ∧ Hid (Below w.heap.size w wr)) (fun i _ => n - (intOf i).toNat)
  case atStart => exact ⟨c0, hc1.2.1, hc1.2.2, by simp, HG5, HB5⟩
  case round =>
    obtain ⟨m, hm, hm1, rfl, HG, HB⟩ := hrel
    clear HG5 HB5 hc1
    by_cases hlt : m < n
    · have hm0 : (0 : Int) ≤ (m : Int) := by omega
      have hm2 : (m : Int) < (n : Int) := by omega
      have hm3 : (m : Int) ≤ (n : Int) := by omega
      have hne : ¬ n = m := by omega
      obtain ⟨c, hc0⟩ : ∃ c, c = Nat.min m (n - m) := ⟨_, rfl⟩
      have hc : 1 ≤ c ∧ m + c ≤ n ∧ c ≤ m := by rw [hc0]; simp only [Nat.min_def]; split <;> omega
      have HMI : Hid (c = Nat.min m (n - m)) := hc0
      clear hc0
      have hwr : IntKind.i64.wrap ((m : Int) + (c : Int)) = (m : Int) + (c : Int) := by rw [IntKind.wrap_i64]; omega
      have HCM : Hid (∀ j u, (List.replicate c (Value.bool true))[j]? = some u → wr.cell? ((⟨w.heap.size, 0, none⟩ : Addr).add j) = some u) := by
        intro j u hj
        obtain ⟨hj1, rfl⟩ := List.getElem?_eq_some_iff.1 hj
        rw [List.length_replicate] at hj1
        rw [Go.WideShapes.add_plain, Nat.zero_add, cell_of_row wr w.heap.size j _ _ _ HG.out]
        simp [fillB_get (n := n) (m := m) (j := j) (by omega)]
      go_wp2
      go_region_law (first
        | (refine step_copy_splice rfl (.tmp 41) (.tmp 44) 32 32 rfl 4 Tryd.underlying32 hsz (some ⟨w.heap.size, m, none⟩) (some ⟨w.heap.size, 0, none⟩) (n - m) (n - m) m n (by simp [Act.eval, Act.put]) (by simp [Act.eval, Act.put]) w.heap.size m (fillB n m) 4 (by exact HG.out) (List.replicate c (.bool true)) (by rw [List.length_replicate]; exact HMI.out) (fun _ => ⟨rfl, _, rfl, by exact HCM.out⟩) (by rw [List.length_replicate, fillB_len (by omega)]; omega) (by intro u hu; rw [(List.mem_replicate.1 hu).2]; rfl) w.heap.size w (by exact HB.out.drew) (Nat.le_refl _) ?_
           intro w6 hg6 hb6
           have HG6 : Hid (w6.heap[w.heap.size]? = some (.cells (fillB n (m + c)).toArray 4 (0, 0))) := by
             have := hg6.out
             rw [fillB_more (by omega)] at this
             exact this
           have HB6 : Hid (Below w.heap.size w w6) := hb6
           clear hg6 hb6))
      all_goals
        go_simp
        go_wp2
        go_roundw
        case rel => exact ⟨m + c, by omega, by omega, by go_num, HG6, HB6⟩
        case measure => simp [intOf]; omega
    · obtain rfl : m = n := by omega
      have hr : RdF encB 1 wr (some ⟨w.heap.size, 0, none⟩) (List.replicate m true) := by
        by_cases h0 : m = 0
        · subst h0; exact .inl rfl
        refine .inr ⟨w.heap.size, 0, rfl, (Array.getElem?_eq_some_iff.1 HG.out).1, fun i hi j hj => ?_⟩
        obtain rfl : j = 0 := by omega
        simp at hi
        rw [cell_of_row wr w.heap.size _ _ _ _ HG.out]
        simp [fillB_get (n := m) (m := m) (j := i) hi, encB]
      have hb := HB.out
      go_wp2
      go_ret
      exact ⟨_, _, rfl, hr, hb⟩
end Go.Proofs.YtlidmnehpcodkaaDoor

/-
  Own text: a flush, as the program does it: the fall at which nothing is lost.
-/
namespace Go.Proofs.YtlidmnehpcodkaaDoor
open Go.RowKit

set_option maxRecDepth 20000 in
set_option maxHeartbeats 2000000 in
theorem implFlush (v : Value) (d : DiskD) (w : World) (hl : d.1.length ≤ 4194303 ∧ d.2.length ≤ 4194303) (hs : SmD d) (hr : RdD w v d) :
    Calls Tryd.prog 62 #[v] w fun e w' => ∃ v', e = .returned v' ∧ OwnD w' w.heap.size v' (dkFlush d) ∧ Below w.heap.size w w' := by
  have HRD : Hid (∀ W, Below w.heap.size w W → RdD W v d) := fun W h => hr.below h (Nat.le_refl _)
  obtain ⟨a, ca, b, cb, rfl, _, _⟩ := hr
  obtain ⟨hl1, hl2⟩ := hl
  have HFA : Hid (∀ W q qc, Below w.heap.size w W → RdF encB 1 W q (List.replicate d.2.length true) → Calls Tryd.prog 19 #[.agg #[.slice a d.1.length ca, .slice b d.2.length cb], .slice q d.2.length qc] W fun e w' => ∃ v', e = .returned v' ∧ OwnD w' W.heap.size v' (dkFlush d) ∧ Below W.heap.size W w') := by
    intro W q qc h hq
    have h := implFall _ d q qc (List.replicate d.2.length true) W ⟨by omega, by omega⟩ hs (HRD.out W h) hq
    rw [fall_all, List.length_replicate] at h
    exact h
  have hX0 : Var ((w.alloc (.cells #[.slice a d.1.length ca, .slice b d.2.length cb] 27)).alloc (.cells #[.slice none 0 0, .slice none 0 0] 27)) w.heap.size #[.slice a d.1.length ca, .slice b d.2.length cb] 27 := (Var.made w _ _).alloc _
  have hR0 : Var ((w.alloc (.cells #[.slice a d.1.length ca, .slice b d.2.length cb] 27)).alloc (.cells #[.slice none 0 0, .slice none 0 0] 27)) (w.heap.size + 1) #[.slice none 0 0, .slice none 0 0] 27 := Var.made2 w _ _ _
  have hb0 := below2 w (.cells #[.slice a d.1.length ca, .slice b d.2.length cb] 27) (.cells #[.slice none 0 0, .slice none 0 0] 27)
  clear hs
  go_enter Tryd.func62, Tryd.ntmps62
  go_wp2
  generalize (w.alloc (.cells #[.slice a d.1.length ca, .slice b d.2.length cb] 27)).alloc (.cells #[.slice none 0 0, .slice none 0 0] 27) = W0 at *
  have HB0 : Hid (Below w.heap.size w (W0.alloc (.cells #[.bool true] 4))) := hb0.alloc hb0.size _
  have HX0 : Hid (Var (W0.alloc (.cells #[.bool true] 4)) w.heap.size #[.slice a d.1.length ca, .slice b d.2.length cb] 27) := hX0.alloc _
  have HR0 : Hid (Var (W0.alloc (.cells #[.bool true] 4)) (w.heap.size + 1) #[.slice none 0 0, .slice none 0 0] 27) := hR0.alloc _
  have HT0 : Hid ((W0.alloc (.cells #[.bool true] 4)).cell? ⟨W0.heap.size, 0, none⟩ = some (.bool true)) := (Var.made W0 #[.bool true] 4).cell 0
  have hx0 : W0.cell? ⟨w.heap.size, 0, none⟩ = some (.slice a d.1.length ca) := hX0.cell 0
  have hx1 : W0.cell? ⟨w.heap.size, 1, none⟩ = some (.slice b d.2.length cb) := hX0.cell 1
  have hy0 : (W0.alloc (.cells #[.bool true] 4)).cell? ⟨w.heap.size, 0, none⟩ = some (.slice a d.1.length ca) := HX0.out.cell 0
  have hy1 : (W0.alloc (.cells #[.bool true] 4)).cell? ⟨w.heap.size, 1, none⟩ = some (.slice b d.2.length cb) := HX0.out.cell 1
  clear hX0 hR0 hb0
  go_region_law (first
    | (go_simp
       go_at_call 102
       refine (repT W0.heap.size d.2.length (W0.alloc (.cells #[.bool true] 4)).drew (by omega) (by exact HT0.out)).mono ?_
       rintro e w1 ⟨q, qc, rfl, hq1, hb1'⟩
       have hb1 : Below (W0.alloc (.cells #[.bool true] 4)).heap.size (W0.alloc (.cells #[.bool true] 4)) w1 := (Below.refl _ _).drew.trans hb1'
       have HX1 : Hid (Var w1 w.heap.size #[.slice a d.1.length ca, .slice b d.2.length cb] 27) := HX0.out.new hb1
       have HR1 : Hid (Var w1 (w.heap.size + 1) #[.slice none 0 0, .slice none 0 0] 27) := HR0.out.new hb1
       have HB1 : Hid (Below w.heap.size w w1) := HB0.out.trans (hb1.mono HB0.out.size)
       have HQ1 : Hid (RdF encB 1 w1 q (List.replicate d.2.length true)) := hq1
       have hz0 : w1.cell? ⟨w.heap.size, 0, none⟩ = some (.slice a d.1.length ca) := HX1.out.cell 0
       have hz1 : w1.cell? ⟨w.heap.size, 1, none⟩ = some (.slice b d.2.length cb) := HX1.out.cell 1
       clear hq1 hb1' hb1)
    | (go_simp
       go_at_call 19
       refine (HFA.out w1 q qc HB1.out HQ1.out).mono ?_
       rintro e w2 ⟨v2, rfl, hO2, hb2⟩
       obtain ⟨a2, c2, b2, d2, rfl⟩ := hO2.shape
       have HR2 : Hid (Var w2 (w.heap.size + 1) #[.slice none 0 0, .slice none 0 0] 27) := HR1.out.new hb2
       have hb02 : Below w.heap.size w w2 := HB1.out.trans (hb2.mono HB1.out.size)
       have hlt := HR1.out.lt
       have HO10 : Hid (OwnD ((w2.setCell ⟨w.heap.size + 1, 0, none⟩ (.slice a2 (dkFlush d).1.length c2)).setCell ⟨w.heap.size + 1, 1, none⟩ (.slice b2 (dkFlush d).2.length d2)) w.heap.size (.agg #[.slice a2 (dkFlush d).1.length c2, .slice b2 (dkFlush d).2.length d2]) (dkFlush d)) := ((hO2.setVar HR2.out 0 _).setVar (HR2.out.set 0 _) 1 _).base (by omega)
       have HR10 : Hid (Var ((w2.setCell ⟨w.heap.size + 1, 0, none⟩ (.slice a2 (dkFlush d).1.length c2)).setCell ⟨w.heap.size + 1, 1, none⟩ (.slice b2 (dkFlush d).2.length d2)) (w.heap.size + 1) #[.slice a2 (dkFlush d).1.length c2, .slice b2 (dkFlush d).2.length d2] 27) := HR2.out.two _ _
       have HB10 : Hid (Below w.heap.size w ((w2.setCell ⟨w.heap.size + 1, 0, none⟩ (.slice a2 (dkFlush d).1.length c2)).setCell ⟨w.heap.size + 1, 1, none⟩ (.slice b2 (dkFlush d).2.length d2))) := (hb02.setCell (p := ⟨w.heap.size + 1, 0, none⟩) (by show _ ≤ w.heap.size + 1; omega) _).setCell (p := ⟨w.heap.size + 1, 1, none⟩) (by show _ ≤ w.heap.size + 1; omega) _
       have hq0 := HR2.out.cell 0
       have hq1 := (HR2.out.set 0 (.slice a2 (dkFlush d).1.length c2)).cell 1
       have hk0 := HR2.out.frozen 0
       have hk1 := HR2.out.frozen 1
       simp at hq0 hq1
       clear hO2 hb2 hb02 HR2 hlt))
  all_goals
    go_simp
    go_wp2
    refine bodyPost_ret (results_cell_row rfl _ _ (w.heap.size + 1) 27 #[.slice a2 (dkFlush d).1.length c2, .slice b2 (dkFlush d).2.length d2] (0, 0) _ rfl HR10.out Tryd.underlying27 rfl Tryd.sizeDisk) rfl ?_
    exact ⟨_, rfl, HO10.out, HB10.out⟩
end Go.Proofs.YtlidmnehpcodkaaDoor

/-
  Own text: the program's disks, all their contracts together.
-/
namespace Go.Proofs.YtlidmnehpcodkaaDoor

theorem wr_sm {d : DiskD} {at' : Int} {s : ByteArray} (h : wrOk d at' s = true) : SmD (wrD d at' s) ∧ SmD (dkFlush (wrD d at' s)) := by
  unfold wrOk at h
  unfold wrD
  cases hw : dkWrite d at' s with
  | none => rw [hw] at h; cases h
  | some e =>
    simp only [Option.getD_some]
    have r1 := read_written hw
    exact ⟨smD_ok r1.2, smD_ok (flush_ok r1.2).1⟩
end Go.Proofs.YtlidmnehpcodkaaDoor
