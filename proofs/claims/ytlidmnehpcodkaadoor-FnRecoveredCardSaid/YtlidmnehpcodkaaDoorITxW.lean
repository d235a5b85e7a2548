/-
  Own text: which lists can be committed, as the program tells it.
-/
import Derived.Test.YtlidmnehpcodkaaDoorBunS
import Derived.Test.YtlidmnehpcodkaaDoorBunJ
import Derived.Test.YtlidmnehpcodkaaDoorBunC
import Derived.BigQuiet
namespace Go.Proofs.YtlidmnehpcodkaaDoor
open Go.RowKit

/-- Places alone, as a list of writes. -/
def bare (ats : List Int) : List PutD := ats.map fun x => (x, (⟨#[]⟩ : ByteArray))
theorem bare_tx {n : Int} {ats : List Int} : TxP n (bare ats) ↔ 1 ≤ n ∧ n ≤ 48 ∧ ats ≠ [] ∧ (∀ x ∈ ats, 0 ≤ x ∧ x < n) ∧ ∀ i (h : i + 1 < ats.length), (ats[i]'(Nat.lt_of_succ_lt h)) < ats[i + 1] := by
  unfold TxP bare
  constructor
  · rintro ⟨h1, h2, h3, h4, h5⟩
    refine ⟨h1, h2, by simpa using h3, fun x hx => ?_, fun i hi => ?_⟩
    · have := putOk_iff.1 (List.all_eq_true.1 h4 (x, ⟨#[]⟩) (List.mem_map.2 ⟨x, hx, rfl⟩))
      have h6 := this.2.1
      exact ⟨this.1, by show x < n; have : x ≤ (n.toNat : Int) - 1 := h6; omega⟩
    · have := h5 i (by simpa using hi)
      simpa using this
  · rintro ⟨h1, h2, h3, h4, h5⟩
    refine ⟨h1, h2, by simpa using h3, List.all_eq_true.2 fun p hp => ?_, fun i hi => ?_⟩
    · obtain ⟨x, hx, rfl⟩ := List.mem_map.1 hp
      have := h4 x hx
      exact putOk_iff.2 ⟨this.1, by show x ≤ (n.toNat : Int) - 1; omega, by show (⟨#[]⟩ : ByteArray).size ≤ 90; decide⟩
    · have := h5 i (by simpa using hi)
      simpa using this
theorem tx_bare {n : Int} {l : List PutD} (hz : ∀ p ∈ l, p.2.size ≤ 90) : jtx n (bare (l.map (·.1))) = jtx n l := by
  have e : TxP n (bare (l.map (·.1))) ↔ TxP n l := by
    rw [bare_tx]
    unfold TxP
    constructor
    · rintro ⟨h1, h2, h3, h4, h5⟩
      refine ⟨h1, h2, by simpa using h3, List.all_eq_true.2 fun p hp => putOk_iff.2 ?_, fun i hi => by have := h5 i (by simpa using hi); rw [List.getElem_map, List.getElem_map] at this; exact this⟩
      have := h4 p.1 (List.mem_map.2 ⟨p, hp, rfl⟩)
      exact ⟨this.1, by omega, hz p hp⟩
    · rintro ⟨h1, h2, h3, h4, h5⟩
      refine ⟨h1, h2, by simpa using h3, fun x hx => ?_, fun i hi => by rw [List.getElem_map, List.getElem_map]; exact h5 i (by simpa using hi)⟩
      obtain ⟨p, hp, rfl⟩ := List.mem_map.1 hx
      have := putOk_iff.1 (List.all_eq_true.1 h4 p hp)
      omega
  by_cases h : TxP n l
  · rw [jtx_yes h, jtx_yes (e.2 h)]
  · rw [jtx_no h, jtx_no (fun h' => h (e.1 h'))]

theorem implHomesOk (n : Int) (w : World) :
    Calls Tryd.prog 96 #[.int .i64 n] w fun e w' => e = .returned (.bool (decide (1 ≤ n) && decide (n ≤ 48))) ∧ w' = w := by
  by_cases h0 : 1 ≤ n
  · by_cases h1 : n ≤ 48
    · go_enter Tryd.func96, Tryd.ntmps96
      go_wp2
      go_ret
      exact ⟨by simp [h0, h1], rfl⟩
    · go_enter Tryd.func96, Tryd.ntmps96
      go_wp2
      go_ret
      exact ⟨by simp [h1], rfl⟩
  · go_enter Tryd.func96, Tryd.ntmps96
    go_wp2
    go_ret
    have hn : decide (1 ≤ n) = false := decide_eq_false (by omega)
    exact ⟨by rw [hn]; rfl, rfl⟩

theorem implHomeAt (n : Int) (w : World) (h0 : 0 ≤ n) (h1 : n ≤ 4611686018427387904) :
    Calls Tryd.prog 53 #[.int .i64 n] w fun e w' => e = .returned (.int .i64 (n + 1)) ∧ w' = w := by
  have hw : IntKind.i64.wrap (n + 1) = n + 1 := by rw [IntKind.wrap_i64]; omega
  go_enter Tryd.func53, Tryd.ntmps53
  go_wp2
  go_ret
  exact ⟨rfl, rfl⟩

/-- What is known ahead of place k: all places before it are right and ascend; m is the least one that may come. -/
def AtsTo (n : Int) (ats : List Int) (k : Nat) (m : Int) : Prop :=
  (∀ i (h : i < ats.length), i < k → 0 ≤ ats[i] ∧ ats[i] < n) ∧ (∀ i (h : i + 1 < ats.length), i + 1 < k → (ats[i]'(Nat.lt_of_succ_lt h)) < ats[i + 1]) ∧ (k = 0 → m = 0) ∧ (∀ j (h : j < ats.length), j + 1 = k → m = ats[j] + 1)
theorem AtsTo.zero (n : Int) (ats : List Int) : AtsTo n ats 0 0 := ⟨fun _ _ h => by omega, fun _ _ h => by omega, fun _ => rfl, fun _ _ h => by omega⟩
theorem AtsTo.least {n : Int} {ats : List Int} {k : Nat} {m : Int} (h : AtsTo n ats k m) (hk : k ≤ ats.length) : 0 ≤ m := by
  cases k with
  | zero => have := h.2.2.1 rfl; omega
  | succ j => have h1 := h.2.2.2 j (by omega) rfl; have h2 := h.1 j (by omega) (by omega); omega
theorem AtsTo.next {n : Int} {ats : List Int} {k : Nat} {m : Int} (h : AtsTo n ats k m) (hk : k < ats.length) (h0 : m ≤ ats[k]) (h1 : ats[k] < n) : AtsTo n ats (k + 1) (ats[k] + 1) := by
  have hm := h.least (Nat.le_of_lt hk)
  refine ⟨fun i hi hik => ?_, fun i hi hik => ?_, fun h => by omega, fun j hj e => ?_⟩
  · by_cases e : i = k
    · subst e; exact ⟨by omega, h1⟩
    · exact h.1 i hi (by omega)
  · by_cases e : i + 1 = k
    · subst e
      have := h.2.2.2 i (by omega) rfl
      omega
    · exact h.2.1 i hi (by omega)
  · obtain rfl : j = k := by omega
    rfl
theorem AtsTo.bad {n : Int} {ats : List Int} {k : Nat} {m : Int} (h : AtsTo n ats k m) (hk : k < ats.length) (hx : ats[k] < m ∨ n ≤ ats[k]) : jtx n (bare ats) = false := by
  refine jtx_no fun ht => ?_
  obtain ⟨h1, h2, h3, h4, h5⟩ := bare_tx.1 ht
  have hb := h4 _ (List.getElem_mem hk)
  rcases hx with hx | hx
  · cases k with
    | zero => have := h.2.2.1 rfl; omega
    | succ j => have e1 := h.2.2.2 j (by omega) rfl; have e2 := h5 j hk; omega
  · omega
theorem AtsTo.all {n : Int} {ats : List Int} {m : Int} (h : AtsTo n ats ats.length m) (h1 : 1 ≤ n) (h2 : n ≤ 48) : jtx n (bare ats) = decide (0 < ats.length) := by
  by_cases h0 : 0 < ats.length
  · rw [jtx_yes (bare_tx.2 ⟨h1, h2, List.length_pos_iff.1 h0, fun x hx => ?_, fun i hi => h.2.1 i hi hi⟩)]
    · simp [h0]
    · obtain ⟨i, hi, rfl⟩ := List.mem_iff_getElem.1 hx
      exact h.1 i hi hi
  · rw [jtx_no fun ht => (bare_tx.1 ht).2.2.1 (List.eq_nil_of_length_eq_zero (by omega))]
    simp [h0]

set_option maxRecDepth 20000 in
set_option maxHeartbeats 1000000 in
theorem implAtsOk (a : Option Addr) (cap : Nat) (ats : List Int) (n : Int) (w : World) (hl : ats.length ≤ 4194304) (hr : Rd .i64 w a ats) :
    Calls Tryd.prog 74 #[.int .i64 n, .slice a ats.length cap] w fun e w' => e = .returned (.bool (jtx n (bare ats))) ∧ w' = w := by
  have HCS : Hid (∀ k (hk : k < ats.length), ∃ b off, a = some ⟨b, off, none⟩ ∧ w.cell? ⟨b, off + k, none⟩ = some (.int .i64 ats[k])) := by
    intro k hk
    rcases hr with rfl | ⟨b, off, rfl, _, h2⟩
    · simp at hk
    · refine ⟨b, off, rfl, ?_⟩
      have := h2 k hk
      simpa [List.getD, hk] using this
  clear hr
  cases hin : (decide (1 ≤ n) && decide (n ≤ 48)) with
  | false =>
    have HF : Hid (jtx n (bare ats) = false) := jtx_no fun h => by simp at hin; have h1 := h.1; have h2 := h.2.1; omega
    have HH := implHomesOk n w
    rw [hin] at HH
    have HH2 : Hid (Calls Tryd.prog 96 #[.int .i64 n] w fun e w' => e = .returned (.bool false) ∧ w' = w) := HH
    clear HH hin
    go_enter Tryd.func74, Tryd.ntmps74
    go_wp2
    go_loopw [5, 10] (fun u i wr => ∃ (k : Nat) (m : Int), k ≤ ats.length ∧ i = .int .i64 k ∧ u = .int .i64 m ∧ wr = w) (fun _ i _ => ats.length - (intOf i).toNat)
    case atStart => exact ⟨0, 0, Nat.zero_le _, rfl, rfl, rfl⟩
    case round =>
      obtain ⟨k, m, hk, rfl, rfl, hwr⟩ := hrel
      subst wr
      by_cases hlt : k < ats.length
      · obtain ⟨b, off, rfl, hc⟩ := HCS.out k hlt
        generalize ats[k] = y at *
        by_cases h1 : y < m
        · go_wp2
          go_ret
          exact ⟨by rw [HF.out]; rfl, rfl⟩
        · by_cases h2 : n ≤ y
          · go_wp2
            go_ret
            exact ⟨by rw [HF.out]; rfl, rfl⟩
          · go_wp2
            go_roundw
            case rel => exact ⟨k + 1, _, by omega, by go_num, rfl, trivial⟩
            case measure => simp [intOf]; omega
      · obtain rfl : k = ats.length := by omega
        go_wp2_with (go_at_call 96; refine HH2.out.mono ?_; rintro e w1 ⟨rfl, hw1⟩; subst w1)
        go_ret
        exact ⟨by rw [HF.out]; rfl, rfl⟩
  | true =>
    have hn1 : 1 ≤ n := by simp at hin; omega
    have hn2 : n ≤ 48 := by simp at hin; omega
    have HH := implHomesOk n w
    rw [hin] at HH
    have HH2 : Hid (Calls Tryd.prog 96 #[.int .i64 n] w fun e w' => e = .returned (.bool true) ∧ w' = w) := HH
    clear HH hin
    go_enter Tryd.func74, Tryd.ntmps74
    go_wp2
    go_loopw [5, 10] (fun u i wr => ∃ (k : Nat) (m : Int), k ≤ ats.length ∧ i = .int .i64 k ∧ u = .int .i64 m ∧ Hid (AtsTo n ats k m) ∧ wr = w) (fun _ i _ => ats.length - (intOf i).toNat)
    case atStart => exact ⟨0, 0, Nat.zero_le _, rfl, rfl, AtsTo.zero n ats, rfl⟩
    case round =>
      obtain ⟨k, m, hk, rfl, rfl, HA, hwr⟩ := hrel
      subst wr
      by_cases hlt : k < ats.length
      · obtain ⟨b, off, rfl, hc⟩ := HCS.out k hlt
        have HN : Hid (m ≤ ats[k] → ats[k] < n → AtsTo n ats (k + 1) (ats[k] + 1)) := HA.out.next hlt
        have HB : Hid (ats[k] < m ∨ n ≤ ats[k] → jtx n (bare ats) = false) := HA.out.bad hlt
        have hm := HA.out.least hk
        clear HA
        generalize ats[k] = y at *
        by_cases h1 : y < m
        · have HF : Hid (jtx n (bare ats) = false) := HB.out (.inl h1)
          clear HB HN
          go_wp2
          go_ret
          exact ⟨by rw [HF.out]; rfl, rfl⟩
        · by_cases h2 : n ≤ y
          · have HF : Hid (jtx n (bare ats) = false) := HB.out (.inr h2)
            clear HB HN
            go_wp2
            go_ret
            exact ⟨by rw [HF.out]; rfl, rfl⟩
          · have HN2 : Hid (AtsTo n ats (k + 1) (y + 1)) := HN.out (by omega) (by omega)
            have hw : IntKind.i64.wrap (y + 1) = y + 1 := by rw [IntKind.wrap_i64]; omega
            clear HB HN
            go_wp2
            go_roundw
            case rel => exact ⟨k + 1, y + 1, by omega, by go_num, by go_num, HN2, trivial⟩
            case measure => simp [intOf]; omega
      · obtain rfl : k = ats.length := by omega
        have HF : Hid (jtx n (bare ats) = decide (0 < ats.length)) := HA.out.all hn1 hn2
        clear HA
        by_cases h0 : 0 < ats.length
        · have h0' : (0 : Int) < (ats.length : Int) := by omega
          go_wp2_with (go_at_call 96; refine HH2.out.mono ?_; rintro e w1 ⟨rfl, hw1⟩; subst w1)
          go_ret
          exact ⟨by rw [HF.out]; simp [h0], rfl⟩
        · have h0' : ¬ (0 : Int) < (ats.length : Int) := by omega
          go_wp2_with (go_at_call 96; refine HH2.out.mono ?_; rintro e w1 ⟨rfl, hw1⟩; subst w1)
          go_ret
          exact ⟨by rw [HF.out]; simp [h0], rfl⟩

theorem implTxOk_ats {l : List PutD} {k : Nat} (h : k < l.length) : (l.take (k + 1)).map (fun p => Value.int .i64 p.1) = (l.take k).map (fun p => Value.int .i64 p.1) ++ [.int .i64 l[k].1] := by
  rw [List.take_succ_eq_append_getElem h, List.map_append]; rfl

set_option maxRecDepth 20000 in
set_option maxHeartbeats 1000000 in
theorem implTxOk (a : Option Addr) (cap : Nat) (l : List PutD) (n : Int) (w : World) (hl : l.length ≤ 4194304) (hr : RdF encP 2 w a l) :
    Calls Tryd.prog 56 #[.int .i64 n, .slice a l.length cap] w fun e w' => e = .returned (.bool (jtx n l)) ∧ Below w.heap.size w w' := by
  obtain ⟨i0, hi, hz0, hz1, hz2⟩ := info_parts Tryd.infoI
  have HCS : Hid (∀ k (hk : k < l.length), ∃ b off, a = some ⟨b, off, none⟩ ∧ b < w.heap.size ∧ w.cell? ⟨b, off + k * 2, none⟩ = some (.int .i64 l[k].1) ∧ w.cell? ⟨b, off + k * 2 + 1, none⟩ = some (.string l[k].2)) := by
    intro k hk
    obtain ⟨b, off, h1, h2, h3⟩ := hr.at k hk
    exact ⟨b, off, h1, h2, h3 0 (by omega), h3 1 (by omega)⟩
  clear hr
  have hO0 : w.ownsRow w.heap.size 3 1 (.slice none 0 0) 0 ((l.take 0).map fun p => Value.int .i64 p.1) := by rw [List.take_zero]; exact World.ownsRow_nil _ _ _ _
  go_enter Tryd.func56, Tryd.ntmps56
  go_wp2
  go_loopw [5, 10] (fun v i wr => ∃ k : Nat, k ≤ l.length ∧ i = .int .i64 k ∧ Hid (wr.ownsRow w.heap.size 3 1 v k ((l.take k).map fun p => Value.int .i64 p.1)) ∧ Hid (∀ p ∈ l.take k, p.2.size ≤ 90) ∧ Hid (Below w.heap.size w wr)) (fun _ i _ => l.length - (intOf i).toNat)
  case atStart => exact ⟨0, Nat.zero_le _, rfl, hO0, fun p hp => by simp at hp, Below.refl _ _⟩
  case round =>
    obtain ⟨k, hk, rfl, HO, HZ, HB⟩ := hrel
    clear hO0
    by_cases hlt : k < l.length
    · obtain ⟨x, off, rfl, hblt, hc0, hc1⟩ := HCS.out k hlt
      have hd0 : wr.cell? ⟨x, off + k * 2, none⟩ = some (.int .i64 l[k].1) := (HB.out.cell hblt).trans hc0
      have hd1 : wr.cell? ⟨x, off + k * 2 + 1, none⟩ = some (.string l[k].2) := (HB.out.cell hblt).trans hc1
      have HBD : Hid (90 < l[k].2.size → jtx n l = false) := fun h => jtx_no fun ht => by have := (ht.at _ (List.getElem_mem hlt)).2.2; omega
      have HZ1 : Hid (l[k].2.size ≤ 90 → ∀ p ∈ l.take (k + 1), p.2.size ≤ 90) := by
        intro h p hp
        rw [List.take_succ_eq_append_getElem hlt] at hp
        rcases List.mem_append.1 hp with hp | hp
        · exact HZ.out p hp
        · obtain rfl : p = l[k] := by simpa using hp
          exact h
      have HT1 : Hid ((l.take (k + 1)).map (fun p => Value.int .i64 p.1) = (l.take k).map (fun p => Value.int .i64 p.1) ++ [.int .i64 l[k].1]) := implTxOk_ats hlt
      clear hc0 hc1 HZ
      generalize l[k].1 = y at *
      generalize l[k].2 = ys at *
      have HB1 : Hid (Below w.heap.size w (wr.alloc (.cells #[.int .i64 y, .string ys] 39))) := HB.out.alloc HB.out.size _
      have HV1 : Hid (Var (wr.alloc (.cells #[.int .i64 y, .string ys] 39)) wr.heap.size #[.int .i64 y, .string ys] 39) := Var.made wr _ _
      have hy0 := HV1.out.cell 0
      have hy1 := HV1.out.cell 1
      simp at hy0 hy1
      by_cases hbig : 90 < ys.size
      · have HF : Hid (jtx n l = false) := HBD.out hbig
        have hbig' : (90 : Int) < (ys.size : Int) := by omega
        clear HBD HZ1
        go_wp2
        go_ret
        exact ⟨by rw [HF.out]; rfl, HB1.out⟩
      · have HZ2 : Hid (∀ p ∈ l.take (k + 1), p.2.size ≤ 90) := HZ1.out (by omega)
        have hbig' : ¬ (90 : Int) < (ys.size : Int) := by omega
        clear HBD HZ1
        have ho1 := (HO.out.alloc (.cells #[.int .i64 y, .string ys] 39)).alloc (.cells #[.int .i64 y] 3)
        have HS1 : Hid (Src Tryd.prog 1 49 (.slice (some ⟨(wr.alloc (.cells #[.int .i64 y, .string ys] 39)).heap.size, 0, none⟩) 1 1) 1 [.int .i64 y] ((wr.alloc (.cells #[.int .i64 y, .string ys] 39)).alloc (.cells #[.int .i64 y] 3))) := src_one Tryd.underlying49 _ (.int .i64 y) rfl
        have hb2 : Below w.heap.size w ((wr.alloc (.cells #[.int .i64 y, .string ys] 39)).alloc (.cells #[.int .i64 y] 3)) := HB1.out.alloc HB1.out.size _
        rw [show (wr.alloc (.cells #[.int .i64 y, .string ys] 39)).heap.size = wr.heap.size + 1 by simp] at HS1
        clear HO HB HB1
        go_wp2_with (at_builtin; refine wpList_append_own_src _ rfl (.tmp 18) (.tmp 21) 49 49 rfl w.heap.size 3 i0 (.int .i64 0) 1 8 Tryd.underlying49 hi hz0 hz1 hz2 rfl _ _ _ rfl ho1 _ 1 [.int .i64 y] rfl HS1.out (by unfold maxLen; omega) (by omega) hb2.size ?_)
        intro v5 w5 ho5 hg5
        have HB5 : Hid (Below w.heap.size w w5) := hb2.grown hg5 hb2.size (fun j hj => (ho1.lt j hj).1)
        have HO5 : Hid (w5.ownsRow w.heap.size 3 1 v5 (k + 1) ((l.take (k + 1)).map fun p => Value.int .i64 p.1)) := by
          show World.ownsRow _ _ _ _ _ _ _
          rw [HT1.out, List.map_take]
          exact ho5
        clear ho5 hg5 ho1 hb2 HS1 HT1 HV1 hy0 hy1
        go_wp2
        go_roundw
        case rel => exact ⟨k + 1, by omega, by go_num, HO5, HZ2, HB5⟩
        case measure => simp [intOf]; omega
    · obtain rfl : k = l.length := by omega
      have hO := HO.out
      have hZ := HZ.out
      rw [List.take_length] at hO hZ
      rw [show l.map (fun p => Value.int .i64 p.1) = (l.map (·.1)).map (Value.int .i64) by simp] at hO
      rw [show l.length = (l.map (·.1)).length by simp] at hO
      obtain ⟨q, qc, rfl, _, hrq⟩ := own_rd hO
      have HA : Hid (Calls Tryd.prog 74 #[.int .i64 n, .slice q l.length qc] wr fun e w' => e = .returned (.bool (jtx n l)) ∧ w' = wr) := by
        have := implAtsOk q qc (l.map (·.1)) n wr (by simpa using hl) hrq
        rw [tx_bare hZ, List.length_map] at this
        exact this
      have hB := HB.out
      clear HO HZ HB hO hZ hrq
      rw [List.length_map]
      go_wp2_with fail
      refine HA.out.mono ?_
      rintro e w1 ⟨rfl, hw1⟩
      subst w1
      go_wp2
      go_ret
      exact ⟨rfl, hB⟩
end Go.Proofs.YtlidmnehpcodkaaDoor
