/-
  Own texts, several together.
-/
import Derived.Test.YtlidmnehpcodkaaDoorBunS
import Derived.Test.YtlidmnehpcodkaaDoorBunC
import Derived.BigQuiet
import Derived.Test.YtlidmnehpcodkaaDoorBunA
import Derived.Laws.IdiomStrings
/-
  Own text: which lists can be committed, as the other program tells it.
-/
namespace Go.Proofs.YtlidmnehpcodkaaDoor
open Go.RowKit

theorem tx_desc {n : Int} {l : List PutD} {k : Nat} (hk : k + 1 < l.length) (h : l[k + 1].1 ≤ (l[k]'(Nat.lt_of_succ_lt hk)).1) : jtx n l = false :=
  jtx_no fun ht => by have := ht.2.2.2.2 k hk; omega

set_option maxRecDepth 20000 in
set_option maxHeartbeats 1000000 in
theorem specTxOk (a : Option Addr) (cap : Nat) (l : List PutD) (n : Int) (w : World) (hl : l.length ≤ 4194304) (hr : RdF encP 2 w a l) :
    Calls Tryd.prog 28 #[.int .i64 n, .slice a l.length cap] w fun e w' => e = .returned (.bool (jtx n l)) ∧ Below w.heap.size w w' := by
  have HIN : Hid (∀ Q, (decide (1 ≤ n) && decide (n ≤ 48)) = Q → ∀ W, Calls Tryd.prog 76 #[.int .i64 n, .int .i64 1, .int .i64 48] W fun e w' => e = .returned (.bool Q) ∧ w' = W) := by
    rintro Q rfl W
    exact inW n 1 48 W
  cases hin : (decide (1 ≤ n) && decide (n ≤ 48)) with
  | false =>
    have HF : Hid (jtx n l = false) := jtx_no fun h => by simp at hin; have h1 := h.1; have h2 := h.2.1; omega
    have HI := HIN.out false hin w
    have HI2 : Hid (Calls Tryd.prog 76 #[.int .i64 n, .int .i64 1, .int .i64 48] w fun e w' => e = .returned (.bool false) ∧ w' = w) := HI
    clear HI HIN hr hin
    go_enter Tryd.func28, Tryd.ntmps28
    go_wp2_with (go_at_call 76; refine HI2.out.mono ?_; rintro e w1 ⟨rfl, hw1⟩; subst w1)
    go_ret
    exact ⟨by rw [HF.out]; rfl, Below.refl _ _⟩
  | true =>
    obtain ⟨N, rfl⟩ : ∃ N : Nat, n = (N : Int) := ⟨n.toNat, by simp at hin; omega⟩
    have hN1 : 1 ≤ N := by simp at hin; omega
    have hN2 : N ≤ 48 := by simp at hin; omega
    have HI := HIN.out true hin w
    have HI2 : Hid (Calls Tryd.prog 76 #[.int .i64 (N : Int), .int .i64 1, .int .i64 48] w fun e w' => e = .returned (.bool true) ∧ w' = w) := HI
    clear HI HIN hin
    by_cases h0 : l = []
    · subst h0
      have HF : Hid (jtx (N : Int) [] = false) := jtx_no fun h => h.2.2.1 rfl
      clear hr
      go_enter Tryd.func28, Tryd.ntmps28
      go_wp2_with (go_at_call 76; refine HI2.out.mono ?_; rintro e w1 ⟨rfl, hw1⟩; subst w1)
      go_ret
      exact ⟨by rw [HF.out]; rfl, Below.refl _ _⟩
    · have hpos : 0 < l.length := List.length_pos_iff.2 h0
      have hne : ¬ ((l.length : Nat) : Int) = 0 := by omega
      have hne2 : ¬ l.length = 0 := by omega
      have hne3 : (((l.length : Nat) : Int) == 0) = false := by simpa using hne2
      have HP : Hid (∀ Q, l.all (putOk N) = Q → Calls Tryd.prog 68 #[.slice a l.length cap, .int .i64 (N : Int)] w fun e w' => e = .returned (.bool Q) ∧ w' = w) := by
        rintro Q rfl
        exact putsOkW a cap l N w hl (by omega) hr
      have HCS : Hid (∀ k (hk : k < l.length), ∃ b off, a = some ⟨b, off, none⟩ ∧ b < w.heap.size ∧ w.cell? ⟨b, off + k * 2, none⟩ = some (.int .i64 l[k].1)) := by
        intro k hk
        obtain ⟨b, off, h1, h2, h3⟩ := hr.at k hk
        exact ⟨b, off, h1, h2, h3 0 (by omega)⟩
      have HNE : Hid (l ≠ []) := h0
      clear hr h0
      cases hp : l.all (putOk N) with
      | false =>
        have HF : Hid (jtx (N : Int) l = false) := jtx_no fun h => by have := h.2.2.2.1; rw [show (N : Int).toNat = N by omega, hp] at this; cases this
        have HQ := HP.out false hp
        have HP2 : Hid (Calls Tryd.prog 68 #[.slice a l.length cap, .int .i64 (N : Int)] w fun e w' => e = .returned (.bool false) ∧ w' = w) := HQ
        clear HQ HP hp
        go_enter Tryd.func28, Tryd.ntmps28
        go_wp2_with (first
          | (go_at_call 76; refine HI2.out.mono ?_; rintro e w1 ⟨rfl, hw1⟩; subst w1)
          | (go_at_call 68; refine HP2.out.mono ?_; rintro e w1 ⟨rfl, hw1⟩; subst w1))
        go_ret
        exact ⟨by rw [HF.out]; rfl, Below.refl _ _⟩
      | true =>
        have HY : Hid ((∀ i (h : i + 1 < l.length), (l[i]'(Nat.lt_of_succ_lt h)).1 < l[i + 1].1) → jtx (N : Int) l = true) := fun h => jtx_yes ⟨by omega, by omega, HNE.out, by rw [show (N : Int).toNat = N by omega, hp], h⟩
        have HQ := HP.out true hp
        have HP2 : Hid (Calls Tryd.prog 68 #[.slice a l.length cap, .int .i64 (N : Int)] w fun e w' => e = .returned (.bool true) ∧ w' = w) := HQ
        clear HQ HP hp
        go_enter Tryd.func28, Tryd.ntmps28
        go_wp2_with (first
          | (go_at_call 76; refine HI2.out.mono ?_; rintro e w1 ⟨rfl, hw1⟩; subst w1)
          | (go_at_call 68; refine HP2.out.mono ?_; rintro e w1 ⟨rfl, hw1⟩; subst w1))
        go_loopw [5] (fun i wr => ∃ k : Nat, 1 ≤ k ∧ k ≤ l.length ∧ i = .int .i64 k ∧ Hid (∀ i (h : i + 1 < l.length), i + 1 < k → (l[i]'(Nat.lt_of_succ_lt h)).1 < l[i + 1].1) ∧ Below w.heap.size w wr) (fun i _ => l.length - (intOf i).toNat)
        case atStart => exact ⟨1, Nat.le_refl _, hpos, rfl, fun i _ h => by omega, Below.refl _ _⟩
        case round =>
          obtain ⟨k, hk1, hk, rfl, HA, hb⟩ := hrel
          by_cases hlt : k < l.length
          · obtain ⟨m, rfl⟩ : ∃ m, k = m + 1 := ⟨k - 1, by omega⟩
            obtain ⟨b, off, rfl, hblt, hc1⟩ := HCS.out (m + 1) hlt
            obtain ⟨b', off', he, _, hc0⟩ := HCS.out m (by omega)
            cases he
            have hd1 : wr.cell? ⟨b, off + (m + 1) * 2, none⟩ = some (.int .i64 l[m + 1].1) := (hb.cell hblt).trans hc1
            have hd0 : wr.cell? ⟨b, off + m * 2, none⟩ = some (.int .i64 (l[m]'(by omega)).1) := (hb.cell hblt).trans hc0
            have HNX : Hid ((l[m]'(by omega)).1 < l[m + 1].1 → ∀ i (h : i + 1 < l.length), i + 1 < m + 1 + 1 → (l[i]'(Nat.lt_of_succ_lt h)).1 < l[i + 1].1) := by
              intro h i hi h2
              by_cases e : i = m
              · subst e; exact h
              · exact HA.out i hi (by omega)
            have HBD : Hid (l[m + 1].1 ≤ (l[m]'(by omega)).1 → jtx (N : Int) l = false) := tx_desc hlt
            clear hc1 hc0 HA
            generalize (l[m]'(by omega)).1 = y0 at *
            generalize l[m + 1].1 = y1 at *
            have hm1 : ((m + 1 : Nat) : Int) - 1 = (m : Int) := by omega
            have hi0 : (0 : Int) ≤ (m : Int) := by omega
            have hi1 : (m : Int) < (l.length : Int) := by omega
            have hi2 : ((m + 1 : Nat) : Int) < (l.length : Int) := by omega
            by_cases hy : y1 ≤ y0
            · have HF : Hid (jtx (N : Int) l = false) := HBD.out hy
              go_wp2
              go_quiet (fail)
              go_wp2
              go_ret
              exact ⟨by rw [HF.out]; rfl, hb.trans ⟨rfl, rfl, rfl, Nat.le_refl _, fun _ _ => rfl⟩⟩
            · have HN' := HNX.out (by omega)
              have HN2 : Hid (∀ i (h : i + 1 < l.length), i + 1 < m + 1 + 1 → (l[i]'(Nat.lt_of_succ_lt h)).1 < l[i + 1].1) := HN'
              clear HN' HNX HBD
              go_wp2
              go_quiet (fail)
              go_wp2
              go_roundw
              case rel => exact ⟨m + 1 + 1, by omega, by omega, by go_num, HN2, hb.trans ⟨rfl, rfl, rfl, Nat.le_refl _, fun _ _ => rfl⟩⟩
              case measure => simp [intOf]; omega
          · obtain rfl : k = l.length := by omega
            have HT : Hid (jtx (N : Int) l = true) := HY.out (fun i hi => HA.out i hi hi)
            go_wp2
            go_ret
            exact ⟨by rw [HT.out]; rfl, hb⟩
end Go.Proofs.YtlidmnehpcodkaaDoor

/-
  Own text: the check sum of texts, one behind the other, as the other program reckons it.
-/
namespace Go.Proofs.YtlidmnehpcodkaaDoor
open Go.RowKit

/-- A row of the call's own, as a source. -/
theorem src_own {P : Program} {w : World} {base : Nat} {t e e' : TypeId} {v : Value} {n : Nat} {xs : List Value} (ht : P.underlying t = some (.slice e')) (h : w.ownsRow base e 1 v n xs) (h1 : ∀ u ∈ xs, u.oneCell' = true) : Src P 1 t v n xs w := by
  have hl : xs.length = n * 1 := h.1
  rcases h.2 with ⟨rfl, rfl⟩ | ⟨g, cap, cur, rfl, _⟩
  · obtain rfl : xs = [] := List.eq_nil_of_length_eq_zero (by simpa using hl)
    exact Src.ofNil w ht 0
  · exact Src.ofSlice w ht ⟨g, 0, none⟩ n cap xs hl (h.cells (g := g) rfl) h1
theorem sumB_len {l : List ByteArray} (hz : ∀ s ∈ l, s.size ≤ 90) : (sumB l).length ≤ l.length * 95 := by
  induction l with
  | nil => simp [sumB]
  | cons s l ih =>
    have h1 := ih (fun x hx => hz x (by simp [hx]))
    have h2 := putText_len s
    have h3 := hz s (by simp)
    simp only [sumB, List.flatMap_cons, List.length_append, List.length_cons] at h1 ⊢
    omega
theorem sumB_take {l : List ByteArray} {k : Nat} (h : k < l.length) : sumB (l.take (k + 1)) = sumB (l.take k) ++ putText l[k] := by
  rw [List.take_succ_eq_append_getElem h]; unfold sumB; rw [List.flatMap_append]; simp only [List.flatMap_cons, List.flatMap_nil, List.append_nil]

set_option maxRecDepth 20000 in
set_option maxHeartbeats 1000000 in
theorem specSum (a : Option Addr) (cap : Nat) (l : List ByteArray) (w : World) (hl : l.length ≤ 48) (hz : ∀ s ∈ l, s.size ≤ 90) (hr : RdS w a l) :
    Calls Tryd.prog 65 #[.slice a l.length cap] w fun e w' => e = .returned (.int .i64 ((sumOf l : Nat) : Int)) ∧ Below w.heap.size w w' := by
  obtain ⟨i0, hi, hz0, hz1, hz2⟩ := info_parts Tryd.infoU8
  have HCS : Hid (∀ k (hk : k < l.length), ∃ x off, a = some ⟨x, off, none⟩ ∧ x < w.heap.size ∧ w.cell? ⟨x, off + k, none⟩ = some (.string l[k])) := fun k hk => hr.cellT k hk
  have HZ : Hid (∀ k (hk : k < l.length), l[k].size ≤ 90) := fun k hk => hz _ (List.getElem_mem hk)
  have HL : Hid (∀ k, k ≤ l.length → (sumB (l.take k)).length ≤ 4560) := by
    intro k hk
    have := sumB_len (l := l.take k) (fun s hs => hz s (List.mem_of_mem_take hs))
    simp at this
    omega
  have HS : Hid (sumOf l = crcTo (sumB l) (sumB l).length ^^^ 4294967295) := rfl
  have hmade : (w.alloc (.cells #[] 5)).ownsRow w.heap.size 5 1 (.slice (some ⟨w.heap.size, 0, none⟩) 0 0) 0 [] := World.ownsRow_made w #[] 0 (Nat.le_refl _) (Nat.zero_le _) rfl
  clear hr hz
  go_enter Tryd.func65, Tryd.ntmps65
  go_wp2
  go_loopw [3, 4] (fun v i wr => ∃ k : Nat, k ≤ l.length ∧ i = .int .i64 k ∧ wr.ownsRow w.heap.size 5 1 v (sumB (l.take k)).length ((sumB (l.take k)).map (Value.int .u8)) ∧ Below w.heap.size w wr) (fun _ i _ => l.length - (intOf i).toNat)
  case atStart => exact ⟨0, Nat.zero_le _, rfl, hmade, below1 _ _⟩
  case round =>
    obtain ⟨k, hk, rfl, hO, hb⟩ := hrel
    clear hmade
    by_cases hlt : k < l.length
    · obtain ⟨x, off, rfl, hblt, hcx⟩ := HCS.out k hlt
      have hcr : wr.cell? ⟨x, off + k, none⟩ = some (.string l[k]) := (hb.cell hblt).trans hcx
      have hsz := HZ.out k hlt
      have HTK : Hid (sumB (l.take (k + 1)) = sumB (l.take k) ++ putText l[k]) := sumB_take hlt
      have hl0 := HL.out k hk
      clear hcx
      generalize l[k] = y at *
      have HPT : Hid (Calls Tryd.prog 104 #[.string y] wr fun e w' => ∃ v, e = .returned v ∧ w'.ownsRow wr.heap.size 5 1 v (putText y).length ((putText y).map (Value.int .u8)) ∧ Below wr.heap.size wr w') := specPutText y wr (by omega)
      have hpl := putText_len y
      generalize putText y = py at *
      generalize sumB (l.take k) = p0 at *
      go_wp2_with fail
      refine HPT.out.mono ?_
      rintro e w1 ⟨v1, rfl, ho1, hb1⟩
      have hO1 := ownsRow_below hO hb1 (Nat.le_refl _)
      have HSR : Hid (Src Tryd.prog 1 22 v1 py.length (py.map (Value.int .u8)) w1) := src_own Tryd.underlying22 ho1 (fun u hu => by obtain ⟨_, _, rfl⟩ := List.mem_map.1 hu; rfl)
      have hb01 : Below w.heap.size w w1 := hb.trans (hb1.mono hb.size)
      clear hO hb1 ho1
      go_wp2_with (at_builtin; refine wpList_append_own_src _ rfl _ _ 22 22 rfl w.heap.size 5 i0 (.int .u8 0) 1 1 Tryd.underlying22 hi hz0 hz1 hz2 rfl _ _ _ rfl hO1 _ _ _ rfl HSR.out (by unfold maxLen; omega) (by omega) hb01.size ?_)
      intro v2 w2 ho2 hg2
      have hb2 : Below w.heap.size w w2 := hb01.grown hg2 hb01.size (fun j hj => (hO1.lt j hj).1)
      have ho3 : w2.ownsRow w.heap.size 5 1 v2 (sumB (l.take (k + 1))).length ((sumB (l.take (k + 1))).map (Value.int .u8)) := by
        rw [HTK.out, List.map_append, List.length_append]; exact ho2
      clear ho2 hg2 hO1 HSR hb01
      go_wp2
      go_roundw
      case rel => exact ⟨k + 1, by omega, by go_num, ho3, hb2⟩
      case measure => simp [intOf]; omega
    · obtain rfl : k = l.length := by omega
      rw [List.take_length] at hO
      have hl1 := HL.out l.length (Nat.le_refl _)
      rw [List.take_length] at hl1
      have hu := sumB_u8 l
      obtain ⟨q, qc, rfl, hrq⟩ := own_rd hO
      have HC : Hid (Calls Tryd.prog 105 #[.slice q (sumB l).length qc] wr fun e w' => e = .returned (.int .i64 ((sumOf l : Nat) : Int)) ∧ w' = wr) := by
        show Calls _ _ _ _ _
        rw [HS.out]
        exact specCrc q qc (sumB l) wr (by omega) hu hrq.2
      clear hrq hO hu HS
      go_wp2_with fail
      refine HC.out.mono ?_
      rintro e w1 ⟨rfl, hw1⟩
      subst w1
      go_wp2
      go_ret
      exact ⟨rfl, hb⟩
end Go.Proofs.YtlidmnehpcodkaaDoor

/-
  Own text: heads, as the other program writes them.
-/
namespace Go.Proofs.YtlidmnehpcodkaaDoor
open Go.RowKit

/-- Bytes that lie in a row, turned into a text. -/
theorem conv_ba {w : World} {b off cap : Nat} {l : List Int} (hu : U8 l) (hc : ∀ i, i < l.length → w.cell? ⟨b, off + i, none⟩ = some (.int .u8 (l.getD i 0))) :
    (convert 22 9 (.slice (some ⟨b, off, none⟩) l.length cap)).run Tryd.prog w = .ok (.string (baOf l)) w := by
  have h := run_convert_bytes_back (P := Tryd.prog) w 22 9 5 ⟨b, off, none⟩ cap (l.map fun x => UInt8.ofNat x.toNat) Tryd.underlying22 Tryd.underlying5 Tryd.underlying9 (by
    intro j hj
    rw [List.length_map] at hj
    rw [Go.WideShapes.add_plain, hc j hj]
    have := hu _ (List.getElem_mem hj)
    simp [List.getD, hj]
    omega)
  rw [List.length_map] at h
  exact h

set_option maxRecDepth 20000 in
set_option maxHeartbeats 1000000 in
theorem specFour (n : Nat) (w : World) (hn : n < 4294967296) :
    Calls Tryd.prog 119 #[.int .i64 (n : Int)] w fun e w' => e = .returned (.string (baOf (four n))) ∧ Below w.heap.size w w' := by
  have hu := four_u8 hn
  have hV : Var (w.alloc (.cells ((four n).map (Value.int .u8)).toArray 5)) w.heap.size ((four n).map (Value.int .u8)).toArray 5 := Var.made w _ _
  have hcv := conv_ba (w := w.alloc (.cells ((four n).map (Value.int .u8)).toArray 5)) (b := w.heap.size) (off := 0) (cap := 4) hu (fun i hi => by
    rw [Nat.zero_add, hV.cell i]
    simp [List.getD, hi])
  have hfl : (four n).length = 4 := rfl
  have HBF := hcv
  obtain ⟨Z, hZ⟩ : ∃ Z, baOf (four n) = Z := ⟨_, rfl⟩
  rw [hZ, hfl] at hcv
  have e : (four n).map (Value.int .u8) = [.int .u8 ((n : Int) / 16777216), .int .u8 ((n : Int) / 65536 % 256), .int .u8 ((n : Int) / 256 % 256), .int .u8 ((n : Int) % 256)] := by
    simp [four]
  rw [e] at hcv
  clear HBF hV hu hfl e
  rw [hZ]
  go_enter Tryd.func119, Tryd.ntmps119
  go_wp2
  go_ret
  exact ⟨rfl, below1 _ _⟩

theorem flatNum_take {ats : List Int} {k : Nat} (h : k < ats.length) : (ats.take (k + 1)).flatMap putNum = (ats.take k).flatMap putNum ++ putNum ats[k] := by
  rw [List.take_succ_eq_append_getElem h, List.flatMap_append]; simp only [List.flatMap_cons, List.flatMap_nil, List.append_nil]
theorem flatNum_le (ats : List Int) : (ats.flatMap putNum).length ≤ ats.length * 5 := by
  induction ats with
  | nil => simp
  | cons x l ih =>
    have := putNum_len x
    simp only [List.flatMap_cons, List.length_append, List.length_cons] at ih ⊢
    omega
theorem baOf_app (l m : List Int) : baOf l ++ baOf m = baOf (l ++ m) := by
  apply ByteArray.ext
  simp [baOf, ByteArray.data_append]
theorem baOf_size (l : List Int) : (baOf l).size = l.length := by simp [baOf, ByteArray.size]

set_option maxRecDepth 20000 in
set_option maxHeartbeats 1000000 in
theorem specHead (a : Option Addr) (cap : Nat) (ats : List Int) (sum : Nat) (w : World) (hl : ats.length ≤ 48) (hs : sum < 4294967296) (hr : Rd .i64 w a ats) :
    Calls Tryd.prog 99 #[.slice a ats.length cap, .int .i64 (sum : Int)] w fun e w' => e = .returned (.string (baOf (headB ats sum))) ∧ Below w.heap.size w w' := by
  obtain ⟨i0, hi, hz0, hz1, hz2⟩ := info_parts Tryd.infoU8
  have HCS : Hid (∀ k (hk : k < ats.length), ∃ x off, a = some ⟨x, off, none⟩ ∧ x < w.heap.size ∧ w.cell? ⟨x, off + k, none⟩ = some (.int .i64 ats[k])) := by
    intro k hk
    rcases hr with rfl | ⟨b, off, rfl, hlt, hc⟩
    · simp at hk
    · refine ⟨b, off, rfl, hlt, ?_⟩
      rw [hc k hk]
      simp [List.getD, hk]
  have HFO : Hid (∀ W, Calls Tryd.prog 119 #[.int .i64 (sum : Int)] W fun e w' => e = .returned (.string (baOf (four sum))) ∧ Below W.heap.size W w') := fun W => specFour sum W hs
  have HL : Hid (∀ k, ((ats.take k).flatMap putNum).length ≤ 240) := by
    intro k
    have := flatNum_le (ats.take k)
    simp only [List.length_take] at this
    have : ((ats.take k).flatMap putNum).length ≤ min k ats.length * 5 := this
    omega
  have HU : Hid (∀ k, U8 (74 :: putNum (ats.length : Int) ++ (ats.take k).flatMap putNum)) := by
    intro k x hx
    rcases List.mem_append.1 hx with hx | hx
    · rcases List.mem_cons.1 hx with rfl | hx
      · omega
      · exact putNum_u8 _ x hx
    · exact flatNum_u8 _ x hx
  have hpl := putNum_len (ats.length : Int)
  have HHB : Hid (baOf (74 :: putNum (ats.length : Int) ++ ats.flatMap putNum) ++ baOf (four sum) = baOf (headB ats sum)) := by show _ = _; rw [baOf_app]; rfl
  have HPN : Hid (∀ n W, Calls Tryd.prog 118 #[.int .i64 n] W fun e w' => ∃ v, e = .returned v ∧ w'.ownsRow W.heap.size 5 1 v (putNum n).length ((putNum n).map (Value.int .u8)) ∧ Below W.heap.size W w') := fun n W => specPutNum n W
  have hmade : (w.alloc (.cells #[.int .u8 74] 5)).ownsRow w.heap.size 5 1 (.slice (some ⟨w.heap.size, 0, none⟩) 1 1) 1 [.int .u8 74] := ⟨rfl, .inr ⟨w.heap.size, 1, #[.int .u8 74], rfl, Nat.le_refl _, heap_alloc_new w _, Nat.le_refl _, by unfold maxLen; omega, rfl, rfl⟩⟩
  have HM : Hid ((w.alloc (.cells #[.int .u8 74] 5)).ownsRow w.heap.size 5 1 (.slice (some ⟨w.heap.size, 0, none⟩) 1 1) 1 [.int .u8 74]) := hmade
  clear hr hmade
  go_enter Tryd.func99, Tryd.ntmps99
  go_wp2_with fail
  refine (HPN.out (ats.length : Int) _).mono ?_
  rintro e w1 ⟨v1, rfl, ho1, hb1⟩
  have hO1 := ownsRow_below HM.out hb1 (Nat.le_refl _)
  have HSR : Hid (Src Tryd.prog 1 22 v1 (putNum (ats.length : Int)).length ((putNum (ats.length : Int)).map (Value.int .u8)) w1) := src_own Tryd.underlying22 ho1 (fun u hu => by obtain ⟨_, _, rfl⟩ := List.mem_map.1 hu; rfl)
  have hb01 : Below w.heap.size w w1 := (below1 w _).trans (hb1.mono (by simp))
  clear HM hb1 ho1
  go_wp2_with (at_builtin; refine wpList_append_own_src _ rfl _ _ 22 22 rfl w.heap.size 5 i0 (.int .u8 0) 1 1 Tryd.underlying22 hi hz0 hz1 hz2 rfl _ _ _ rfl hO1 _ _ _ rfl HSR.out (by unfold maxLen; omega) (by omega) hb01.size ?_)
  intro v2 w2 ho2 hg2
  have hb2 : Below w.heap.size w w2 := hb01.grown hg2 hb01.size (fun j hj => (hO1.lt j hj).1)
  have HO3 : Hid (w2.ownsRow w.heap.size 5 1 v2 (74 :: putNum (ats.length : Int) ++ (ats.take 0).flatMap putNum).length ((74 :: putNum (ats.length : Int) ++ (ats.take 0).flatMap putNum).map (Value.int .u8))) := by
    show World.ownsRow _ _ _ _ _ _ _
    simp only [List.take_zero, List.flatMap_nil, List.append_nil, List.length_cons, List.map_cons]
    rw [Nat.add_comm]
    exact ho2
  have HB2 : Hid (Below w.heap.size w w2) := hb2
  clear ho2 hg2 hO1 HSR hb01 hb2
  generalize putNum (ats.length : Int) = pn at *
  go_wp2
  go_loopw [5, 6] (fun v i wr => ∃ k : Nat, k ≤ ats.length ∧ i = .int .i64 k ∧ Hid (wr.ownsRow w.heap.size 5 1 v (74 :: pn ++ (ats.take k).flatMap putNum).length ((74 :: pn ++ (ats.take k).flatMap putNum).map (Value.int .u8))) ∧ Hid (Below w.heap.size w wr)) (fun _ i _ => ats.length - (intOf i).toNat)
  case atStart => exact ⟨0, Nat.zero_le _, rfl, HO3, HB2⟩
  case round =>
    obtain ⟨k, hk, rfl, HO, HB⟩ := hrel
    clear HO3 HB2
    by_cases hlt : k < ats.length
    · obtain ⟨x, off, rfl, hblt, hcx⟩ := HCS.out k hlt
      have hcr : wr.cell? ⟨x, off + k, none⟩ = some (.int .i64 ats[k]) := (HB.out.cell hblt).trans hcx
      have HTK : Hid ((ats.take (k + 1)).flatMap putNum = (ats.take k).flatMap putNum ++ putNum ats[k]) := flatNum_take hlt
      have hl0 := HL.out k
      clear hcx
      generalize ats[k] = y at *
      have hpy := putNum_len y
      have HPT := HPN.out y wr
      have HPT2 : Hid (Calls Tryd.prog 118 #[.int .i64 y] wr fun e w' => ∃ v, e = .returned v ∧ w'.ownsRow wr.heap.size 5 1 v (putNum y).length ((putNum y).map (Value.int .u8)) ∧ Below wr.heap.size wr w') := HPT
      clear HPT
      generalize putNum y = py at *
      have HEQ : Hid (∀ (W : World) (v : Value), W.ownsRow w.heap.size 5 1 v ((74 :: pn ++ (ats.take k).flatMap putNum).length + py.length) ((74 :: pn ++ (ats.take k).flatMap putNum).map (Value.int .u8) ++ py.map (Value.int .u8)) → W.ownsRow w.heap.size 5 1 v (74 :: pn ++ (ats.take (k + 1)).flatMap putNum).length ((74 :: pn ++ (ats.take (k + 1)).flatMap putNum).map (Value.int .u8))) := by
        intro W v h
        rw [HTK.out, ← List.append_assoc, List.map_append, List.length_append]
        exact h
      have hlq : (74 :: pn ++ (ats.take k).flatMap putNum).length ≤ 246 := by simp only [List.length_append, List.length_cons]; omega
      generalize 74 :: pn ++ (ats.take k).flatMap putNum = q0 at *
      go_wp2_with fail
      refine HPT2.out.mono ?_
      rintro e w3 ⟨v3, rfl, ho3, hb3⟩
      have hO4 := ownsRow_below HO.out hb3 (Nat.le_refl _)
      have HSR : Hid (Src Tryd.prog 1 22 v3 py.length (py.map (Value.int .u8)) w3) := src_own Tryd.underlying22 ho3 (fun u hu => by obtain ⟨_, _, rfl⟩ := List.mem_map.1 hu; rfl)
      have hb03 : Below w.heap.size w w3 := HB.out.trans (hb3.mono HB.out.size)
      clear HO hb3 ho3
      go_wp2_with (at_builtin; refine wpList_append_own_src _ rfl _ _ 22 22 rfl w.heap.size 5 i0 (.int .u8 0) 1 1 Tryd.underlying22 hi hz0 hz1 hz2 rfl _ _ _ rfl hO4 _ _ _ rfl HSR.out (by unfold maxLen; omega) (by omega) hb03.size ?_)
      intro v4 w4 ho4 hg4
      have HB4 : Hid (Below w.heap.size w w4) := hb03.grown hg4 hb03.size (fun j hj => (hO4.lt j hj).1)
      have HO4 : Hid _ := HEQ.out w4 v4 ho4
      clear ho4 hg4 hO4 HSR hb03 HEQ HB
      go_wp2
      go_roundw
      case rel => exact ⟨k + 1, by omega, by go_num, HO4, HB4⟩
      case measure => simp [intOf]; omega
    · obtain rfl : k = ats.length := by omega
      have hO9 := HO.out
      rw [List.take_length] at hO9
      have hu9 := HU.out ats.length
      rw [List.take_length] at hu9
      have hl9 := HL.out ats.length
      rw [List.take_length] at hl9
      have hlq : (74 :: pn ++ ats.flatMap putNum).length ≤ 246 := by simp only [List.length_append, List.length_cons]; omega
      have hz4 : (baOf (four sum)).size = 4 := baOf_size _
      have hpos : 0 < (74 :: pn ++ ats.flatMap putNum).length := by simp
      have hzq := baOf_size (74 :: pn ++ ats.flatMap putNum)
      generalize 74 :: pn ++ ats.flatMap putNum = q9 at *
      obtain ⟨x, xc, rfl, _, hrd⟩ := own_rd hO9
      have HB9 : Hid (Below w.heap.size w wr) := HB.out
      rcases hrd with h0 | ⟨xb, xo, rfl, hlt9, hc9⟩
      · rw [h0] at hpos; simp at hpos
      have HCV : Hid (∀ W, Below wr.heap.size wr W → (convert 22 9 (.slice (some ⟨xb, xo, none⟩) q9.length xc)).run Tryd.prog W = .ok (.string (baOf q9)) W) :=
        fun W h => conv_ba hu9 (fun i hi => (h.cell hlt9).trans (hc9 i hi))
      have hcv0 := HCV.out wr.drew (Below.refl _ _).drew
      rw [hzq.symm] at hlq
      clear hO9 hu9 hl9 hc9 HO HL HU HCS hzq
      generalize hA : baOf q9 = A at *
      generalize baOf (four sum) = Bq at *
      have HFO2 : Hid (Calls Tryd.prog 119 #[.int .i64 (sum : Int)] wr.drew fun e w' => e = .returned (.string Bq) ∧ Below wr.heap.size wr w') := by
        refine (HFO.out wr.drew).mono ?_
        rintro e w' ⟨rfl, h⟩
        exact ⟨rfl, (Below.refl _ _).drew.trans h⟩
      clear HFO
      go_wp2
      go_region_with (go_at_call 119; refine HFO2.out.mono ?_; rintro e w8 ⟨rfl, hb8⟩; have hcv8 := HCV.out w8 hb8)
      all_goals
        go_wp2
        go_ret
        exact ⟨by rw [← HHB.out]; rfl, HB9.out.trans (hb8.mono HB9.out.size)⟩
end Go.Proofs.YtlidmnehpcodkaaDoor

/-
  Own text: the head of a list, as the other program writes it.
-/
namespace Go.Proofs.YtlidmnehpcodkaaDoor
open Go.RowKit

theorem Tryd.infoI : (Tryd.prog.info? 3).map (fun i => (i.zero, i.size, i.bytes)) = some (some (.int .i64 0), 1, 8) := by kernel_rfl
/-- One cell, made by itself, as a source. -/
theorem src_one {P : Program} {t e e' : TypeId} (ht : P.underlying t = some (.slice e')) (W : World) (u : Value) (h1 : u.oneCell' = true) : Src P 1 t (.slice (some ⟨W.heap.size, 0, none⟩) 1 1) 1 [u] (W.alloc (.cells #[u] e)) := by
  refine Src.ofSlice _ ht ⟨W.heap.size, 0, none⟩ 1 1 [u] rfl ?_ (fun x hx => by simp at hx; subst hx; exact h1)
  intro j x hj
  obtain ⟨hj1, rfl⟩ := List.getElem?_eq_some_iff.1 hj
  simp at hj1
  subst hj1
  rw [Go.WideShapes.add_plain]
  exact (Var.made W #[u] e).cell 0

set_option maxRecDepth 20000 in
set_option maxHeartbeats 1000000 in
theorem specHeadText (a : Option Addr) (cap : Nat) (l : List PutD) (w : World) (hl : l.length ≤ 4194304) (hr : RdF encP 2 w a l) :
    Calls Tryd.prog 59 #[.slice a l.length cap] w fun e w' => e = .returned (.string (headText l)) ∧ Below w.heap.size w w' := by
  obtain ⟨i0, hi, hz0, hz1, hz2⟩ := info_parts Tryd.infoI
  obtain ⟨i1, gi, gz0, gz1, gz2⟩ := info_parts Tryd.infoTxt
  have HTX : Hid (∀ Q, jtx 48 l = Q → Calls Tryd.prog 28 #[.int .i64 48, .slice a l.length cap] w fun e w' => e = .returned (.bool Q) ∧ Below w.heap.size w w') := by
    rintro Q rfl
    exact specTxOk a cap l 48 w hl hr
  have HCS : Hid (∀ k (hk : k < l.length), ∃ b off, a = some ⟨b, off, none⟩ ∧ b < w.heap.size ∧ w.cell? ⟨b, off + k * 2, none⟩ = some (.int .i64 l[k].1) ∧ w.cell? ⟨b, off + k * 2 + 1, none⟩ = some (.string l[k].2)) := by
    intro k hk
    obtain ⟨b, off, h1, h2, h3⟩ := hr.at k hk
    exact ⟨b, off, h1, h2, h3 0 (by omega), h3 1 (by omega)⟩
  clear hr
  cases hq : jtx 48 l with
  | false =>
    have HF : Hid (headText l = ⟨#[]⟩) := by show _ = _; unfold headText; rw [hq]; rfl
    have HT := HTX.out false hq
    have HT2 : Hid (Calls Tryd.prog 28 #[.int .i64 48, .slice a l.length cap] w fun e w' => e = .returned (.bool false) ∧ Below w.heap.size w w') := HT
    clear HT HTX hq
    go_enter Tryd.func59, Tryd.ntmps59
    go_wp2_with fail
    refine HT2.out.mono ?_
    rintro e w1 ⟨rfl, hb1⟩
    go_wp2
    go_ret
    exact ⟨by rw [HF.out]; rfl, hb1⟩
  | true =>
    have ht := jtx_iff.1 hq
    have hlen : l.length ≤ 48 := by have := ht.len; omega
    have HZ : Hid (∀ s ∈ l.map (·.2), s.size ≤ 90) := by
      intro s hs
      obtain ⟨p, hp, rfl⟩ := List.mem_map.1 hs
      exact (ht.at p hp).2.2
    have HF : Hid (headText l = baOf (headB (l.map (·.1)) (sumOf (l.map (·.2))))) := by show _ = _; unfold headText; rw [hq]; rfl
    have HT := HTX.out true hq
    have HT2 : Hid (Calls Tryd.prog 28 #[.int .i64 48, .slice a l.length cap] w fun e w' => e = .returned (.bool true) ∧ Below w.heap.size w w') := HT
    clear HT HTX hq ht
    go_enter Tryd.func59, Tryd.ntmps59
    go_wp2_with fail
    refine HT2.out.mono ?_
    rintro e w1 ⟨rfl, hb1⟩
    have hm1 : (w1.alloc (.cells #[] 3)).ownsRow w.heap.size 3 1 (.slice (some ⟨w1.heap.size, 0, none⟩) 0 0) 0 [] := World.ownsRow_made w1 #[] 0 hb1.size (Nat.zero_le _) rfl
    have hm2 : ((w1.alloc (.cells #[] 3)).alloc (.cells #[] 9)).ownsRow w.heap.size 9 1 (.slice (some ⟨w1.heap.size + 1, 0, none⟩) 0 0) 0 [] := by
      have := World.ownsRow_made (e := 9) (size := 1) (w1.alloc (.cells #[] 3)) #[] 0 (base := w.heap.size) (by have := hb1.size; simp; omega) (Nat.zero_le _) rfl
      rwa [show (w1.alloc (.cells #[] 3)).heap.size = w1.heap.size + 1 by simp] at this
    have HM1 : Hid (((w1.alloc (.cells #[] 3)).alloc (.cells #[] 9)).ownsRow w.heap.size 3 1 (.slice (some ⟨w1.heap.size, 0, none⟩) 0 0) 0 []) := hm1.alloc _
    have HM2 : Hid (((w1.alloc (.cells #[] 3)).alloc (.cells #[] 9)).ownsRow w.heap.size 9 1 (.slice (some ⟨w1.heap.size + 1, 0, none⟩) 0 0) 0 []) := hm2
    have HB1 : Hid (Below w.heap.size w ((w1.alloc (.cells #[] 3)).alloc (.cells #[] 9))) := (hb1.alloc hb1.size _).alloc (by have := hb1.size; simp; omega) _
    clear hm1 hm2 hb1
    go_wp2
    go_loopw [3, 4, 5] (fun v u i wr => ∃ k : Nat, k ≤ l.length ∧ i = .int .i64 k ∧ Hid (wr.ownsRow w.heap.size 3 1 v k ((l.take k).map fun p => Value.int .i64 p.1)) ∧ Hid (wr.ownsRow w.heap.size 9 1 u k ((l.take k).map fun p => Value.string p.2)) ∧ Hid (Below w.heap.size w wr)) (fun _ _ i _ => l.length - (intOf i).toNat)
    case atStart => exact ⟨0, Nat.zero_le _, rfl, HM1, HM2, HB1⟩
    case round =>
      obtain ⟨k, hk, rfl, HO, HP, HB⟩ := hrel
      clear HM1 HM2 HB1
      by_cases hlt : k < l.length
      · obtain ⟨x, off, rfl, hblt, hc0, hc1⟩ := HCS.out k hlt
        have hd0 : wr.cell? ⟨x, off + k * 2, none⟩ = some (.int .i64 l[k].1) := (HB.out.cell hblt).trans hc0
        have HD1 : Hid (∀ W, Below w.heap.size w W → W.cell? ⟨x, off + k * 2 + 1, none⟩ = some (.string l[k].2)) := fun W h => (h.cell hblt).trans hc1
        have HT1 : Hid ((l.take (k + 1)).map (fun p => Value.int .i64 p.1) = (l.take k).map (fun p => Value.int .i64 p.1) ++ [.int .i64 l[k].1]) := by show _ = _; rw [List.take_succ_eq_append_getElem hlt, List.map_append]; rfl
        have HT3 : Hid ((l.take (k + 1)).map (fun p => Value.string p.2) = (l.take k).map (fun p => Value.string p.2) ++ [.string l[k].2]) := by show _ = _; rw [List.take_succ_eq_append_getElem hlt, List.map_append]; rfl
        clear hc0 hc1
        generalize l[k].1 = y at *
        generalize l[k].2 = ys at *
        have HNX : Hid (∀ (W : World) (v u : Value), W.ownsRow w.heap.size 3 1 v (k + 1) ((l.take k).map (fun p => Value.int .i64 p.1) ++ [.int .i64 y]) → W.ownsRow w.heap.size 9 1 u (k + 1) ((l.take k).map (fun p => Value.string p.2) ++ [.string ys]) → W.ownsRow w.heap.size 3 1 v (k + 1) ((l.take (k + 1)).map fun p => Value.int .i64 p.1) ∧ W.ownsRow w.heap.size 9 1 u (k + 1) ((l.take (k + 1)).map fun p => Value.string p.2)) := by
          intro W v u h1 h2
          rw [HT1.out, HT3.out]
          exact ⟨h1, h2⟩
        clear HT1 HT3
        generalize (l.take k).map (fun p => Value.int .i64 p.1) = X1 at *
        generalize (l.take k).map (fun p => Value.string p.2) = X2 at *
        have ho1 := HO.out.alloc (.cells #[.int .i64 y] 3)
        have HS1 : Hid (Src Tryd.prog 1 49 (.slice (some ⟨wr.heap.size, 0, none⟩) 1 1) 1 [.int .i64 y] (wr.alloc (.cells #[.int .i64 y] 3))) := src_one Tryd.underlying49 wr (.int .i64 y) rfl
        have HP1 : Hid ((wr.alloc (.cells #[.int .i64 y] 3)).ownsRow w.heap.size 9 1 u4 k X2) := HP.out.alloc _
        have hb1 : Below w.heap.size w (wr.alloc (.cells #[.int .i64 y] 3)) := HB.out.alloc HB.out.size _
        clear HO HP HB
        go_wp2_with (at_builtin; refine wpList_append_own_src _ rfl (.tmp 17) (.tmp 23) 49 49 rfl w.heap.size 3 i0 (.int .i64 0) 1 8 Tryd.underlying49 hi hz0 hz1 hz2 rfl _ _ _ rfl ho1 _ 1 [.int .i64 y] rfl HS1.out (by unfold maxLen; omega) (by omega) hb1.size ?_)
        intro v5 w5 ho5 hg5
        have HP5 := own_only HP1.out (Only.of_grown hg5) (fun j hj h => own_apart HP1.out ho1 (by decide) j hj h)
        have hb5 : Below w.heap.size w w5 := hb1.grown hg5 hb1.size (fun j hj => (ho1.lt j hj).1)
        have hd1 := HD1.out w5 hb5
        have ho6 := HP5.alloc (.cells #[.string ys] 9)
        have HS6 : Hid (Src Tryd.prog 1 24 (.slice (some ⟨w5.heap.size, 0, none⟩) 1 1) 1 [.string ys] (w5.alloc (.cells #[.string ys] 9))) := src_one Tryd.underlying24 w5 (.string ys) rfl
        have HO6 : Hid ((w5.alloc (.cells #[.string ys] 9)).ownsRow w.heap.size 3 1 v5 (k + 1) (X1 ++ [.int .i64 y])) := ho5.alloc _
        have hb6 : Below w.heap.size w (w5.alloc (.cells #[.string ys] 9)) := hb5.alloc hb5.size _
        clear ho5 hg5 HP5 hb5 ho1 HS1 HP1 hb1 HD1
        go_wp2_with (at_builtin; refine wpList_append_own_src _ rfl (.tmp 25) (.tmp 31) 24 24 rfl w.heap.size 9 i1 (.string ⟨#[]⟩) 1 16 Tryd.underlying24 gi gz0 gz1 gz2 rfl _ _ _ rfl ho6 _ 1 [.string ys] rfl HS6.out (by unfold maxLen; omega) (by omega) hb6.size ?_)
        intro v7 w7 ho7 hg7
        have HO7 := own_only HO6.out (Only.of_grown hg7) (fun j hj h => own_apart HO6.out ho6 (by decide) j hj h)
        have HB7 : Hid (Below w.heap.size w w7) := hb6.grown hg7 hb6.size (fun j hj => (ho6.lt j hj).1)
        obtain ⟨h8, h9⟩ := HNX.out w7 v5 v7 HO7 ho7
        have H8 : Hid _ := h8
        have H9 : Hid _ := h9
        clear ho7 hg7 HO7 ho6 HS6 HO6 hb6 h8 h9 HNX
        go_wp2
        go_roundw
        case rel => exact ⟨k + 1, by omega, by go_num, H8, H9, HB7⟩
        case measure => simp [intOf]; omega
      · obtain rfl : k = l.length := by omega
        have hO9 := HO.out
        have hP9 := HP.out
        rw [List.take_length] at hO9 hP9
        have e1 : (l.map fun p => Value.int .i64 p.1) = (l.map (·.1)).map (Value.int .i64) := by simp
        have e2 : (l.map fun p => Value.string p.2) = (l.map (·.2)).map Value.string := by simp
        have hn1 : (l.map (·.1)).length = l.length := by simp
        have hn2 : (l.map (·.2)).length = l.length := by simp
        rw [e1] at hO9
        rw [e2] at hP9
        have hs32 := sumOf_lt (l.map (·.2))
        generalize hA : l.map (·.1) = A at *
        generalize hS : l.map (·.2) = T at *
        obtain ⟨xa, xc, rfl, hq1, hra⟩ := own_rd hO9
        obtain ⟨ya, yc, rfl, hq2, hrs⟩ := own_rdS hP9
        have HSM : Hid (Calls Tryd.prog 65 #[.slice ya T.length yc] wr fun e w' => e = .returned (.int .i64 ((sumOf T : Nat) : Int)) ∧ Below wr.heap.size wr w') := specSum ya yc T wr (by omega) HZ.out hrs
        have HHD : Hid (∀ W, Below wr.heap.size wr W → Calls Tryd.prog 99 #[.slice xa A.length xc, .int .i64 ((sumOf T : Nat) : Int)] W fun e w' => e = .returned (.string (baOf (headB A (sumOf T)))) ∧ Below W.heap.size W w') :=
          fun W h => specHead xa xc A (sumOf T) W (by omega) hs32 (hra.below h (Nat.le_refl _))
        have HB9 : Hid (Below w.heap.size w wr) := HB.out
        clear hO9 hP9 hra hrs e1 e2 hA hS HO HP HB hs32 HZ hq1 hq2 hn1 hn2
        generalize sumOf T = sm at *
        go_wp2_with fail
        refine HSM.out.mono ?_
        rintro e w8 ⟨rfl, hb8⟩
        go_wp2_with fail
        refine (HHD.out w8 hb8).mono ?_
        rintro e w9 ⟨rfl, hb9⟩
        go_wp2
        go_ret
        exact ⟨by rw [HF.out]; rfl, (HB9.out.trans (hb8.mono HB9.out.size)).trans (hb9.mono (Nat.le_trans HB9.out.size hb8.size))⟩
end Go.Proofs.YtlidmnehpcodkaaDoor
