/-
  Own text: which branches are right, as the program tells it.
-/
import Derived.Test.YtioecnfgliponaaIBitW
namespace Go.Proofs.Ytioecnfgliponaa
open Go.RowKit

def cntOk (F : FsD) : Bool := decide (2 ≤ F.ns.length) && decide (F.ns.length ≤ 10) && decide (1 ≤ F.ds.length) && decide (F.ds.length ≤ 36)
theorem cntOk_iff {F : FsD} : cntOk F = true ↔ CountP F := by
  unfold cntOk CountP
  simp [and_assoc]

set_option maxRecDepth 20000 in
set_option maxHeartbeats 1000000 in
theorem countsW (P : Nat) (a b : Option Addr) (ca cb : Nat) (F : FsD) (w : World) (h0 : w.cell? ⟨P, 0, none⟩ = some (.slice a F.ns.length ca)) (h1 : w.cell? ⟨P, 1, none⟩ = some (.slice b F.ds.length cb)) :
    Calls Try.prog 65 #[.pointer (some ⟨P, 0, none⟩)] w fun e w' => e = .returned (.bool (cntOk F)) ∧ w' = w := by
  have HZ : Hid (cntOk F = (decide (2 ≤ F.ns.length) && decide (F.ns.length ≤ 10) && decide (1 ≤ F.ds.length) && decide (F.ds.length ≤ 36))) := rfl
  generalize F.ns.length = n at *
  generalize F.ds.length = m at *
  by_cases c1 : 2 ≤ n
  · by_cases c2 : n ≤ 10
    · by_cases c3 : 1 ≤ m
      · by_cases c4 : m ≤ 36
        · have HF : Hid (cntOk F = true) := by show _ = _; rw [HZ.out]; simp [c1, c2, c3, c4]
          have d4 : decide ((m : Int) ≤ 36) = true := decide_eq_true (by omega)
          clear HZ
          go_enter Try.func65, Try.ntmps65
          go_wp2
          go_ret
          exact ⟨by rw [HF.out]; rfl, rfl⟩
        · have d4 : decide ((m : Int) ≤ 36) = false := decide_eq_false (by omega)
          have HF : Hid (cntOk F = false) := by show _ = _; rw [HZ.out]; simp [c1, c2, c3, c4]
          clear HZ
          go_enter Try.func65, Try.ntmps65
          go_wp2
          go_ret
          exact ⟨by rw [HF.out]; rfl, rfl⟩
      · have HF : Hid (cntOk F = false) := by show _ = _; rw [HZ.out]; simp [c1, c2, c3]
        clear HZ
        go_enter Try.func65, Try.ntmps65
        go_wp2
        go_ret
        exact ⟨by rw [HF.out]; rfl, rfl⟩
    · have HF : Hid (cntOk F = false) := by show _ = _; rw [HZ.out]; simp [c1, c2]
      clear HZ
      go_enter Try.func65, Try.ntmps65
      go_wp2
      go_ret
      exact ⟨by rw [HF.out]; rfl, rfl⟩
  · have HF : Hid (cntOk F = false) := by show _ = _; rw [HZ.out]; simp [c1]
    clear HZ
    go_enter Try.func65, Try.ntmps65
    go_wp2
    go_ret
    exact ⟨by rw [HF.out]; rfl, rfl⟩

noncomputable def holdOk (ds : List ByteArray) (n : NodeD) : Bool := @decide (HoldP ds n) (Classical.propDecidable _)
theorem holdOk_yes {ds : List ByteArray} {n : NodeD} (h : HoldP ds n) : holdOk ds n = true := by unfold holdOk; exact @decide_eq_true _ (Classical.propDecidable _) h
theorem holdOk_no {ds : List ByteArray} {n : NodeD} (h : ¬ HoldP ds n) : holdOk ds n = false := by unfold holdOk; exact @decide_eq_false _ (Classical.propDecidable _) h
theorem holdOk_iff {ds : List ByteArray} {n : NodeD} : holdOk ds n = true ↔ HoldP ds n := ⟨fun h => Classical.byContradiction fun h' => absurd ((holdOk_no h').symm.trans h) (by decide), holdOk_yes⟩

set_option maxRecDepth 20000 in
set_option maxHeartbeats 1000000 in
theorem holdsW (P : Nat) (b : Option Addr) (cb : Nat) (ds : List ByteArray) (n : NodeD) (u : Value) (w : World) (hP : P < w.heap.size) (hn : NodP n) (_ : ds.length ≤ 36) (hds : ∀ s ∈ ds, s.size ≤ 1048576) (hp1 : w.cell? ⟨P, 1, none⟩ = some (.slice b ds.length cb)) (hr : RdU w u n.b) (hs : RdS w b ds) :
    Calls Try.prog 68 #[.pointer (some ⟨P, 0, none⟩), .agg #[.int .i64 n.k, .int .i64 n.g, .int .i64 n.t, .int .i64 n.s, u]] w fun e w' => e = .returned (.bool (holdOk ds n)) ∧ Below w.heap.size w w' := by
  obtain ⟨a, c, rfl, _, _, hr⟩ := hr
  have hbel : Below w.heap.size w (w.alloc (.cells #[.int .i64 n.k, .int .i64 n.g, .int .i64 n.t, .int .i64 n.s, .slice a n.b.length c] 57)) := below1 _ _
  have hX : Var (w.alloc (.cells #[.int .i64 n.k, .int .i64 n.g, .int .i64 n.t, .int .i64 n.s, .slice a n.b.length c] 57)) w.heap.size #[.int .i64 n.k, .int .i64 n.g, .int .i64 n.t, .int .i64 n.s, .slice a n.b.length c] 57 := Var.made _ _ _
  have hq1 := (hbel.cell (p := ⟨P, 1, none⟩) hP).trans hp1
  have HSZ : Hid (0 ≤ n.s ∧ n.s ≤ 80 ∧ n.b.length ≤ 5) := ⟨hn.size.1, hn.size.2.1, hn.len⟩
  have HLP : Hid (∀ k, k < n.b.length → longB n.s k ≤ 16) := fun k hk => (long_pos hn hk).2
  have HBK : Hid (∀ k (hk : k < n.b.length), 0 ≤ n.b[k] ∧ n.b[k] ≤ 35) := fun k hk => hn.blk _ (List.getElem_mem hk)
  have HCS : Hid (∀ k (hk : k < n.b.length), ∃ g off, a = some ⟨g, off, none⟩ ∧ (w.alloc (.cells #[.int .i64 n.k, .int .i64 n.g, .int .i64 n.t, .int .i64 n.s, .slice a n.b.length c] 57)).cell? ⟨g, off + k, none⟩ = some (.int .i64 n.b[k])) := by
    intro k hk
    obtain ⟨g, off, rfl, h1, hc⟩ := hr.cellI k hk
    exact ⟨g, off, rfl, (hbel.cell (p := ⟨g, off + k, none⟩) h1).trans hc⟩
  have HDS : Hid (∀ m (hm : m < ds.length), ∃ g off, b = some ⟨g, off, none⟩ ∧ (w.alloc (.cells #[.int .i64 n.k, .int .i64 n.g, .int .i64 n.t, .int .i64 n.s, .slice a n.b.length c] 57)).cell? ⟨g, off + m, none⟩ = some (.string ds[m])) := by
    intro m hm
    obtain ⟨g, off, rfl, h1, hc⟩ := hs.cellT m hm
    exact ⟨g, off, rfl, (hbel.cell (p := ⟨g, off + m, none⟩) h1).trans hc⟩
  have HDZ : Hid (∀ m (hm : m < ds.length), ds[m].size ≤ 1048576) := fun m hm => hds _ (List.getElem_mem hm)
  have x3 := hX.cell 3
  have x4 := hX.cell 4
  simp at x3 x4
  clear hr hs hX hp1 hds hn
  have hnl := HSZ.out.2.2
  have hs0 := HSZ.out.1
  have hs1 := HSZ.out.2.1
  go_enter Try.func68, Try.ntmps68
  go_wp2
  generalize w.alloc (.cells #[.int .i64 n.k, .int .i64 n.g, .int .i64 n.t, .int .i64 n.s, .slice a n.b.length c] 57) = W at *
  go_loopw [5, 7, 13] (fun l _ i wr => ∃ k : Nat, k ≤ n.b.length ∧ l = .int .i64 (n.s - 16 * (k : Int)) ∧ i = .int .i64 k ∧ Hid (HoldTo ds n.s n.b k) ∧ wr = W) (fun _ _ i _ => n.b.length - (intOf i).toNat)
  case atStart => exact ⟨0, Nat.zero_le _, by simp, rfl, fun j x h => by omega, rfl⟩
  case round =>
    obtain ⟨k, hk, rfl, rfl, HN, hwr⟩ := hrel
    subst wr
    by_cases hlt : k < n.b.length
    · obtain ⟨g, off, rfl, hc⟩ := HCS.out k hlt
      obtain ⟨y0, y35⟩ := HBK.out k hlt
      obtain ⟨m, hm⟩ := Int.eq_ofNat_of_zero_le y0
      have HX : Hid (n.b[k]? = some (m : Int)) := by show _ = _; rw [List.getElem?_eq_getElem hlt, hm]
      have HLG : Hid (longB n.s k = if n.s - 16 * (k : Int) ≤ 16 then n.s - 16 * (k : Int) else 16) := rfl
      rw [hm] at hc
      have hmle : m ≤ 35 := by omega
      clear y0 y35 hm
      have j0 : (0 : Int) ≤ (m : Int) := by omega
      by_cases hin : m < ds.length
      · obtain ⟨g2, off2, rfl, hc2⟩ := HDS.out m hin
        have hdz := HDZ.out m hin
        have HD : Hid (ds[m]? = some ds[m]) := List.getElem?_eq_getElem hin
        generalize ds[m] = d at *
        have j1 : (m : Int) < (ds.length : Int) := by omega
        have j2 : ¬ (ds.length : Int) ≤ (m : Int) := by omega
        by_cases hq : (d.size : Int) = longB n.s k
        · have HN2 : Hid (HoldTo ds n.s n.b (k + 1)) := by
            intro j x hj hx
            by_cases e : j = k
            · subst e
              rw [HX.out] at hx
              injection hx with hx
              subst hx
              exact ⟨by omega, d, by rw [Int.toNat_natCast]; exact HD.out, hq⟩
            · exact HN.out j x (by omega) hx
          by_cases hl : n.s - 16 * (k : Int) ≤ 16
          · have hmin : min (n.s - 16 * (k : Int)) 16 = (d.size : Int) := by rw [hq, HLG.out, if_pos hl]; omega
            clear hq HN HX HD HLG hdz
            go_wp2
            go_roundw
            case rel => exact ⟨k + 1, by omega, by go_num, by go_num, HN2, trivial⟩
            case measure => simp [intOf]; omega
          · have hmin : min (n.s - 16 * (k : Int)) 16 = (d.size : Int) := by rw [hq, HLG.out, if_neg hl]; omega
            clear hq HN HX HD HLG hdz
            go_wp2
            go_roundw
            case rel => exact ⟨k + 1, by omega, by go_num, by go_num, HN2, trivial⟩
            case measure => simp [intOf]; omega
        · have HF : Hid (holdOk ds n = false) := holdOk_no fun h => by
            obtain ⟨_, d', hd', hs'⟩ := h k _ hlt HX.out
            rw [Int.toNat_natCast, HD.out] at hd'
            injection hd' with hd'
            exact hq (by rw [hd']; exact hs')
          have hmin : ¬ (d.size : Int) = min (n.s - 16 * (k : Int)) 16 := by
            intro h
            apply hq
            rw [HLG.out, h]
            split <;> omega
          have hmin2 : ((d.size : Int) == min (n.s - 16 * (k : Int)) 16) = false := by simpa using hmin
          clear hq HN HX HD HLG
          go_wp2
          all_goals
            go_ret
            exact ⟨by rw [HF.out]; rfl, hbel⟩
      · have HF : Hid (holdOk ds n = false) := holdOk_no fun h => by
          obtain ⟨_, d', hd', _⟩ := h k _ hlt HX.out
          rw [Int.toNat_natCast] at hd'
          exact hin (List.getElem?_eq_some_iff.1 hd').1
        have j2 : (ds.length : Int) ≤ (m : Int) := by omega
        clear HN HX HLG hin
        go_wp2
        go_ret
        exact ⟨by rw [HF.out]; rfl, hbel⟩
    · obtain rfl : k = n.b.length := by omega
      have HT : Hid (holdOk ds n = true) := holdOk_yes HN.out
      go_wp2
      go_ret
      exact ⟨by rw [HT.out]; rfl, hbel⟩

set_option maxRecDepth 20000 in
theorem tenV (L : List Int) : bitV L = #[.int .u8 (byteAt L 0 : Int), .int .u8 (byteAt L 1 : Int), .int .u8 (byteAt L 2 : Int), .int .u8 (byteAt L 3 : Int), .int .u8 (byteAt L 4 : Int)] := rfl
theorem bitV_nil : bitV [] = #[.int .u8 0, .int .u8 0, .int .u8 0, .int .u8 0, .int .u8 0] := by rw [tenV]; rfl
theorem Try.sizeBits : (Try.prog.info? 88).map (·.size) = some 5 := by kernel_rfl

set_option maxRecDepth 20000 in
set_option maxHeartbeats 1000000 in
theorem filledW (P : Nat) (b : Option Addr) (cb : Nat) (ds : List ByteArray) (w : World) (hP : P < w.heap.size) (hdl : ds.length ≤ 36) (hp1 : w.cell? ⟨P, 1, none⟩ = some (.slice b ds.length cb)) (hs : RdS w b ds) :
    Calls Try.prog 69 #[.pointer (some ⟨P, 0, none⟩)] w fun e w' => e = .returned (.agg (bitV (fillL ds ds.length))) ∧ Below w.heap.size w w' := by
  have hbel : Below w.heap.size w ((w.alloc (.cells #[.int .u8 0, .int .u8 0, .int .u8 0, .int .u8 0, .int .u8 0] 88)).alloc (.cells #[.int .u8 0, .int .u8 0, .int .u8 0, .int .u8 0, .int .u8 0] 88)) := below2 _ _ _
  have hR : Var ((w.alloc (.cells #[.int .u8 0, .int .u8 0, .int .u8 0, .int .u8 0, .int .u8 0] 88)).alloc (.cells #[.int .u8 0, .int .u8 0, .int .u8 0, .int .u8 0, .int .u8 0] 88)) w.heap.size #[.int .u8 0, .int .u8 0, .int .u8 0, .int .u8 0, .int .u8 0] 88 := (Var.made _ _ _).alloc _
  have hB : Var ((w.alloc (.cells #[.int .u8 0, .int .u8 0, .int .u8 0, .int .u8 0, .int .u8 0] 88)).alloc (.cells #[.int .u8 0, .int .u8 0, .int .u8 0, .int .u8 0, .int .u8 0] 88)) (w.heap.size + 1) (bitV []) 88 := by rw [bitV_nil]; exact Var.made2 _ _ _ _
  have hq1 := (hbel.cell (p := ⟨P, 1, none⟩) hP).trans hp1
  have HDS : Hid (∀ m (hm : m < ds.length), ∃ g off, b = some ⟨g, off, none⟩ ∧ g < w.heap.size ∧ w.cell? ⟨g, off + m, none⟩ = some (.string ds[m])) := fun m hm => hs.cellT m hm
  clear hs hp1
  go_enter Try.func69, Try.ntmps69
  go_wp2
  generalize (w.alloc (.cells #[.int .u8 0, .int .u8 0, .int .u8 0, .int .u8 0, .int .u8 0] 88)).alloc (.cells #[.int .u8 0, .int .u8 0, .int .u8 0, .int .u8 0, .int .u8 0] 88) = W at *
  go_loopw [4, 5, 11] (fun _ _ i wr => ∃ k : Nat, k ≤ ds.length ∧ i = .int .i64 k ∧ Hid (Var wr (w.heap.size + 1) (bitV (fillL ds k)) 88) ∧ Hid (Var wr w.heap.size #[.int .u8 0, .int .u8 0, .int .u8 0, .int .u8 0, .int .u8 0] 88) ∧ Below w.heap.size w wr) (fun _ _ i _ => ds.length - (intOf i).toNat)
  case atStart => exact ⟨0, Nat.zero_le _, rfl, hB, hR, hbel⟩
  case round =>
    clear hR hB hbel hq1
    obtain ⟨k, hk, rfl, HB, HR, hbel⟩ := hrel
    by_cases hlt : k < ds.length
    · obtain ⟨g, off, rfl, hg, hc⟩ := HDS.out k hlt
      have hcr : wr.cell? ⟨g, off + k, none⟩ = some (.string ds[k]) := (hbel.cell (p := ⟨g, off + k, none⟩) hg).trans hc
      have HFL : Hid (fillL ds (k + 1) = fillL ds k ++ (if ds[k].size = 0 then [] else [(k : Int)])) := by
        show _ = _
        rw [fillL, List.getElem?_eq_getElem hlt]
        rfl
      have HNI : Hid ((k : Int) ∉ fillL ds k) := fun h => by
        obtain ⟨j, h1, h2, _⟩ := (fillL_mem _ _ _).1 h
        omega
      clear hc
      generalize ds[k] = d at *
      by_cases h0 : d.size = 0
      · obtain rfl : d = ⟨#[]⟩ := by
          obtain ⟨⟨l⟩⟩ := d
          congr 1
          congr 1
          exact List.eq_nil_of_length_eq_zero h0
        have HB2 : Hid (Var wr (w.heap.size + 1) (bitV (fillL ds (k + 1))) 88) := by show Var _ _ _ _; rw [HFL.out, if_pos (show (⟨#[]⟩ : ByteArray).size = 0 from rfl), List.append_nil]; exact HB.out
        clear HB HFL HNI
        go_wp2
        go_roundw
        case rel => exact ⟨k + 1, by omega, by go_num, HB2, HR, hbel⟩
        case measure => simp [intOf]; omega
      · have hne : (d.toList == []) = false := by
          obtain ⟨⟨l⟩⟩ := d
          cases l with
          | nil => exact absurd rfl h0
          | cons x l => simp [ByteArray.toList_eq]
        have HSB : Hid (Calls Try.prog 81 #[.pointer (some ⟨w.heap.size + 1, 0, none⟩), .int .i64 (k : Nat)] wr fun e w' => e = .returned (.tuple #[]) ∧ Var w' (w.heap.size + 1) (bitV (fillL ds k ++ [(k : Int)])) 88 ∧ Only (fun j => j = w.heap.size + 1) wr w') := bitSet _ k _ wr (by omega) HNI.out HB.out
        have HFL2 : Hid (fillL ds k ++ [(k : Int)] = fillL ds (k + 1)) := by show _ = _; rw [HFL.out, if_neg h0]
        clear HFL HNI HB h0
        go_wp2_with fail
        refine HSB.out.mono ?_
        rintro e w1 ⟨rfl, hV1, hO1⟩
        have HB2 : Hid (Var w1 (w.heap.size + 1) (bitV (fillL ds (k + 1))) 88) := by show Var _ _ _ _; rw [← HFL2.out]; exact hV1
        have HR2 : Hid (Var w1 w.heap.size #[.int .u8 0, .int .u8 0, .int .u8 0, .int .u8 0, .int .u8 0] 88) := HR.out.only hO1 (by omega)
        have hbel2 : Below w.heap.size w w1 := hbel.trans (hO1.below hbel.size (fun j e => by omega))
        clear hV1 hO1 HR hbel
        go_wp2
        go_roundw
        case rel => exact ⟨k + 1, by omega, by go_num, HB2, HR2, hbel2⟩
        case measure => simp [intOf]; omega
    · obtain rfl : k = ds.length := by omega
      have hB := HB.out
      rw [tenV] at hB
      have HTV : Hid (bitV (fillL ds ds.length) = #[.int .u8 (byteAt (fillL ds ds.length) 0 : Int), .int .u8 (byteAt (fillL ds ds.length) 1 : Int), .int .u8 (byteAt (fillL ds ds.length) 2 : Int), .int .u8 (byteAt (fillL ds ds.length) 3 : Int), .int .u8 (byteAt (fillL ds ds.length) 4 : Int)]) := tenV _
      have x0 := hB.cell 0
      have x1 := hB.cell 1
      have x2 := hB.cell 2
      have x3 := hB.cell 3
      have x4 := hB.cell 4
      simp at x0 x1 x2 x3 x4
      generalize (byteAt (fillL ds ds.length) 0 : Int) = b0 at *
      generalize (byteAt (fillL ds ds.length) 1 : Int) = b1 at *
      generalize (byteAt (fillL ds ds.length) 2 : Int) = b2 at *
      generalize (byteAt (fillL ds ds.length) 3 : Int) = b3 at *
      generalize (byteAt (fillL ds ds.length) 4 : Int) = b4 at *
      obtain ⟨hR9, r0, r1, r2, r3, r4, q0, q1, q2, q3, q4⟩ := HR.out.five (.int .u8 b0) (.int .u8 b1) (.int .u8 b2) (.int .u8 b3) (.int .u8 b4)
      have HR9 : Hid (Var (five wr w.heap.size (.int .u8 b0) (.int .u8 b1) (.int .u8 b2) (.int .u8 b3) (.int .u8 b4)) w.heap.size #[.int .u8 b0, .int .u8 b1, .int .u8 b2, .int .u8 b3, .int .u8 b4] 88) := hR9
      have HB9 : Hid (Below w.heap.size w (five wr w.heap.size (.int .u8 b0) (.int .u8 b1) (.int .u8 b2) (.int .u8 b3) (.int .u8 b4))) := below_five hbel (Nat.le_refl _) _ _ _ _ _
      clear hR9 hB HB HR
      go_wp2
      refine bodyPost_ret (results_cell_row rfl _ _ w.heap.size 88 #[.int .u8 b0, .int .u8 b1, .int .u8 b2, .int .u8 b3, .int .u8 b4] (0, 0) _ rfl HR9.out Try.underlying88 rfl Try.sizeBits) rfl ?_
      exact ⟨by rw [HTV.out], HB9.out⟩
end Go.Proofs.Ytioecnfgliponaa
