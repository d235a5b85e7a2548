/-
  Own texts, several together.
-/
import Derived.Test.YthfgfhbinggpfaaDoorBunZC
import Derived.Test.YthfgfhbinggpfaaDoorBunZE
import Derived.Deep.RegionHeld3
/-
  Own text: the bits of blocks, as the program keeps them.
-/
namespace Go.Proofs.YthfgfhbinggpfaaDoor
open Go.RowKit

def bitV (L : List Int) : Array Value := ((bitsB L 5).map (Value.int .u8)).toArray
theorem bitV_at (L : List Int) {q : Nat} (h : q < 5) : (bitV L)[q]? = some (.int .u8 (byteAt L q : Int)) := by
  unfold bitV
  simp [bitsB, h]
theorem bitV_set (L : List Int) {k : Nat} (hk : k < 40) (h : (k : Int) ∉ L) : (bitV L).setIfInBounds (k / 8) (.int .u8 ((byteAt L (k / 8) + 2 ^ (k % 8) : Nat) : Int)) = bitV (L ++ [(k : Int)]) := by
  unfold bitV
  rw [← bitsB_add L (m := 5) (k := k) (by omega) h, List.map_set]
  simp
theorem tdiv8 (k : Nat) : (k : Int).tdiv 8 = ((k / 8 : Nat) : Int) := by rw [Int.tdiv_eq_ediv_of_nonneg (by omega)]; omega
theorem tmod8 (k : Nat) : (k : Int).tmod 8 = ((k % 8 : Nat) : Int) := by rw [Int.tmod_eq_emod_of_nonneg (by omega)]; omega
theorem and_one : ∀ a : Fin 256, bits .and .u8 (a.val : Int) 1 = ((a.val % 2 : Nat) : Int) := by decide +kernel
theorem or_bit : ∀ a : Fin 256, ∀ r : Fin 8, a.val / 2 ^ r.val % 2 = 0 → bits .or .u8 (a.val : Int) ((2 ^ r.val : Nat) : Int) = ((a.val + 2 ^ r.val : Nat) : Int) := by decide +kernel

set_option maxRecDepth 20000 in
theorem bitHas (P k : Nat) (L : List Int) (w : World) (hk : k < 40) (hV : Var w P (bitV L) 77) :
    Calls Tryd.prog 74 #[.pointer (some ⟨P, 0, none⟩), .int .i64 (k : Nat)] w fun e w' => e = .returned (.bool (decide ((k : Int) ∈ L))) ∧ w' = w := by
  have h1 := tdiv8 k
  have h2 := tmod8 k
  have hc : w.cell? ⟨P, k / 8, none⟩ = some (.int .u8 (byteAt L (k / 8) : Int)) := (hV.cell (k / 8)).trans (bitV_at L (by omega))
  have hb := byteAt_lt L (k / 8)
  have HQ : Hid ((bits .and .u8 ((byteAt L (k / 8) : Int) / 2 ^ (k % 8)) 1 == 1) = decide ((k : Int) ∈ L)) := by
    have hlt : byteAt L (k / 8) / 2 ^ (k % 8) < 256 := Nat.lt_of_le_of_lt (Nat.div_le_self _ _) hb
    have h3 := and_one ⟨_, hlt⟩
    have h4 : ((byteAt L (k / 8) / 2 ^ (k % 8) : Nat) : Int) = (byteAt L (k / 8) : Int) / 2 ^ (k % 8) := by simp
    show _ = _
    rw [← h4, h3, byteAt_bit L _ _ (by omega), show 8 * (k / 8) + k % 8 = k by omega]
    unfold memB
    split <;> simp_all
  clear hV
  go_enter Tryd.func74, Tryd.ntmps74
  go_wp2
  go_ret
  exact ⟨by rw [← HQ.out]; rfl, rfl⟩

set_option maxRecDepth 20000 in
theorem bitSet (P k : Nat) (L : List Int) (w : World) (hk : k < 40) (hn : (k : Int) ∉ L) (hV : Var w P (bitV L) 77) :
    Calls Tryd.prog 75 #[.pointer (some ⟨P, 0, none⟩), .int .i64 (k : Nat)] w fun e w' => e = .returned (.tuple #[]) ∧ Var w' P (bitV (L ++ [(k : Int)])) 77 ∧ Only (fun j => j = P) w w' := by
  have h1 := tdiv8 k
  have h2 := tmod8 k
  have hc : w.cell? ⟨P, k / 8, none⟩ = some (.int .u8 (byteAt L (k / 8) : Int)) := (hV.cell (k / 8)).trans (bitV_at L (by omega))
  have hb := byteAt_lt L (k / 8)
  have hf := hV.frozen (k / 8)
  have hp8 : (2 : Int) ^ (k % 8) % 256 = ((2 ^ (k % 8) : Nat) : Int) := by
    have : ∀ r : Fin 8, (2 : Int) ^ r.val % 256 = ((2 ^ r.val : Nat) : Int) := by decide +kernel
    exact this ⟨k % 8, by omega⟩
  have hor : bits .or .u8 (byteAt L (k / 8) : Int) (2 ^ (k % 8) % 256) = ((byteAt L (k / 8) + 2 ^ (k % 8) : Nat) : Int) := by
    rw [hp8]
    have h3 := or_bit ⟨_, hb⟩ ⟨k % 8, by omega⟩ (by show byteAt L (k / 8) / 2 ^ (k % 8) % 2 = 0; rw [byteAt_bit L _ _ (by omega), show 8 * (k / 8) + k % 8 = k by omega]; exact memB_no.2 hn)
    exact h3
  clear hp8
  have HV : Hid (Var w P (bitV L) 77) := hV
  clear hV
  go_enter Tryd.func75, Tryd.ntmps75
  go_region
  go_end0
  have h3 := HV.out.set (k / 8) (.int .u8 ((byteAt L (k / 8) + 2 ^ (k % 8) : Nat) : Int))
  rw [bitV_set L hk hn] at h3
  simp only [Int.natCast_add, Int.natCast_pow, Int.cast_ofNat_Int] at h3
  exact ⟨rfl, h3, (Only.setCell (S := fun j => j = P) (Only.refl _ _) (p := ⟨P, k / 8, none⟩) rfl _).trans ⟨rfl, rfl, rfl, Nat.le_refl _, fun _ _ _ => rfl⟩⟩
theorem only_new {S : Nat → Prop} {w w1 w2 : World} (h : Only S w w1) (hb : Below w1.heap.size w1 w2) : Only S w w2 := h.trans (Only.of_new hb)

/-- What is known while bits are set, one block behind the other. -/
def seenB (b : List Int) (L : List Int) (k : Nat) : Prop := ∀ j x, j < k → b[j]? = some x → x ∉ L ++ b.take j
def AddAns (P : Nat) (b L : List Int) (w : World) (e : Ending) (w' : World) : Prop :=
  ∃ q : Bool, e = .returned (.bool q) ∧ (q = true ↔ seenB b L b.length) ∧ (q = true → Var w' P (bitV (L ++ b)) 77) ∧ Only (fun j => j = P) w w'
set_option maxRecDepth 20000 in
set_option maxHeartbeats 1000000 in
theorem bitAdd (P : Nat) (a : Option Addr) (cap : Nat) (b L : List Int) (w : World) (hl : b.length ≤ 5) (hb : ∀ x ∈ b, 0 ≤ x ∧ x ≤ 35) (hr : Rd .i64 w a b) (hne : ∀ q off, a = some ⟨q, off, none⟩ → b ≠ [] → q ≠ P) (hV : Var w P (bitV L) 77) :
    Calls Tryd.prog 48 #[.pointer (some ⟨P, 0, none⟩), .slice a b.length cap] w fun e w' => AddAns P b L w e w' := by
  have HCS : Hid (∀ k (hk : k < b.length), ∃ g off, a = some ⟨g, off, none⟩ ∧ g < w.heap.size ∧ g ≠ P ∧ w.cell? ⟨g, off + k, none⟩ = some (.int .i64 b[k])) := by
    intro k hk
    obtain ⟨g, off, rfl, h1, hc⟩ := hr.cellI k hk
    exact ⟨g, off, rfl, h1, hne g off rfl (fun e => by rw [e] at hk; simp at hk), hc⟩
  have HBD : Hid (∀ k (hk : k < b.length), 0 ≤ b[k] ∧ b[k] ≤ 35) := fun k hk => hb _ (List.getElem_mem hk)
  clear hr hne hb
  go_enter Tryd.func48, Tryd.ntmps48
  go_wp2
  go_loopw [6, 9] (fun _ i wr => ∃ k : Nat, k ≤ b.length ∧ i = .int .i64 k ∧ Hid (seenB b L k) ∧ Hid (Var wr P (bitV (L ++ b.take k)) 77) ∧ Only (fun j => j = P) w wr) (fun _ i _ => b.length - (intOf i).toNat)
  case atStart => exact ⟨0, Nat.zero_le _, rfl, fun j x h => by omega, by show Var _ _ _ _; simpa using hV, Only.refl _ _⟩
  case round =>
    obtain ⟨k, hk, rfl, HN, HV, hO⟩ := hrel
    by_cases hlt : k < b.length
    · obtain ⟨g, off, rfl, hg, hgp, hc⟩ := HCS.out k hlt
      have hcr : wr.cell? ⟨g, off + k, none⟩ = some (.int .i64 b[k]) := (hO.cell (p := ⟨g, off + k, none⟩) hg hgp).trans hc
      obtain ⟨x0, x35⟩ := HBD.out k hlt
      obtain ⟨m, hm⟩ := Int.eq_ofNat_of_zero_le x0
      have HT : Hid (b.take (k + 1) = b.take k ++ [(m : Int)]) := by show _ = _; rw [List.take_succ_eq_append_getElem hlt, hm]
      have HX : Hid (b[k]? = some (m : Int)) := by show _ = _; rw [List.getElem?_eq_getElem hlt, hm]
      have hm40 : m < 40 := by omega
      rw [hm] at hcr
      clear hc x0 x35 hm
      by_cases hin : (m : Int) ∈ L ++ b.take k
      · have HF : Hid (¬ seenB b L b.length) := fun h => h k _ hlt HX.out hin
        have HH := bitHas P m (L ++ b.take k) wr hm40 HV.out
        rw [decide_eq_true hin] at HH
        have HH2 : Hid (Calls Tryd.prog 74 #[.pointer (some ⟨P, 0, none⟩), .int .i64 (m : Nat)] wr fun e w' => e = .returned (.bool true) ∧ w' = wr) := HH
        clear HH hin
        go_wp2_with fail
        refine HH2.out.mono ?_
        rintro e w1 ⟨rfl, hw1⟩
        subst w1
        go_wp2
        go_ret
        exact ⟨false, rfl, ⟨fun h => absurd h (by decide), fun h => absurd h HF.out⟩, fun h => absurd h (by decide), hO⟩
      · have HH := bitHas P m (L ++ b.take k) wr hm40 HV.out
        rw [decide_eq_false hin] at HH
        have HH2 : Hid (Calls Tryd.prog 74 #[.pointer (some ⟨P, 0, none⟩), .int .i64 (m : Nat)] wr fun e w' => e = .returned (.bool false) ∧ w' = wr) := HH
        have HS : Hid (Calls Tryd.prog 75 #[.pointer (some ⟨P, 0, none⟩), .int .i64 (m : Nat)] wr fun e w' => e = .returned (.tuple #[]) ∧ Var w' P (bitV ((L ++ b.take k) ++ [(m : Int)])) 77 ∧ Only (fun j => j = P) wr w') := bitSet P m _ wr hm40 hin HV.out
        have HN2 : Hid (seenB b L (k + 1)) := by
          intro j x hj hx
          by_cases e : j = k
          · subst e
            rw [HX.out] at hx
            injection hx with hx
            rw [← hx]; exact hin
          · exact HN.out j x (by omega) hx
        clear HH hin HN
        go_wp2_with fail
        refine HH2.out.mono ?_
        rintro e w1 ⟨rfl, hw1⟩
        subst w1
        go_wp2_with fail
        refine HS.out.mono ?_
        rintro e w1 ⟨rfl, hV1, hO1⟩
        have HV1 : Hid (Var w1 P (bitV (L ++ b.take (k + 1))) 77) := by show Var _ _ _ _; rw [HT.out, ← List.append_assoc]; exact hV1
        have hO2 := hO.trans hO1
        clear hV1 hO hO1
        go_wp2
        go_roundw
        case rel => exact ⟨k + 1, by omega, by go_num, HN2, HV1, hO2⟩
        case measure => simp [intOf]; omega
    · obtain rfl : k = b.length := by omega
      have HV2 : Hid (Var wr P (bitV (L ++ b)) 77) := by have := HV.out; rwa [List.take_length] at this
      go_wp2
      go_ret
      exact ⟨true, rfl, ⟨fun _ => HN.out, fun _ => rfl⟩, fun _ => HV2.out, hO⟩
end Go.Proofs.YthfgfhbinggpfaaDoor

/-
  Own text: which branches are right, as the program tells it.
-/
namespace Go.Proofs.YthfgfhbinggpfaaDoor
open Go.RowKit

def cntOk (F : FsD) : Bool := decide (2 ≤ F.ns.length) && decide (F.ns.length ≤ 10) && decide (1 ≤ F.ds.length) && decide (F.ds.length ≤ 36)
theorem cntOk_iff {F : FsD} : cntOk F = true ↔ CountP F := by
  unfold cntOk CountP
  simp [and_assoc]

set_option maxRecDepth 20000 in
set_option maxHeartbeats 1000000 in
theorem countsW (P : Nat) (a b : Option Addr) (ca cb : Nat) (F : FsD) (w : World) (h0 : w.cell? ⟨P, 0, none⟩ = some (.slice a F.ns.length ca)) (h1 : w.cell? ⟨P, 1, none⟩ = some (.slice b F.ds.length cb)) :
    Calls Tryd.prog 46 #[.pointer (some ⟨P, 0, none⟩)] w fun e w' => e = .returned (.bool (cntOk F)) ∧ w' = w := by
  have HZ : Hid (cntOk F = (decide (2 ≤ F.ns.length) && decide (F.ns.length ≤ 10) && decide (1 ≤ F.ds.length) && decide (F.ds.length ≤ 36))) := rfl
  generalize F.ns.length = n at *
  generalize F.ds.length = m at *
  by_cases c1 : 2 ≤ n
  · by_cases c2 : n ≤ 10
    · by_cases c3 : 1 ≤ m
      · by_cases c4 : m ≤ 36
        · have HF : Hid (cntOk F = true) := by show _ = _; rw [HZ.out]; simp [c1, c2, c3, c4]
          have d4 : decide ((m : Int) ≤ 36) = true := decide_eq_true (by omega)
          clear HZ
          go_enter Tryd.func46, Tryd.ntmps46
          go_wp2
          go_ret
          exact ⟨by rw [HF.out]; rfl, rfl⟩
        · have d4 : decide ((m : Int) ≤ 36) = false := decide_eq_false (by omega)
          have HF : Hid (cntOk F = false) := by show _ = _; rw [HZ.out]; simp [c1, c2, c3, c4]
          clear HZ
          go_enter Tryd.func46, Tryd.ntmps46
          go_wp2
          go_ret
          exact ⟨by rw [HF.out]; rfl, rfl⟩
      · have HF : Hid (cntOk F = false) := by show _ = _; rw [HZ.out]; simp [c1, c2, c3]
        clear HZ
        go_enter Tryd.func46, Tryd.ntmps46
        go_wp2
        go_ret
        exact ⟨by rw [HF.out]; rfl, rfl⟩
    · have HF : Hid (cntOk F = false) := by show _ = _; rw [HZ.out]; simp [c1, c2]
      clear HZ
      go_enter Tryd.func46, Tryd.ntmps46
      go_wp2
      go_ret
      exact ⟨by rw [HF.out]; rfl, rfl⟩
  · have HF : Hid (cntOk F = false) := by show _ = _; rw [HZ.out]; simp [c1]
    clear HZ
    go_enter Tryd.func46, Tryd.ntmps46
    go_wp2
    go_ret
    exact ⟨by rw [HF.out]; rfl, rfl⟩

noncomputable def holdOk (ds : List ByteArray) (n : NodeD) : Bool := @decide (HoldP ds n) (Classical.propDecidable _)
theorem holdOk_yes {ds : List ByteArray} {n : NodeD} (h : HoldP ds n) : holdOk ds n = true := by unfold holdOk; exact @decide_eq_true _ (Classical.propDecidable _) h
theorem holdOk_no {ds : List ByteArray} {n : NodeD} (h : ¬ HoldP ds n) : holdOk ds n = false := by unfold holdOk; exact @decide_eq_false _ (Classical.propDecidable _) h
theorem holdOk_iff {ds : List ByteArray} {n : NodeD} : holdOk ds n = true ↔ HoldP ds n := ⟨fun h => Classical.byContradiction fun h' => absurd ((holdOk_no h').symm.trans h) (by decide), holdOk_yes⟩

set_option maxRecDepth 20000 in
set_option maxHeartbeats 1000000 in
theorem holdsW (P : Nat) (b : Option Addr) (cb : Nat) (ds : List ByteArray) (n : NodeD) (u : Value) (w : World) (hP : P < w.heap.size) (hn : NodP n) (_ : ds.length ≤ 36) (hds : ∀ s ∈ ds, s.size ≤ 1048576) (hp1 : w.cell? ⟨P, 1, none⟩ = some (.slice b ds.length cb)) (hr : RdU w u n.b) (hs : RdS w b ds) :
    Calls Tryd.prog 49 #[.pointer (some ⟨P, 0, none⟩), .agg #[.int .i64 n.k, .int .i64 n.g, .int .i64 n.t, .int .i64 n.s, u]] w fun e w' => e = .returned (.bool (holdOk ds n)) ∧ Below w.heap.size w w' := by
  obtain ⟨a, c, rfl, _, _, hr⟩ := hr
  have hbel : Below w.heap.size w (w.alloc (.cells #[.int .i64 n.k, .int .i64 n.g, .int .i64 n.t, .int .i64 n.s, .slice a n.b.length c] 44)) := below1 _ _
  have hX : Var (w.alloc (.cells #[.int .i64 n.k, .int .i64 n.g, .int .i64 n.t, .int .i64 n.s, .slice a n.b.length c] 44)) w.heap.size #[.int .i64 n.k, .int .i64 n.g, .int .i64 n.t, .int .i64 n.s, .slice a n.b.length c] 44 := Var.made _ _ _
  have hq1 := (hbel.cell (p := ⟨P, 1, none⟩) hP).trans hp1
  have HSZ : Hid (0 ≤ n.s ∧ n.s ≤ 80 ∧ n.b.length ≤ 5) := ⟨hn.size.1, hn.size.2.1, hn.len⟩
  have HLP : Hid (∀ k, k < n.b.length → longB n.s k ≤ 16) := fun k hk => (long_pos hn hk).2
  have HBK : Hid (∀ k (hk : k < n.b.length), 0 ≤ n.b[k] ∧ n.b[k] ≤ 35) := fun k hk => hn.blk _ (List.getElem_mem hk)
  have HCS : Hid (∀ k (hk : k < n.b.length), ∃ g off, a = some ⟨g, off, none⟩ ∧ (w.alloc (.cells #[.int .i64 n.k, .int .i64 n.g, .int .i64 n.t, .int .i64 n.s, .slice a n.b.length c] 44)).cell? ⟨g, off + k, none⟩ = some (.int .i64 n.b[k])) := by
    intro k hk
    obtain ⟨g, off, rfl, h1, hc⟩ := hr.cellI k hk
    exact ⟨g, off, rfl, (hbel.cell (p := ⟨g, off + k, none⟩) h1).trans hc⟩
  have HDS : Hid (∀ m (hm : m < ds.length), ∃ g off, b = some ⟨g, off, none⟩ ∧ (w.alloc (.cells #[.int .i64 n.k, .int .i64 n.g, .int .i64 n.t, .int .i64 n.s, .slice a n.b.length c] 44)).cell? ⟨g, off + m, none⟩ = some (.string ds[m])) := by
    intro m hm
    obtain ⟨g, off, rfl, h1, hc⟩ := hs.cellT m hm
    exact ⟨g, off, rfl, (hbel.cell (p := ⟨g, off + m, none⟩) h1).trans hc⟩
  have HDZ : Hid (∀ m (hm : m < ds.length), ds[m].size ≤ 1048576) := fun m hm => hds _ (List.getElem_mem hm)
  have x3 := hX.cell 3
  have x4 := hX.cell 4
  simp at x3 x4
  clear hr hs hX hp1 hds hn
  have hnl := HSZ.out.2.2
  have hs0 := HSZ.out.1
  have hs1 := HSZ.out.2.1
  go_enter Tryd.func49, Tryd.ntmps49
  go_wp2
  generalize w.alloc (.cells #[.int .i64 n.k, .int .i64 n.g, .int .i64 n.t, .int .i64 n.s, .slice a n.b.length c] 44) = W at *
  go_loopw [5, 7, 13] (fun l _ i wr => ∃ k : Nat, k ≤ n.b.length ∧ l = .int .i64 (n.s - 16 * (k : Int)) ∧ i = .int .i64 k ∧ Hid (HoldTo ds n.s n.b k) ∧ wr = W) (fun _ _ i _ => n.b.length - (intOf i).toNat)
  case atStart => exact ⟨0, Nat.zero_le _, by simp, rfl, fun j x h => by omega, rfl⟩
  case round =>
    obtain ⟨k, hk, rfl, rfl, HN, hwr⟩ := hrel
    subst wr
    by_cases hlt : k < n.b.length
    · obtain ⟨g, off, rfl, hc⟩ := HCS.out k hlt
      obtain ⟨y0, y35⟩ := HBK.out k hlt
      obtain ⟨m, hm⟩ := Int.eq_ofNat_of_zero_le y0
      have HX : Hid (n.b[k]? = some (m : Int)) := by show _ = _; rw [List.getElem?_eq_getElem hlt, hm]
      have HLG : Hid (longB n.s k = if n.s - 16 * (k : Int) ≤ 16 then n.s - 16 * (k : Int) else 16) := rfl
      rw [hm] at hc
      have hmle : m ≤ 35 := by omega
      clear y0 y35 hm
      have j0 : (0 : Int) ≤ (m : Int) := by omega
      by_cases hin : m < ds.length
      · obtain ⟨g2, off2, rfl, hc2⟩ := HDS.out m hin
        have hdz := HDZ.out m hin
        have HD : Hid (ds[m]? = some ds[m]) := List.getElem?_eq_getElem hin
        generalize ds[m] = d at *
        have j1 : (m : Int) < (ds.length : Int) := by omega
        have j2 : ¬ (ds.length : Int) ≤ (m : Int) := by omega
        by_cases hq : (d.size : Int) = longB n.s k
        · have HN2 : Hid (HoldTo ds n.s n.b (k + 1)) := by
            intro j x hj hx
            by_cases e : j = k
            · subst e
              rw [HX.out] at hx
              injection hx with hx
              subst hx
              exact ⟨by omega, d, by rw [Int.toNat_natCast]; exact HD.out, hq⟩
            · exact HN.out j x (by omega) hx
          by_cases hl : n.s - 16 * (k : Int) ≤ 16
          · have hmin : min (n.s - 16 * (k : Int)) 16 = (d.size : Int) := by rw [hq, HLG.out, if_pos hl]; omega
            clear hq HN HX HD HLG hdz
            go_wp2
            go_roundw
            case rel => exact ⟨k + 1, by omega, by go_num, by go_num, HN2, trivial⟩
            case measure => simp [intOf]; omega
          · have hmin : min (n.s - 16 * (k : Int)) 16 = (d.size : Int) := by rw [hq, HLG.out, if_neg hl]; omega
            clear hq HN HX HD HLG hdz
            go_wp2
            go_roundw
            case rel => exact ⟨k + 1, by omega, by go_num, by go_num, HN2, trivial⟩
            case measure => simp [intOf]; omega
        · have HF : Hid (holdOk ds n = false) := holdOk_no fun h => by
            obtain ⟨_, d', hd', hs'⟩ := h k _ hlt HX.out
            rw [Int.toNat_natCast, HD.out] at hd'
            injection hd' with hd'
            exact hq (by rw [hd']; exact hs')
          have hmin : ¬ (d.size : Int) = min (n.s - 16 * (k : Int)) 16 := by
            intro h
            apply hq
            rw [HLG.out, h]
            split <;> omega
          have hmin2 : ((d.size : Int) == min (n.s - 16 * (k : Int)) 16) = false := by simpa using hmin
          clear hq HN HX HD HLG
          go_wp2
          all_goals
            go_ret
            exact ⟨by rw [HF.out]; rfl, hbel⟩
      · have HF : Hid (holdOk ds n = false) := holdOk_no fun h => by
          obtain ⟨_, d', hd', _⟩ := h k _ hlt HX.out
          rw [Int.toNat_natCast] at hd'
          exact hin (List.getElem?_eq_some_iff.1 hd').1
        have j2 : (ds.length : Int) ≤ (m : Int) := by omega
        clear HN HX HLG hin
        go_wp2
        go_ret
        exact ⟨by rw [HF.out]; rfl, hbel⟩
    · obtain rfl : k = n.b.length := by omega
      have HT : Hid (holdOk ds n = true) := holdOk_yes HN.out
      go_wp2
      go_ret
      exact ⟨by rw [HT.out]; rfl, hbel⟩

set_option maxRecDepth 20000 in
theorem tenV (L : List Int) : bitV L = #[.int .u8 (byteAt L 0 : Int), .int .u8 (byteAt L 1 : Int), .int .u8 (byteAt L 2 : Int), .int .u8 (byteAt L 3 : Int), .int .u8 (byteAt L 4 : Int)] := rfl
theorem bitV_nil : bitV [] = #[.int .u8 0, .int .u8 0, .int .u8 0, .int .u8 0, .int .u8 0] := by rw [tenV]; rfl
theorem Tryd.sizeBits : (Tryd.prog.info? 77).map (·.size) = some 5 := by kernel_rfl

set_option maxRecDepth 20000 in
set_option maxHeartbeats 1000000 in
theorem filledW (P : Nat) (b : Option Addr) (cb : Nat) (ds : List ByteArray) (w : World) (hP : P < w.heap.size) (hdl : ds.length ≤ 36) (hp1 : w.cell? ⟨P, 1, none⟩ = some (.slice b ds.length cb)) (hs : RdS w b ds) :
    Calls Tryd.prog 50 #[.pointer (some ⟨P, 0, none⟩)] w fun e w' => e = .returned (.agg (bitV (fillL ds ds.length))) ∧ Below w.heap.size w w' := by
  have hbel : Below w.heap.size w ((w.alloc (.cells #[.int .u8 0, .int .u8 0, .int .u8 0, .int .u8 0, .int .u8 0] 77)).alloc (.cells #[.int .u8 0, .int .u8 0, .int .u8 0, .int .u8 0, .int .u8 0] 77)) := below2 _ _ _
  have hR : Var ((w.alloc (.cells #[.int .u8 0, .int .u8 0, .int .u8 0, .int .u8 0, .int .u8 0] 77)).alloc (.cells #[.int .u8 0, .int .u8 0, .int .u8 0, .int .u8 0, .int .u8 0] 77)) w.heap.size #[.int .u8 0, .int .u8 0, .int .u8 0, .int .u8 0, .int .u8 0] 77 := (Var.made _ _ _).alloc _
  have hB : Var ((w.alloc (.cells #[.int .u8 0, .int .u8 0, .int .u8 0, .int .u8 0, .int .u8 0] 77)).alloc (.cells #[.int .u8 0, .int .u8 0, .int .u8 0, .int .u8 0, .int .u8 0] 77)) (w.heap.size + 1) (bitV []) 77 := by rw [bitV_nil]; exact Var.made2 _ _ _ _
  have hq1 := (hbel.cell (p := ⟨P, 1, none⟩) hP).trans hp1
  have HDS : Hid (∀ m (hm : m < ds.length), ∃ g off, b = some ⟨g, off, none⟩ ∧ g < w.heap.size ∧ w.cell? ⟨g, off + m, none⟩ = some (.string ds[m])) := fun m hm => hs.cellT m hm
  clear hs hp1
  go_enter Tryd.func50, Tryd.ntmps50
  go_wp2
  generalize (w.alloc (.cells #[.int .u8 0, .int .u8 0, .int .u8 0, .int .u8 0, .int .u8 0] 77)).alloc (.cells #[.int .u8 0, .int .u8 0, .int .u8 0, .int .u8 0, .int .u8 0] 77) = W at *
  go_loopw [4, 5, 11] (fun _ _ i wr => ∃ k : Nat, k ≤ ds.length ∧ i = .int .i64 k ∧ Hid (Var wr (w.heap.size + 1) (bitV (fillL ds k)) 77) ∧ Hid (Var wr w.heap.size #[.int .u8 0, .int .u8 0, .int .u8 0, .int .u8 0, .int .u8 0] 77) ∧ Below w.heap.size w wr) (fun _ _ i _ => ds.length - (intOf i).toNat)
  case atStart => exact ⟨0, Nat.zero_le _, rfl, hB, hR, hbel⟩
  case round =>
    clear hR hB hbel hq1
    obtain ⟨k, hk, rfl, HB, HR, hbel⟩ := hrel
    by_cases hlt : k < ds.length
    · obtain ⟨g, off, rfl, hg, hc⟩ := HDS.out k hlt
      have hcr : wr.cell? ⟨g, off + k, none⟩ = some (.string ds[k]) := (hbel.cell (p := ⟨g, off + k, none⟩) hg).trans hc
      have HFL : Hid (fillL ds (k + 1) = fillL ds k ++ (if ds[k].size = 0 then [] else [(k : Int)])) := by
        show _ = _
        rw [fillL, List.getElem?_eq_getElem hlt]
        rfl
      have HNI : Hid ((k : Int) ∉ fillL ds k) := fun h => by
        obtain ⟨j, h1, h2, _⟩ := (fillL_mem _ _ _).1 h
        omega
      clear hc
      generalize ds[k] = d at *
      by_cases h0 : d.size = 0
      · obtain rfl : d = ⟨#[]⟩ := by
          obtain ⟨⟨l⟩⟩ := d
          congr 1
          congr 1
          exact List.eq_nil_of_length_eq_zero h0
        have HB2 : Hid (Var wr (w.heap.size + 1) (bitV (fillL ds (k + 1))) 77) := by show Var _ _ _ _; rw [HFL.out, if_pos (show (⟨#[]⟩ : ByteArray).size = 0 from rfl), List.append_nil]; exact HB.out
        clear HB HFL HNI
        go_wp2
        go_roundw
        case rel => exact ⟨k + 1, by omega, by go_num, HB2, HR, hbel⟩
        case measure => simp [intOf]; omega
      · have hne : (d.toList == []) = false := by
          obtain ⟨⟨l⟩⟩ := d
          cases l with
          | nil => exact absurd rfl h0
          | cons x l => simp [ByteArray.toList_eq]
        have HSB : Hid (Calls Tryd.prog 75 #[.pointer (some ⟨w.heap.size + 1, 0, none⟩), .int .i64 (k : Nat)] wr fun e w' => e = .returned (.tuple #[]) ∧ Var w' (w.heap.size + 1) (bitV (fillL ds k ++ [(k : Int)])) 77 ∧ Only (fun j => j = w.heap.size + 1) wr w') := bitSet _ k _ wr (by omega) HNI.out HB.out
        have HFL2 : Hid (fillL ds k ++ [(k : Int)] = fillL ds (k + 1)) := by show _ = _; rw [HFL.out, if_neg h0]
        clear HFL HNI HB h0
        go_wp2_with fail
        refine HSB.out.mono ?_
        rintro e w1 ⟨rfl, hV1, hO1⟩
        have HB2 : Hid (Var w1 (w.heap.size + 1) (bitV (fillL ds (k + 1))) 77) := by show Var _ _ _ _; rw [← HFL2.out]; exact hV1
        have HR2 : Hid (Var w1 w.heap.size #[.int .u8 0, .int .u8 0, .int .u8 0, .int .u8 0, .int .u8 0] 77) := HR.out.only hO1 (by omega)
        have hbel2 : Below w.heap.size w w1 := hbel.trans (hO1.below hbel.size (fun j e => by omega))
        clear hV1 hO1 HR hbel
        go_wp2
        go_roundw
        case rel => exact ⟨k + 1, by omega, by go_num, HB2, HR2, hbel2⟩
        case measure => simp [intOf]; omega
    · obtain rfl : k = ds.length := by omega
      have hB := HB.out
      rw [tenV] at hB
      have HTV : Hid (bitV (fillL ds ds.length) = #[.int .u8 (byteAt (fillL ds ds.length) 0 : Int), .int .u8 (byteAt (fillL ds ds.length) 1 : Int), .int .u8 (byteAt (fillL ds ds.length) 2 : Int), .int .u8 (byteAt (fillL ds ds.length) 3 : Int), .int .u8 (byteAt (fillL ds ds.length) 4 : Int)]) := tenV _
      have x0 := hB.cell 0
      have x1 := hB.cell 1
      have x2 := hB.cell 2
      have x3 := hB.cell 3
      have x4 := hB.cell 4
      simp at x0 x1 x2 x3 x4
      generalize (byteAt (fillL ds ds.length) 0 : Int) = b0 at *
      generalize (byteAt (fillL ds ds.length) 1 : Int) = b1 at *
      generalize (byteAt (fillL ds ds.length) 2 : Int) = b2 at *
      generalize (byteAt (fillL ds ds.length) 3 : Int) = b3 at *
      generalize (byteAt (fillL ds ds.length) 4 : Int) = b4 at *
      obtain ⟨hR9, r0, r1, r2, r3, r4, q0, q1, q2, q3, q4⟩ := HR.out.five (.int .u8 b0) (.int .u8 b1) (.int .u8 b2) (.int .u8 b3) (.int .u8 b4)
      have HR9 : Hid (Var (five wr w.heap.size (.int .u8 b0) (.int .u8 b1) (.int .u8 b2) (.int .u8 b3) (.int .u8 b4)) w.heap.size #[.int .u8 b0, .int .u8 b1, .int .u8 b2, .int .u8 b3, .int .u8 b4] 77) := hR9
      have HB9 : Hid (Below w.heap.size w (five wr w.heap.size (.int .u8 b0) (.int .u8 b1) (.int .u8 b2) (.int .u8 b3) (.int .u8 b4))) := below_five hbel (Nat.le_refl _) _ _ _ _ _
      clear hR9 hB HB HR
      go_wp2
      refine bodyPost_ret (results_cell_row rfl _ _ w.heap.size 77 #[.int .u8 b0, .int .u8 b1, .int .u8 b2, .int .u8 b3, .int .u8 b4] (0, 0) _ rfl HR9.out Tryd.underlying77 rfl Tryd.sizeBits) rfl ?_
      exact ⟨by rw [HTV.out], HB9.out⟩
end Go.Proofs.YthfgfhbinggpfaaDoor

/-
  Own text: which branches are right, as the program tells it: all of it.
-/
namespace Go.Proofs.YthfgfhbinggpfaaDoor
open Go.RowKit

theorem seen_nodup {b L : List Int} (hL : L.Nodup) : seenB b L b.length ↔ (L ++ b).Nodup := by
  constructor
  · intro h
    rw [List.nodup_append]
    refine ⟨hL, ?_, fun x hx y hy e => ?_⟩
    · rw [List.nodup_iff_pairwise_ne, List.pairwise_iff_getElem]
      intro i j hi hj hij e
      refine h j _ hj (List.getElem?_eq_getElem hj) (List.mem_append.2 (.inr ?_))
      rw [← e]
      exact List.mem_take_iff_getElem.2 ⟨i, by omega, rfl⟩
    · obtain ⟨j, hj, rfl⟩ := List.getElem_of_mem hy
      exact h j _ hj (List.getElem?_eq_getElem hj) (List.mem_append.2 (.inl (e ▸ hx)))
  · intro h j x hj hx hm
    rw [List.nodup_append] at h
    obtain ⟨_, h2, h3⟩ := h
    obtain ⟨hj', rfl⟩ := List.getElem?_eq_some_iff.1 hx
    rcases List.mem_append.1 hm with hm | hm
    · exact h3 _ hm _ (List.getElem_mem hj') rfl
    · obtain ⟨i, hi, e⟩ := List.mem_take_iff_getElem.1 hm
      rw [List.nodup_iff_pairwise_ne, List.pairwise_iff_getElem] at h2
      exact h2 i j (by omega) hj' (by omega) e
theorem all_range_ints : ∀ (xs ys : List Int), xs.length = ys.length → ((List.range xs.length).all fun i => xs.getD i 0 == ys.getD i 0) = (xs == ys)
  | [], [], _ => rfl
  | x :: xs, y :: ys, h => by
    have ih := all_range_ints xs ys (by simpa using h)
    rw [List.length_cons, List.range_succ_eq_map, List.all_cons, List.all_map]
    simp only [List.getD_cons_zero, Function.comp_def, List.getD_cons_succ, ih]
    simp [List.cons_beq_cons]
  | [], _ :: _, h => by simp at h
  | _ :: _, [], h => by simp at h
/-- Arrays of bytes are held against each other as wholes. -/
theorem run_equalIn_ints {P : Program} (w : World) (d : Nat) (t e : TypeId) (n : Nat) (ht : P.underlying t = some (.array n e)) (he : P.underlying e = some (.int .u8)) (hsz : ∀ w, (sizeOf e).run P w = .ok 1 w)
    (xs ys : List Int) (hx : xs.length = n) (hy : ys.length = n) :
    (Op.equalIn (d + 2) t (.agg (xs.map (Value.int .u8)).toArray) (.agg (ys.map (Value.int .u8)).toArray)).run P w = .ok (xs == ys) w := by
  rw [← all_range_ints xs ys (hx.trans hy.symm), hx, List.range_eq_range', Op.equalIn]
  simp only [Sem.run_bind, run_underlying ht, Result.andThen_ok, hsz, Std.Legacy.Range.forIn_eq_forIn_range', Std.Legacy.Range.size, Nat.sub_zero, Nat.add_sub_cancel, Nat.div_one]
  have hl : ∀ i ∈ List.range' 0 n 1, i < n := fun i hi => by simpa using (List.mem_range'_1.1 hi).2
  generalize List.range' 0 n 1 = l at hl ⊢
  induction l with
  | nil => simp
  | cons i l ih =>
    have hi : i < n := hl i (by simp)
    have px : (part e (xs.map (Value.int .u8)).toArray (i * 1)).run P w = .ok (.int .u8 (xs.getD i 0)) w := by
      simp [part, isAgg, run_underlying he, List.getD, List.getElem?_eq_getElem (show i < xs.length by omega)]
    have py : (part e (ys.map (Value.int .u8)).toArray (i * 1)).run P w = .ok (.int .u8 (ys.getD i 0)) w := by
      simp [part, isAgg, run_underlying he, List.getD, List.getElem?_eq_getElem (show i < ys.length by omega)]
    have pe : (Op.equalIn (d + 1) e (.int .u8 (xs.getD i 0)) (.int .u8 (ys.getD i 0))).run P w = .ok (xs.getD i 0 == ys.getD i 0) w := run_equalIn_int w d e .u8 .u8 _ _ he
    simp only [List.forIn_cons, Sem.run_bind, px, py, pe, Result.andThen_ok, List.all_cons]
    cases hb : (xs.getD i 0 == ys.getD i 0)
    · simp
    · simp only [Bool.not_true, Bool.false_eq_true, if_false, Sem.run_pure, Result.andThen_ok, Bool.true_and]
      exact ih fun j hj => hl j (by simp [hj])
theorem Tryd.guardBits : Tryd.prog.eqGuardType Tryd.prog.depth 77 = false := by kernel_rfl
theorem Tryd.infoByte : (Tryd.prog.info? 5).map (·.size) = some 1 := by kernel_rfl
theorem eqBits (h0 h1 h2 h3 h4 f0 f1 f2 f3 f4 : Int) (W : World) : (Op.equalIn 10000 77 (.agg #[.int .u8 h0, .int .u8 h1, .int .u8 h2, .int .u8 h3, .int .u8 h4]) (.agg #[.int .u8 f0, .int .u8 f1, .int .u8 f2, .int .u8 f3, .int .u8 f4])).run Tryd.prog W = .ok ([h0, h1, h2, h3, h4] == [f0, f1, f2, f3, f4]) W := by
  refine run_equalIn_ints W 9998 77 5 5 Tryd.underlying77 Tryd.underlying5 (fun w => ?_) [h0, h1, h2, h3, h4] [f0, f1, f2, f3, f4] rfl rfl
  obtain ⟨i, hi, hs⟩ := Option.map_eq_some_iff.1 Tryd.infoByte
  simp [sizeOf, typeInfo, hi, hs]
/-- What is known of the first nodes of a branch, while they are gone through. -/
structure ShTo (F : FsD) (k : Nat) : Prop where
  nod : ∀ n ∈ F.ns.take k, NodP n
  hold : ∀ n ∈ F.ns.take k, HoldP F.ds n
  dup : (allB (F.ns.take k)).Nodup
theorem ShTo.zero (F : FsD) : ShTo F 0 := ⟨by simp, by simp, by simp [allB]⟩
theorem ShTo.next {F : FsD} {k : Nat} (h : ShTo F k) (hk : k < F.ns.length) (h1 : NodP F.ns[k]) (h2 : HoldP F.ds F.ns[k]) (h3 : (allB (F.ns.take k) ++ F.ns[k].b).Nodup) : ShTo F (k + 1) := by
  have e := List.take_succ_eq_append_getElem hk
  refine ⟨?_, ?_, by rw [allB_take hk]; exact h3⟩
  · rw [e]
    intro n hn
    rcases List.mem_append.1 hn with hn | hn
    · exact h.nod n hn
    · rw [List.mem_singleton] at hn; rw [hn]; exact h1
  · rw [e]
    intro n hn
    rcases List.mem_append.1 hn with hn | hn
    · exact h.hold n hn
    · rw [List.mem_singleton] at hn; rw [hn]; exact h2
theorem allB_split {l : List NodeD} {k : Nat} (hk : k < l.length) : ∃ r, allB l = allB (l.take k) ++ l[k].b ++ r := by
  refine ⟨allB (l.drop (k + 1)), ?_⟩
  rw [← allB_take hk]
  have h : ∀ x y : List NodeD, allB (x ++ y) = allB x ++ allB y := fun x y => by simp [allB]
  rw [← h, List.take_append_drop]
theorem shape_no {F : FsD} {k : Nat} (hk : k < F.ns.length) (h : NodP F.ns[k] → HoldP F.ds F.ns[k] → ¬ (allB (F.ns.take k) ++ F.ns[k].b).Nodup) : shOk F = false := by
  refine shOk_no fun hp => ?_
  obtain ⟨_, _, h1, h2, h3, _⟩ := hp
  refine h (h1 _ (List.getElem_mem hk)) (h3 _ (List.getElem_mem hk)) ?_
  obtain ⟨r, e⟩ := allB_split hk
  rw [e] at h2
  exact (List.nodup_append.1 h2).1

set_option maxRecDepth 20000 in
set_option maxHeartbeats 4000000 in
theorem implShapeOk (v : Value) (F : FsD) (w : World) (hsm : SmF F) (hr : RdFs w v F) :
    Calls Tryd.prog 24 #[v] w fun e w' => e = .returned (.bool (shOk F)) ∧ Below w.heap.size w w' := by
  obtain ⟨a, ca, b, cb, rfl, _, r1, r2⟩ := hr
  have hb0 : Below w.heap.size w (w.alloc (.cells #[.slice a F.ns.length ca, .slice b F.ds.length cb] 30)) := below1 _ _
  have hX : Var (w.alloc (.cells #[.slice a F.ns.length ca, .slice b F.ds.length cb] 30)) w.heap.size #[.slice a F.ns.length ca, .slice b F.ds.length cb] 30 := Var.made _ _ _
  have HR1 : Hid (RdNs w a F.ns) := r1
  have HR2 : Hid (RdS w b F.ds) := r2
  have HSM : Hid (SmF F) := hsm
  have HCT := countsW w.heap.size a b ca cb F (w.alloc (.cells #[.slice a F.ns.length ca, .slice b F.ds.length cb] 30)) (hX.cell 0) (hX.cell 1)
  cases hct : cntOk F with
  | false =>
    rw [hct] at HCT
    have HC2 : Hid (Calls Tryd.prog 46 #[.pointer (some ⟨w.heap.size, 0, none⟩)] (w.alloc (.cells #[.slice a F.ns.length ca, .slice b F.ds.length cb] 30)) fun e w' => e = .returned (.bool false) ∧ w' = (w.alloc (.cells #[.slice a F.ns.length ca, .slice b F.ds.length cb] 30))) := HCT
    have HF : Hid (shOk F = false) := shOk_no fun h => by have := cntOk_iff.2 h.1; rw [hct] at this; cases this
    clear HCT hct r1 r2 hX
    go_enter Tryd.func24, Tryd.ntmps24
    go_wp2_with fail
    refine HC2.out.mono ?_
    rintro e w1 ⟨rfl, hw1⟩
    subst w1
    go_wp2
    go_ret
    exact ⟨by rw [HF.out]; rfl, hb0⟩
  | true =>
    have hcp : CountP F := cntOk_iff.1 hct
    rw [hct] at HCT
    have HC2 : Hid (Calls Tryd.prog 46 #[.pointer (some ⟨w.heap.size, 0, none⟩)] (w.alloc (.cells #[.slice a F.ns.length ca, .slice b F.ds.length cb] 30)) fun e w' => e = .returned (.bool true) ∧ w' = (w.alloc (.cells #[.slice a F.ns.length ca, .slice b F.ds.length cb] 30))) := HCT
    have HCP : Hid (CountP F) := hcp
    obtain ⟨hc1, hc2, hc3, hc4⟩ := hcp
    clear HCT hct
    obtain ⟨g, off, u, rfl, hg, _, c0, _⟩ := r1.at 0 (by omega)
    rw [Nat.zero_mul, Nat.add_zero] at c0
    have d0 := (hb0.cell (p := ⟨g, off, none⟩) hg).trans c0
    have HRT : Hid (RootP F ↔ F.ns[0].k = 2) := ⟨fun ⟨n, hn, hk⟩ => by rw [List.getElem?_eq_getElem (by omega)] at hn; injection hn with hn; rw [hn]; exact hk, fun h => ⟨_, List.getElem?_eq_getElem (by omega), h⟩⟩
    have x0 := hX.cell 0
    simp at x0
    clear r1 r2 c0
    generalize F.ns[0].k = y at *
    have hpos : (0 : Int) < (F.ns.length : Int) := by omega
    by_cases hy : y = 2
    rotate_left
    · have HF : Hid (shOk F = false) := shOk_no fun h => hy (HRT.out.1 h.2.1)
      have hy2 : (y == 2) = false := by simpa using hy
      clear HRT HSM hX
      go_enter Tryd.func24, Tryd.ntmps24
      go_wp2_with fail
      refine HC2.out.mono ?_
      rintro e w1 ⟨rfl, hw1⟩
      subst w1
      go_wp2
      go_ret
      exact ⟨by rw [HF.out]; rfl, hb0⟩
    · have HRP : Hid (RootP F) := HRT.out.2 hy
      subst hy
      clear HRT
      have hB : Var ((w.alloc (.cells #[.slice (some ⟨g, off, none⟩) F.ns.length ca, .slice b F.ds.length cb] 30)).alloc (.cells #[.int .u8 0, .int .u8 0, .int .u8 0, .int .u8 0, .int .u8 0] 77)) (w.heap.size + 1) (bitV (allB (F.ns.take 0))) 77 := by
        rw [List.take_zero, show allB [] = [] from rfl, bitV_nil]; exact Var.made2 _ _ _ _
      have hb1 : Below w.heap.size w ((w.alloc (.cells #[.slice (some ⟨g, off, none⟩) F.ns.length ca, .slice b F.ds.length cb] 30)).alloc (.cells #[.int .u8 0, .int .u8 0, .int .u8 0, .int .u8 0, .int .u8 0] 77)) := below2 _ _ _
      have hX1 := hX.alloc (.cells #[.int .u8 0, .int .u8 0, .int .u8 0, .int .u8 0, .int .u8 0] 77)
      have z0 := hX1.cell 0
      simp at z0
      go_enter Tryd.func24, Tryd.ntmps24
      go_wp2_with fail
      refine HC2.out.mono ?_
      rintro e w1 ⟨rfl, hw1⟩
      subst w1
      clear HC2
      go_wp2
      clear x0 d0 hX hb0 z0
      generalize (w.alloc (.cells #[.slice (some ⟨g, off, none⟩) F.ns.length ca, .slice b F.ds.length cb] 30)).alloc (.cells #[.int .u8 0, .int .u8 0, .int .u8 0, .int .u8 0, .int .u8 0] 77) = W at *
      go_loopw [5, 19] (fun _ i wr => ∃ k : Nat, k ≤ F.ns.length ∧ i = .int .i64 k ∧ Hid (ShTo F k) ∧ Hid (Var wr w.heap.size #[.slice (some ⟨g, off, none⟩) F.ns.length ca, .slice b F.ds.length cb] 30) ∧ Hid (Var wr (w.heap.size + 1) (bitV (allB (F.ns.take k))) 77) ∧ Below w.heap.size w wr) (fun _ i _ => F.ns.length - (intOf i).toNat)
      case atStart => exact ⟨0, Nat.zero_le _, rfl, ShTo.zero F, hX1, hB, hb1⟩
      case round =>
        clear hX1 hB hb1
        obtain ⟨k, hk, rfl, HN, HX, HB, hbel⟩ := hrel
        by_cases hlt : k < F.ns.length
        · obtain ⟨g', off', u, he, hg', hru, c0, c1, c2, c3, c4⟩ := HR1.out.at k hlt
          cases he
          have d0 := (hbel.cell (p := ⟨g, off + k * 5, none⟩) hg').trans c0
          have d1 := (hbel.cell (p := ⟨g, off + k * 5 + 1, none⟩) hg').trans c1
          have d2 := (hbel.cell (p := ⟨g, off + k * 5 + 2, none⟩) hg').trans c2
          have d3 := (hbel.cell (p := ⟨g, off + k * 5 + 3, none⟩) hg').trans c3
          have d4 := (hbel.cell (p := ⟨g, off + k * 5 + 4, none⟩) hg').trans c4
          have HNO : Hid ((NodP F.ns[k] → HoldP F.ds F.ns[k] → ¬ (allB (F.ns.take k) ++ F.ns[k].b).Nodup) → shOk F = false) := shape_no hlt
          have HNX : Hid (NodP F.ns[k] → HoldP F.ds F.ns[k] → (allB (F.ns.take k) ++ F.ns[k].b).Nodup → ShTo F (k + 1)) := fun h1 h2 h3 => HN.out.next hlt h1 h2 h3
          have HTK : Hid (allB (F.ns.take (k + 1)) = allB (F.ns.take k) ++ F.ns[k].b) := allB_take hlt
          have HNL : Hid (F.ns[k].b.length ≤ 1048576) := HSM.out.2.1 _ (List.getElem_mem hlt)
          have HDU : Hid ((allB (F.ns.take k)).Nodup) := HN.out.dup
          have HRU : Hid (∀ W, Below w.heap.size w W → RdU W u F.ns[k].b) := fun W h => hru.below h (Nat.le_refl _)
          have HUA : Hid (∀ ua uc, u = .slice ua F.ns[k].b.length uc → Rd .i64 w ua F.ns[k].b) := by
            obtain ⟨ua, uc, rfl, _, _, h⟩ := hru
            intro ua' uc' e
            injection e with e1 _ _
            rw [← e1]; exact h
          clear c0 c1 c2 c3 c4 HN
          generalize F.ns[k] = n at *
          obtain ⟨ua, uc, rfl, _⟩ := hru
          have hsz := hbel.size
          have hp1 := HB.out.lt
          have hb9 : Below wr.heap.size wr (wr.alloc (.cells #[.int .i64 n.k, .int .i64 n.g, .int .i64 n.t, .int .i64 n.s, .slice ua n.b.length uc] 44)) := below1 _ _
          have hbel9 : Below w.heap.size w (wr.alloc (.cells #[.int .i64 n.k, .int .i64 n.g, .int .i64 n.t, .int .i64 n.s, .slice ua n.b.length uc] 44)) := hbel.trans (hb9.mono hsz)
          have hV9 : Var (wr.alloc (.cells #[.int .i64 n.k, .int .i64 n.g, .int .i64 n.t, .int .i64 n.s, .slice ua n.b.length uc] 44)) wr.heap.size #[.int .i64 n.k, .int .i64 n.g, .int .i64 n.t, .int .i64 n.s, .slice ua n.b.length uc] 44 := Var.made _ _ _
          have hX9 := HX.out.new hb9
          have hB9 := HB.out.new hb9
          go_wp2_with fail
          clear d0 d1 d2 d3 d4 hb9 HX HB hbel
          generalize wr.alloc (.cells #[.int .i64 n.k, .int .i64 n.g, .int .i64 n.t, .int .i64 n.s, .slice ua n.b.length uc] 44) = W9 at *
          refine (implNodeOk _ n _ HNL.out (HRU.out _ hbel9).node).mono ?_
          rintro e w1 ⟨rfl, hb1⟩
          have hbel1 : Below w.heap.size w w1 := hbel9.trans (hb1.mono hbel9.size)
          have hV1 := hV9.new hb1
          have hX1 := hX9.new hb1
          have hB1 := hB9.new hb1
          clear hbel9 hV9 hX9 hB9 hb1
          obtain ⟨q1, hq1⟩ : ∃ q, ndOk n = q := ⟨_, rfl⟩
          rw [hq1]
          cases q1 with
          | false =>
            have HF : Hid (shOk F = false) := HNO.out fun h => absurd (ndOk_yes h) (by rw [hq1]; decide)
            clear hq1
            go_wp2
            go_ret
            exact ⟨by rw [HF.out]; rfl, hbel1⟩
          | true =>
            have HNP : Hid (NodP n) := ndOk_iff.1 hq1
            clear hq1
            have v4 := hV1.cell 4
            simp at v4
            go_wp2_with fail
            refine (bitAdd (w.heap.size + 1) ua uc n.b (allB (F.ns.take k)) _ HNP.out.len HNP.out.blk ((HUA.out ua uc rfl).below hbel1 (Nat.le_refl _)) (fun q o e hne => ?_) hB1).mono ?_
            · rcases HUA.out ua uc rfl with h | ⟨b2, o2, e2, h2, _⟩
              · exact absurd h hne
              · rw [e] at e2
                injection e2 with e2
                injection e2 with e3 _ _
                omega
            rintro e w2 ⟨q2, rfl, hq2, hB2, hO2⟩
            have hbel2 : Below w.heap.size w w2 := hbel1.trans (hO2.below hbel1.size (fun j e => by omega))
            have hX2 := hX1.only hO2 (by omega)
            have hV2 := hV1.only hO2 (by omega)
            clear hX1 hV1 hB1 hO2 v4 hbel1
            cases q2 with
            | false =>
              have HF : Hid (shOk F = false) := HNO.out fun _ _ h => absurd (hq2.2 ((seen_nodup HDU.out).2 h)) (by decide)
              clear hq2 hB2
              go_wp2
              go_ret
              exact ⟨by rw [HF.out]; rfl, hbel2⟩
            | true =>
              have HND : Hid ((allB (F.ns.take k) ++ n.b).Nodup) := (seen_nodup HDU.out).1 (hq2.1 rfl)
              have hB3 := hB2 rfl
              clear hq2 hB2
              have v0 := hV2.cell 0
              have v1 := hV2.cell 1
              have v2 := hV2.cell 2
              have v3 := hV2.cell 3
              have v4 := hV2.cell 4
              simp at v0 v1 v2 v3 v4
              go_wp2_with fail
              refine (holdsW w.heap.size b cb F.ds n _ _ hX2.lt HNP.out hc4 HSM.out.2.2.2 (by have := hX2.cell 1; simpa using this) (HRU.out _ hbel2) (HR2.out.below hbel2 (Nat.le_refl _))).mono ?_
              rintro e w3 ⟨rfl, hb3⟩
              have hbel3 : Below w.heap.size w w3 := hbel2.trans (hb3.mono hbel2.size)
              have hX3 := hX2.new hb3
              have hB4 := hB3.new hb3
              clear hX2 hV2 hB3 hb3 hbel2 v0 v1 v2 v3 v4
              obtain ⟨q3, hq3⟩ : ∃ q, holdOk F.ds n = q := ⟨_, rfl⟩
              rw [hq3]
              cases q3 with
              | false =>
                have HF : Hid (shOk F = false) := HNO.out fun _ h => absurd (holdOk_yes h) (by rw [hq3]; decide)
                clear hq3
                go_wp2
                go_ret
                exact ⟨by rw [HF.out]; rfl, hbel3⟩
              | true =>
                have HN2 : Hid (ShTo F (k + 1)) := HNX.out HNP.out (holdOk_iff.1 hq3) HND.out
                have HB4 : Hid (Var w3 (w.heap.size + 1) (bitV (allB (F.ns.take (k + 1)))) 77) := by show Var _ _ _ _; rw [HTK.out]; exact hB4
                have HX3 : Hid (Var w3 w.heap.size #[.slice (some ⟨g, off, none⟩) F.ns.length ca, .slice b F.ds.length cb] 30) := hX3
                clear hq3 hB4 hX3
                go_wp2
                go_roundw
                case rel => exact ⟨k + 1, by omega, by go_num, HN2, HX3, HB4, hbel3⟩
                case measure => simp [intOf]; omega
        · obtain rfl : k = F.ns.length := by omega
          have HSH : Hid (shOk F = decide (bitsB (allB F.ns) 5 = bitsB (fillL F.ds F.ds.length) 5)) := by
            have h := HN.out
            rw [show F.ns.length = F.ns.length from rfl] at h
            obtain ⟨h1, h2, h3⟩ := h
            rw [List.take_length] at h1 h2 h3
            refine shOk_of ?_
            rw [decide_eq_true_iff]
            exact shape_bits HCP.out HRP.out h1 h3 h2
          have hB := HB.out
          rw [List.take_length, tenV] at hB
          have x0 := hB.cell 0
          have x1 := hB.cell 1
          have x2 := hB.cell 2
          have x3 := hB.cell 3
          have x4 := hB.cell 4
          simp at x0 x1 x2 x3 x4
          have HFI : Hid (Calls Tryd.prog 50 #[.pointer (some ⟨w.heap.size, 0, none⟩)] wr.drew fun e w' => e = .returned (.agg #[.int .u8 (byteAt (fillL F.ds F.ds.length) 0 : Int), .int .u8 (byteAt (fillL F.ds F.ds.length) 1 : Int), .int .u8 (byteAt (fillL F.ds F.ds.length) 2 : Int), .int .u8 (byteAt (fillL F.ds F.ds.length) 3 : Int), .int .u8 (byteAt (fillL F.ds F.ds.length) 4 : Int)]) ∧ Below wr.heap.size wr w') := by
            rw [← tenV]
            refine (filledW w.heap.size b cb F.ds wr.drew (by have := HX.out.lt; simpa using this) hc4 (by have := HX.out.cell 1; simpa using this) (HR2.out.below hbel.drew (Nat.le_refl _))).mono ?_
            rintro e w' ⟨rfl, h2⟩
            exact ⟨rfl, ⟨h2.os, h2.tape, h2.output, h2.size, h2.block⟩⟩
          have HEQ : Hid ((bitsB (allB F.ns) 5 = bitsB (fillL F.ds F.ds.length) 5) ↔ ((byteAt (allB F.ns) 0 : Int) = (byteAt (fillL F.ds F.ds.length) 0 : Int) ∧ (byteAt (allB F.ns) 1 : Int) = (byteAt (fillL F.ds F.ds.length) 1 : Int) ∧ (byteAt (allB F.ns) 2 : Int) = (byteAt (fillL F.ds F.ds.length) 2 : Int) ∧ (byteAt (allB F.ns) 3 : Int) = (byteAt (fillL F.ds F.ds.length) 3 : Int) ∧ (byteAt (allB F.ns) 4 : Int) = (byteAt (fillL F.ds F.ds.length) 4 : Int))) := by
            show _ ↔ _
            have h : ∀ L : List Int, bitsB L 5 = [(byteAt L 0 : Int), (byteAt L 1 : Int), (byteAt L 2 : Int), (byteAt L 3 : Int), (byteAt L 4 : Int)] := fun L => rfl
            rw [h, h]
            simp
          have HVB : Hid (Var wr (w.heap.size + 1) #[.int .u8 (byteAt (allB F.ns) 0 : Int), .int .u8 (byteAt (allB F.ns) 1 : Int), .int .u8 (byteAt (allB F.ns) 2 : Int), .int .u8 (byteAt (allB F.ns) 3 : Int), .int .u8 (byteAt (allB F.ns) 4 : Int)] 77) := hB
          clear hB HB HX HN
          generalize (byteAt (fillL F.ds F.ds.length) 0 : Int) = f0 at *
          generalize (byteAt (fillL F.ds F.ds.length) 1 : Int) = f1 at *
          generalize (byteAt (fillL F.ds F.ds.length) 2 : Int) = f2 at *
          generalize (byteAt (fillL F.ds F.ds.length) 3 : Int) = f3 at *
          generalize (byteAt (fillL F.ds F.ds.length) 4 : Int) = f4 at *
          generalize (byteAt (allB F.ns) 0 : Int) = h0 at *
          generalize (byteAt (allB F.ns) 1 : Int) = h1 at *
          generalize (byteAt (allB F.ns) 2 : Int) = h2 at *
          generalize (byteAt (allB F.ns) 3 : Int) = h3 at *
          generalize (byteAt (allB F.ns) 4 : Int) = h4 at *
          have heq : ∀ W, (Op.equalIn 10000 77 (.agg #[.int .u8 h0, .int .u8 h1, .int .u8 h2, .int .u8 h3, .int .u8 h4]) (.agg #[.int .u8 f0, .int .u8 f1, .int .u8 f2, .int .u8 f3, .int .u8 f4])).run Tryd.prog W = .ok ([h0, h1, h2, h3, h4] == [f0, f1, f2, f3, f4]) W := eqBits h0 h1 h2 h3 h4 f0 f1 f2 f3 f4
          have HQ : Hid (([h0, h1, h2, h3, h4] == [f0, f1, f2, f3, f4]) = shOk F) := by
            show _ = _
            rw [HSH.out, Bool.eq_iff_iff, decide_eq_true_iff, HEQ.out]
            simp
          have hgd := Tryd.guardBits
          generalize ([h0, h1, h2, h3, h4] == [f0, f1, f2, f3, f4]) = q at *
          go_wp2_with fail
          go_region_held3 (fun W => W.cell? ⟨w.heap.size + 1, 0, none⟩ = some (.int .u8 h0) ∧ W.cell? ⟨w.heap.size + 1, 1, none⟩ = some (.int .u8 h1) ∧ W.cell? ⟨w.heap.size + 1, 2, none⟩ = some (.int .u8 h2) ∧ W.cell? ⟨w.heap.size + 1, 3, none⟩ = some (.int .u8 h3) ∧ W.cell? ⟨w.heap.size + 1, 4, none⟩ = some (.int .u8 h4)) (go_keep) (first
            | (go_at_call 50
               refine HFI.out.mono ?_
               rintro e w2 ⟨rfl, hb2⟩
               obtain ⟨k0, k1, k2, k3, k4⟩ : w2.cell? ⟨w.heap.size + 1, 0, none⟩ = some (.int .u8 h0) ∧ w2.cell? ⟨w.heap.size + 1, 1, none⟩ = some (.int .u8 h1) ∧ w2.cell? ⟨w.heap.size + 1, 2, none⟩ = some (.int .u8 h2) ∧ w2.cell? ⟨w.heap.size + 1, 3, none⟩ = some (.int .u8 h3) ∧ w2.cell? ⟨w.heap.size + 1, 4, none⟩ = some (.int .u8 h4) := ⟨(HVB.out.new hb2).cell 0, (HVB.out.new hb2).cell 1, (HVB.out.new hb2).cell 2, (HVB.out.new hb2).cell 3, (HVB.out.new hb2).cell 4⟩
               skip))
          all_goals
            have hb3 : Below w.heap.size w w2 := hbel.trans (hb2.mono hbel.size)
            go_wp2
            go_ret
            exact ⟨by rw [← HQ.out]; rfl, hb3⟩
end Go.Proofs.YthfgfhbinggpfaaDoor
