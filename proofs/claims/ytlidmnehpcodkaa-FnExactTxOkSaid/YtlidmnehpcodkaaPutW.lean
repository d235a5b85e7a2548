/-
  Own text: the laws' helpers over one write (a place and a text): a copy, its size, alike.
-/
import Derived.Test.YtlidmnehpcodkaaRows
import Derived.Test.YtlidmnehpcodkaaRowC
import Derived.Handy
import Derived.Deep.RegionWith
namespace Go.Proofs.Ytlidmnehpcodkaa
open Go.RowKit

/-- A write: a place and a text. -/
abbrev PutD := Int × ByteArray
def encP (p : PutD) : List Value := [.int .i64 p.1, .string p.2]
def aggP (p : PutD) : Value := .agg #[.int .i64 p.1, .string p.2]
theorem encP_len (p : PutD) : (encP p).length = 2 := rfl

set_option maxRecDepth 20000 in
theorem toPutW (p : PutD) (w : World) :
    Calls Try.prog 38 #[aggP p] w fun e w' => e = .returned (aggP p) ∧ Below w.heap.size w w' := by
  obtain ⟨n, s⟩ := p
  unfold aggP
  go_enter Try.func38, Try.ntmps38
  go_wp2
  go_returns
  exact ⟨rfl, below3 _ _ _ _⟩

set_option maxRecDepth 20000 in
theorem eqPutW (p : PutD) (w : World) :
    Calls Try.prog 40 #[aggP p, aggP p] w fun e w' => e = .returned (.bool true) ∧ Below w.heap.size w w' := by
  obtain ⟨n, s⟩ := p
  unfold aggP
  go_enter Try.func40, Try.ntmps40
  go_wp2
  go_ret
  exact ⟨rfl, below2 _ _ _⟩

set_option maxRecDepth 20000 in
theorem szPutW (p : PutD) (m : Int) (w : World) (hm0 : 0 ≤ m) (hm1 : m ≤ 1048576) (hs : p.2.size ≤ maxLen) :
    Calls Try.prog 35 #[aggP p, .int .i64 m] w fun e w' => ∃ r : Int, e = .returned (.int .i64 r) ∧ (0 ≤ r → r + p.2.size = m) ∧ -1 ≤ r ∧ r ≤ 1048576 ∧ Below w.heap.size w w' := by
  obtain ⟨n, s⟩ := p
  have hs' : s.size ≤ 9223372036854775807 := by unfold maxLen at hs; simp at hs; omega
  clear hs
  unfold aggP
  by_cases hlt : m - (s.size : Int) < 0
  · go_enter Try.func35, Try.ntmps35
    go_wp2
    go_ret
    exact ⟨-1, rfl, fun h => by omega, by omega, by omega, below1 _ _⟩
  · go_enter Try.func35, Try.ntmps35
    go_wp2
    go_ret
    exact ⟨m - s.size, rfl, fun h => by simp, by omega, by omega, below1 _ _⟩

theorem Try.infoPut : (Try.prog.info? 59).map (fun i => (i.zero, i.size, i.bytes)) = some (some (.agg #[.int .i64 0, .string ⟨#[]⟩]), 2, 24) := by kernel_rfl

theorem putAt (l : List PutD) (i : Nat) (h : i < l.length) (n : Int) : (l.flatMap encP).set (i * 2) (.int .i64 n) = (l.set i (n, l[i].2)).flatMap encP := by
  have := flat_set encP_len l i h 0 (n, l[i].2) (.int .i64 n) (by omega) rfl
  simpa using this
theorem putData (l : List PutD) (i : Nat) (h : i < l.length) (s : ByteArray) : (l.flatMap encP).set (i * 2 + 1) (.string s) = (l.set i (l[i].1, s)).flatMap encP :=
  flat_set encP_len l i h 1 (l[i].1, s) (.string s) (by omega) rfl
theorem putBoth (l : List PutD) (i : Nat) (h : i < l.length) (n : Int) (s : ByteArray) : ((l.flatMap encP).set (i * 2) (.int .i64 n)).set (i * 2 + 1) (.string s) = (l.set i (n, s)).flatMap encP := by
  rw [putAt l i h, putData _ i (by simpa using h)]
  simp
theorem putCells {l : List PutD} {i : Nat} (h : i < l.length) : (l.flatMap encP)[i * 2]? = some (.int .i64 l[i].1) ∧ (l.flatMap encP)[i * 2 + 1]? = some (.string l[i].2) := by
  have e0 := flat_get encP_len l i h 0 (by omega)
  have e1 := flat_get encP_len l i h 1 (by omega)
  exact ⟨by simpa [encP] using e0, by simpa [encP] using e1⟩

theorem made_flat {α : Type} {enc : α → List Value} {sz : Nat} (hsz : ∀ x, (enc x).length = sz) (z : α) (zc : Array Value) (hz : zc.toList = enc z) (hpos : 0 < sz) (n : Nat) : (madeCells zc (n * sz)).toList = (List.replicate n z).flatMap enc := by
  have hzs : zc.size = sz := by rw [← Array.length_toList, hz, hsz]
  apply List.ext_getElem?
  intro k
  by_cases hk : k < n * sz
  · have hq : k / sz < n := Nat.div_lt_of_lt_mul (by rw [Nat.mul_comm]; exact hk)
    have e := flat_get hsz (List.replicate n z) (k / sz) (by simpa using hq) (k % sz) (Nat.mod_lt _ hpos)
    rw [show k / sz * sz + k % sz = k by rw [Nat.mul_comm]; exact Nat.div_add_mod k sz] at e
    rw [e]
    simp only [List.getElem_replicate]
    rw [← hz]
    simp [madeCells, hzs, hk, Nat.mod_lt _ hpos]
  · rw [List.getElem?_eq_none (by rw [Array.length_toList, size_madeCells]; omega), List.getElem?_eq_none (by rw [flat_len_c hsz, List.length_replicate]; omega)]
/-- The first k of l, then z. -/
def fillF {α : Type} (z : α) (l : List α) (k : Nat) : List α := l.take k ++ List.replicate (l.length - k) z
theorem fillF_set {α : Type} (z : α) (l : List α) (k : Nat) (h : k < l.length) : (fillF z l k).set k l[k] = fillF z l (k + 1) := by
  unfold fillF
  apply List.ext_getElem
  · simp; omega
  · intro i h1 h2
    simp only [List.getElem_set, List.getElem_append, List.length_take, List.getElem_take, List.getElem_replicate]
    by_cases hi : k = i
    · subst hi
      simp
      omega
    · by_cases h3 : i < k
      · simp [hi, show i < min k l.length by omega, show i < min (k + 1) l.length by omega]
      · simp [hi, show ¬ i < min k l.length by omega, show ¬ i < min (k + 1) l.length by omega]
theorem fillF_len {α : Type} (z : α) (l : List α) (k : Nat) (h : k ≤ l.length) : (fillF z l k).length = l.length := by unfold fillF; simp; omega
theorem fillF_all {α : Type} (z : α) (l : List α) : fillF z l l.length = l := by simp [fillF]
theorem fillF_zero {α : Type} (z : α) (l : List α) : fillF z l 0 = List.replicate l.length z := by simp [fillF]

set_option maxRecDepth 20000 in
set_option maxHeartbeats 400000 in
theorem toPuts (a : Option Addr) (cap : Nat) (l : List PutD) (w : World) (hl : l.length ≤ 1048576) (hr : RdF encP 2 w a l) :
    Calls Try.prog 10 #[.slice a l.length cap] w fun e w' => ∃ v, e = .returned v ∧ w'.ownsRow w.heap.size 59 2 v l.length (l.flatMap encP) ∧ Below w.heap.size w w' := by
  obtain ⟨i0, hi, hz0, hz1, hz2⟩ := info_parts Try.infoPut
  have HCS : Hid (∀ k (hk : k < l.length), ∃ b off, a = some ⟨b, off, none⟩ ∧ b < w.heap.size ∧ ∀ j, j < 2 → w.cell? ⟨b, off + k * 2 + j, none⟩ = (encP l[k])[j]?) := fun k hk => hr.at k hk
  clear hr
  go_enter Try.func10, Try.ntmps10
  go_wp2_with (at_make; refine wpList_make_full _ rfl _ _ 25 rfl w.heap.size 59 i0 (.agg #[.int .i64 0, .string ⟨#[]⟩]) 2 Try.underlying25 hi hz0 hz1 _ _ _ _ l.length rfl rfl rfl rfl (by rw [hz2]; omega) (by unfold maxLen; omega) (Nat.le_refl _) ?_)
  intro w1 hown hgrow
  have hown1 : w1.ownsRow w.heap.size 59 2 (.slice (some ⟨w.heap.size, 0, none⟩) l.length l.length) l.length ((fillF (0, ⟨#[]⟩) l 0).flatMap encP) := by
    rw [fillF_zero, ← made_flat encP_len _ #[.int .i64 0, .string ⟨#[]⟩] rfl (by omega)]
    exact hown
  clear hown
  go_wp2
  go_loopw [4] (fun i wr => ∃ k : Nat, k ≤ l.length ∧ i = .int .i64 k ∧ wr.ownsRow w.heap.size 59 2 (.slice (some ⟨w.heap.size, 0, none⟩) l.length l.length) l.length ((fillF (0, ⟨#[]⟩) l k).flatMap encP) ∧ Below w.heap.size w wr) (fun i _ => l.length - (intOf i).toNat)
  case atStart => exact ⟨0, Nat.zero_le _, rfl, hown1, (Below.refl _ _).grown hgrow (Nat.le_refl _) (fun k h => by simp at h)⟩
  case round =>
    obtain ⟨k, hk, rfl, ho, hbel⟩ := hrel
    by_cases hlt : k < l.length
    · obtain ⟨b, off, rfl, hblt, hcell⟩ := HCS.out k hlt
      have hcr : wr.cell? ⟨b, off + k * 2, none⟩ = some (.int .i64 l[k].1) := (hbel.cell hblt).trans (hcell 0 (by omega))
      have hcs : wr.cell? ⟨b, off + k * 2 + 1, none⟩ = some (.string l[k].2) := (hbel.cell hblt).trans (hcell 1 (by omega))
      clear hcell
      generalize hy : l[k] = y at *
      obtain ⟨yn, ys⟩ := y
      simp only at hcr hcs
      go_wp2_with fail
      refine (toPutW (yn, ys) _).mono ?_
      rintro e w2 ⟨rfl, hb2⟩
      have ho2 := ownsRow_below ho hb2 (Nat.le_refl _)
      have hbel2 : Below w.heap.size w w2 := hbel.trans (hb2.mono hbel.size)
      have hf0 := ho2.frozenAt (k * 2)
      have hf1 := ho2.frozenAt (k * 2 + 1)
      have hx0 := ho2.cellAt (k * 2) (by omega)
      have hx1 := ho2.cellAt (k * 2 + 1) (by omega)
      have hlen := fillF_len ((0 : Int), (⟨#[]⟩ : ByteArray)) l k hk
      have e01 := putCells (l := fillF (0, ⟨#[]⟩) l k) (i := k) (by omega)
      rw [e01.1] at hx0
      rw [e01.2] at hx1
      have hst := ((ho2.stored (k * 2) (.int .i64 yn)).1.stored (k * 2 + 1) (.string ys)).1
      rw [putBoth _ k (by omega), ← hy, fillF_set _ l k hlt] at hst
      have hb3 : Below w.heap.size w ((w2.setCell ⟨w.heap.size, k * 2, none⟩ (.int .i64 yn)).setCell ⟨w.heap.size, k * 2 + 1, none⟩ (.string ys)) := (hbel2.setCell (Nat.le_refl _) _).setCell (Nat.le_refl _) _
      clear e01 ho hbel hb2 ho2 hbel2 hy
      unfold aggP
      go_wp2
      go_roundw
      case rel => exact ⟨k + 1, by omega, by go_num, hst, hb3⟩
      case measure => simp [intOf]; omega
    · obtain rfl : k = l.length := by omega
      go_wp2
      go_ret
      rw [fillF_all] at ho
      exact ⟨_, rfl, ho, hbel⟩

set_option maxRecDepth 20000 in
set_option maxHeartbeats 400000 in
theorem eqPuts (a c : Option Addr) (ca cc : Nat) (l : List PutD) (w : World) (hl : l.length ≤ 4194304) (hr : RdF encP 2 w a l) (hs : RdF encP 2 w c l) :
    Calls Try.prog 12 #[.slice a l.length ca, .slice c l.length cc] w fun e w' => e = .returned (.bool true) ∧ Below w.heap.size w w' := by
  have HCS : Hid (∀ k (hk : k < l.length), ∃ b off, a = some ⟨b, off, none⟩ ∧ b < w.heap.size ∧ ∀ j, j < 2 → w.cell? ⟨b, off + k * 2 + j, none⟩ = (encP l[k])[j]?) := fun k hk => hr.at k hk
  have HDS : Hid (∀ k (hk : k < l.length), ∃ b off, c = some ⟨b, off, none⟩ ∧ b < w.heap.size ∧ ∀ j, j < 2 → w.cell? ⟨b, off + k * 2 + j, none⟩ = (encP l[k])[j]?) := fun k hk => hs.at k hk
  clear hr hs
  go_enter Try.func12, Try.ntmps12
  go_wp2
  go_loopw [5] (fun i wr => ∃ k : Nat, k ≤ l.length ∧ i = .int .i64 k ∧ Below w.heap.size w wr) (fun i _ => l.length - (intOf i).toNat)
  case atStart => exact ⟨0, Nat.zero_le _, rfl, Below.refl _ _⟩
  case round =>
    obtain ⟨k, hk, rfl, hbel⟩ := hrel
    by_cases hlt : k < l.length
    · obtain ⟨b, off, rfl, hblt, hcell⟩ := HCS.out k hlt
      obtain ⟨d, off2, rfl, hdlt, hcell2⟩ := HDS.out k hlt
      have hc0 : wr.cell? ⟨b, off + k * 2, none⟩ = some (.int .i64 l[k].1) := (hbel.cell hblt).trans (hcell 0 (by omega))
      have hc1 : wr.cell? ⟨b, off + k * 2 + 1, none⟩ = some (.string l[k].2) := (hbel.cell hblt).trans (hcell 1 (by omega))
      have hd0 : wr.cell? ⟨d, off2 + k * 2, none⟩ = some (.int .i64 l[k].1) := (hbel.cell hdlt).trans (hcell2 0 (by omega))
      have hd1 : wr.cell? ⟨d, off2 + k * 2 + 1, none⟩ = some (.string l[k].2) := (hbel.cell hdlt).trans (hcell2 1 (by omega))
      clear hcell hcell2
      have HE : Hid (∀ W, Calls Try.prog 40 #[.agg #[.int .i64 l[k].1, .string l[k].2], .agg #[.int .i64 l[k].1, .string l[k].2]] W fun e w' => e = .returned (.bool true) ∧ Below W.heap.size W w') := fun W => eqPutW l[k] W
      generalize l[k].1 = yn at *
      generalize l[k].2 = ys at *
      go_wp2
      go_region_with (go_at_call 40; refine (HE.out _).mono ?_; rintro e w2 ⟨rfl, hb2⟩)
      all_goals
        have hb3 : Below w.heap.size w w2 := hbel.drew.trans (hb2.mono hbel.size)
        go_wp2
        go_roundw
        case rel => exact ⟨k + 1, by omega, by go_num, hb3⟩
        case measure => simp [intOf]; omega
    · go_wp2
      go_ret
      exact ⟨rfl, hbel⟩

/-- How great writes are. -/
def szP (l : List PutD) : Nat := (l.map fun p => 1 + p.2.size).sum
theorem szP_take {l : List PutD} {k : Nat} (h : k < l.length) : szP (l.take (k + 1)) = szP (l.take k) + 1 + (l[k]).2.size := by
  unfold szP
  rw [List.take_succ_eq_append_getElem h, List.map_append, List.sum_append]
  simp
  omega

set_option maxRecDepth 20000 in
set_option maxHeartbeats 400000 in
theorem szPuts (a : Option Addr) (cap : Nat) (l : List PutD) (left : Int) (w : World) (h0 : 0 ≤ left) (h1 : left ≤ 1048576) (hl : l.length ≤ maxLen) (hz : ∀ p ∈ l, p.2.size ≤ maxLen) (hr : RdF encP 2 w a l) :
    Calls Try.prog 8 #[.slice a l.length cap, .int .i64 left] w fun e w' => ∃ r : Int, e = .returned (.int .i64 r) ∧ (0 ≤ r → r + szP l = left) ∧ -1 ≤ r ∧ r ≤ 1048576 ∧ Below w.heap.size w w' := by
  have HCS : Hid (∀ k (hk : k < l.length), ∃ b off, a = some ⟨b, off, none⟩ ∧ b < w.heap.size ∧ ∀ j, j < 2 → w.cell? ⟨b, off + k * 2 + j, none⟩ = (encP l[k])[j]?) := fun k hk => hr.at k hk
  have HZ : Hid (∀ p ∈ l, p.2.size ≤ maxLen) := hz
  have hm : l.length ≤ 9223372036854775807 := by unfold maxLen at hl; omega
  clear hr hz hl
  by_cases hbig : left < l.length
  · have hneg : left - (l.length : Int) < 0 := by omega
    go_enter Try.func8, Try.ntmps8
    go_wp2
    go_ret
    exact ⟨-1, rfl, fun h => by omega, by omega, by omega, Below.refl _ _⟩
  · have hneg : ¬ left - (l.length : Int) < 0 := by omega
    go_enter Try.func8, Try.ntmps8
    go_wp2
    go_loopw [1, 5] (fun x i wr => ∃ (m : Int) (k : Nat), x = .int .i64 m ∧ 0 ≤ m ∧ m ≤ 1048576 ∧ k ≤ l.length ∧ i = .int .i64 k ∧ Below w.heap.size w wr ∧ Hid (m + ((l.length : Int) - k) + (szP (l.take k) : Int) = left)) (fun _ i _ => l.length - (intOf i).toNat)
    case atStart => exact ⟨left - (l.length : Int), 0, by go_num, by omega, by omega, Nat.zero_le _, rfl, Below.refl _ _, by show _ = _; simp [szP]⟩
    case round =>
      obtain ⟨m, k, rfl, hm0, hm1, hk, rfl, hbel, HA⟩ := hrel
      by_cases hlt : k < l.length
      · obtain ⟨b, off, rfl, hblt, hcell⟩ := HCS.out k hlt
        have hc0 : wr.cell? ⟨b, off + k * 2, none⟩ = some (.int .i64 l[k].1) := (hbel.cell hblt).trans (hcell 0 (by omega))
        have hc1 : wr.cell? ⟨b, off + k * 2 + 1, none⟩ = some (.string l[k].2) := (hbel.cell hblt).trans (hcell 1 (by omega))
        have HS : Hid (szP (l.take (k + 1)) = szP (l.take k) + 1 + (l[k]).2.size) := szP_take hlt
        have HY : Hid (∀ W, Calls Try.prog 35 #[.agg #[.int .i64 l[k].1, .string l[k].2], .int .i64 m] W fun e w' => ∃ r : Int, e = .returned (.int .i64 r) ∧ (0 ≤ r → r + l[k].2.size = m) ∧ -1 ≤ r ∧ r ≤ 1048576 ∧ Below W.heap.size W w') := fun W => szPutW l[k] m W hm0 hm1 (HZ.out l[k] (List.getElem_mem hlt))
        clear hcell
        generalize l[k].1 = yn at *
        generalize l[k].2 = ys at *
        go_wp2_with fail
        refine (HY.out _).mono ?_
        rintro e w2 ⟨r, rfl, hrm, hr0, hr1, hb2⟩
        have hb3 : Below w.heap.size w w2 := hbel.trans (hb2.mono hbel.size)
        by_cases hrn : r < 0
        · clear hrm
          go_wp2
          go_ret
          exact ⟨-1, rfl, fun h => by omega, by omega, by omega, hb3⟩
        · have HRM : Hid (r + (ys.size : Int) = m) := hrm (by omega)
          clear hrm
          go_wp2
          go_roundw
          case rel => exact ⟨r, k + 1, rfl, by omega, by omega, by omega, by go_num, hb3, by show _ = _; rw [HS.out]; have := HA.out; have := HRM.out; omega⟩
          case measure => simp [intOf]; omega
      · obtain rfl : k = l.length := by omega
        have HE : Hid (m + szP l = left) := by have := HA.out; rw [List.take_length] at this; show _ = _; omega
        go_wp2
        go_ret
        exact ⟨m, rfl, fun _ => HE.out, by omega, by omega, hbel⟩
end Go.Proofs.Ytlidmnehpcodkaa
