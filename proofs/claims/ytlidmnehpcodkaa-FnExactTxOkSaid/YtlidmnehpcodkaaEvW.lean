/-
  Own text: the laws' helpers over events (a kind, a place and a text): copies, sizes, alike, marks, whether they are still there.
-/
import Derived.Test.YtlidmnehpcodkaaEvBase
import Derived.Test.YtlidmnehpcodkaaBunA
import Derived.Handy
import Derived.Deep.RegionWith
namespace Go.Proofs.Ytlidmnehpcodkaa
open Go.RowKit

def aggE (p : EvD) : Value := .agg #[.int .i64 p.1, .int .i64 p.2.1, .string p.2.2]

set_option maxRecDepth 20000 in
theorem toEventW (p : EvD) (w : World) :
    Calls Try.prog 56 #[aggE p] w fun e w' => e = .returned (aggE p) ∧ Below w.heap.size w w' := by
  obtain ⟨n, n2, s⟩ := p
  unfold aggE
  go_enter Try.func56, Try.ntmps56
  go_wp2
  go_returns
  exact ⟨rfl, below3 _ _ _ _⟩

set_option maxRecDepth 20000 in
theorem eqEventW (p : EvD) (w : World) :
    Calls Try.prog 48 #[aggE p, aggE p] w fun e w' => e = .returned (.bool true) ∧ Below w.heap.size w w' := by
  obtain ⟨n, n2, s⟩ := p
  unfold aggE
  go_enter Try.func48, Try.ntmps48
  go_wp2
  go_ret
  exact ⟨rfl, below2 _ _ _⟩

set_option maxRecDepth 20000 in
theorem szEventW (p : EvD) (m : Int) (w : World) (hm0 : 0 ≤ m) (hm1 : m ≤ 1048576) (hs : p.2.2.size ≤ maxLen) :
    Calls Try.prog 51 #[aggE p, .int .i64 m] w fun e w' => ∃ r : Int, e = .returned (.int .i64 r) ∧ (0 ≤ r → r + p.2.2.size = m) ∧ -1 ≤ r ∧ r ≤ 1048576 ∧ Below w.heap.size w w' := by
  obtain ⟨n, n2, s⟩ := p
  have hs' : s.size ≤ 9223372036854775807 := by unfold maxLen at hs; simp at hs; omega
  clear hs
  unfold aggE
  by_cases hlt : m - (s.size : Int) < 0
  · go_enter Try.func51, Try.ntmps51
    go_wp2
    go_ret
    exact ⟨-1, rfl, fun h => by omega, by omega, by omega, below1 _ _⟩
  · go_enter Try.func51, Try.ntmps51
    go_wp2
    go_ret
    exact ⟨m - s.size, rfl, fun h => by simp, by omega, by omega, below1 _ _⟩

theorem evKind (l : List EvD) (i : Nat) (h : i < l.length) (n : Int) : (l.flatMap encE).set (i * 3) (.int .i64 n) = (l.set i (n, l[i].2.1, l[i].2.2)).flatMap encE := by
  have := flat_set encE_len l i h 0 (n, l[i].2.1, l[i].2.2) (.int .i64 n) (by omega) rfl
  simpa using this
theorem evAtS (l : List EvD) (i : Nat) (h : i < l.length) (n : Int) : (l.flatMap encE).set (i * 3 + 1) (.int .i64 n) = (l.set i (l[i].1, n, l[i].2.2)).flatMap encE :=
  flat_set encE_len l i h 1 (l[i].1, n, l[i].2.2) (.int .i64 n) (by omega) rfl
theorem evData (l : List EvD) (i : Nat) (h : i < l.length) (s : ByteArray) : (l.flatMap encE).set (i * 3 + 2) (.string s) = (l.set i (l[i].1, l[i].2.1, s)).flatMap encE :=
  flat_set encE_len l i h 2 (l[i].1, l[i].2.1, s) (.string s) (by omega) rfl
theorem evAll (l : List EvD) (i : Nat) (h : i < l.length) (n m : Int) (s : ByteArray) : (((l.flatMap encE).set (i * 3) (.int .i64 n)).set (i * 3 + 1) (.int .i64 m)).set (i * 3 + 2) (.string s) = (l.set i (n, m, s)).flatMap encE := by
  rw [evKind l i h, evAtS _ i (by simpa using h), evData _ i (by simpa using h)]
  simp
theorem evCells {l : List EvD} {i : Nat} (h : i < l.length) : (l.flatMap encE)[i * 3]? = some (.int .i64 l[i].1) ∧ (l.flatMap encE)[i * 3 + 1]? = some (.int .i64 l[i].2.1) ∧ (l.flatMap encE)[i * 3 + 2]? = some (.string l[i].2.2) := by
  have e0 := flat_get encE_len l i h 0 (by omega)
  have e1 := flat_get encE_len l i h 1 (by omega)
  have e2 := flat_get encE_len l i h 2 (by omega)
  exact ⟨by simpa [encE] using e0, by simpa [encE] using e1, by simpa [encE] using e2⟩

set_option maxRecDepth 20000 in
set_option maxHeartbeats 400000 in
theorem toEvs (a : Option Addr) (cap : Nat) (l : List EvD) (w : World) (hl : l.length ≤ 1048576) (hr : RdF encE 3 w a l) :
    Calls Try.prog 25 #[.slice a l.length cap] w fun e w' => ∃ v, e = .returned v ∧ w'.ownsRow w.heap.size 69 3 v l.length (l.flatMap encE) ∧ Below w.heap.size w w' := by
  obtain ⟨i0, hi, hz0, hz1, hz2⟩ := info_parts Try.infoEv
  have HCS : Hid (∀ k (hk : k < l.length), ∃ b off, a = some ⟨b, off, none⟩ ∧ b < w.heap.size ∧ ∀ j, j < 3 → w.cell? ⟨b, off + k * 3 + j, none⟩ = (encE l[k])[j]?) := fun k hk => hr.at k hk
  clear hr
  go_enter Try.func25, Try.ntmps25
  go_wp2_with (at_make; refine wpList_make_full _ rfl _ _ 31 rfl w.heap.size 69 i0 (.agg #[.int .i64 0, .int .i64 0, .string ⟨#[]⟩]) 3 Try.underlying31 hi hz0 hz1 _ _ _ _ l.length rfl rfl rfl rfl (by rw [hz2]; omega) (by unfold maxLen; omega) (Nat.le_refl _) ?_)
  intro w1 hown hgrow
  have hown1 : w1.ownsRow w.heap.size 69 3 (.slice (some ⟨w.heap.size, 0, none⟩) l.length l.length) l.length ((fillF (0, 0, ⟨#[]⟩) l 0).flatMap encE) := by
    rw [fillF_zero, ← made_flat encE_len _ #[.int .i64 0, .int .i64 0, .string ⟨#[]⟩] rfl (by omega)]
    exact hown
  clear hown
  go_wp2
  go_loopw [4] (fun i wr => ∃ k : Nat, k ≤ l.length ∧ i = .int .i64 k ∧ wr.ownsRow w.heap.size 69 3 (.slice (some ⟨w.heap.size, 0, none⟩) l.length l.length) l.length ((fillF (0, 0, ⟨#[]⟩) l k).flatMap encE) ∧ Below w.heap.size w wr) (fun i _ => l.length - (intOf i).toNat)
  case atStart => exact ⟨0, Nat.zero_le _, rfl, hown1, (Below.refl _ _).grown hgrow (Nat.le_refl _) (fun k h => by simp at h)⟩
  case round =>
    obtain ⟨k, hk, rfl, ho, hbel⟩ := hrel
    by_cases hlt : k < l.length
    · obtain ⟨b, off, rfl, hblt, hcell⟩ := HCS.out k hlt
      have hcr : wr.cell? ⟨b, off + k * 3, none⟩ = some (.int .i64 l[k].1) := (hbel.cell hblt).trans (hcell 0 (by omega))
      have hcm : wr.cell? ⟨b, off + k * 3 + 1, none⟩ = some (.int .i64 l[k].2.1) := (hbel.cell hblt).trans (hcell 1 (by omega))
      have hcs : wr.cell? ⟨b, off + k * 3 + 2, none⟩ = some (.string l[k].2.2) := (hbel.cell hblt).trans (hcell 2 (by omega))
      clear hcell
      generalize hy : l[k] = y at *
      obtain ⟨yn, ym, ys⟩ := y
      simp only at hcr hcm hcs
      go_wp2_with fail
      refine (toEventW (yn, ym, ys) _).mono ?_
      rintro e w2 ⟨rfl, hb2⟩
      have ho2 := ownsRow_below ho hb2 (Nat.le_refl _)
      have hbel2 : Below w.heap.size w w2 := hbel.trans (hb2.mono hbel.size)
      have hf0 := ho2.frozenAt (k * 3)
      have hf1 := ho2.frozenAt (k * 3 + 1)
      have hf2 := ho2.frozenAt (k * 3 + 2)
      have hx0 := ho2.cellAt (k * 3) (by omega)
      have hx1 := ho2.cellAt (k * 3 + 1) (by omega)
      have hx2 := ho2.cellAt (k * 3 + 2) (by omega)
      have hlen := fillF_len ((0 : Int), (0 : Int), (⟨#[]⟩ : ByteArray)) l k hk
      have e01 := evCells (l := fillF (0, 0, ⟨#[]⟩) l k) (i := k) (by omega)
      rw [e01.1] at hx0
      rw [e01.2.1] at hx1
      rw [e01.2.2] at hx2
      have hst := (((ho2.stored (k * 3) (.int .i64 yn)).1.stored (k * 3 + 1) (.int .i64 ym)).1.stored (k * 3 + 2) (.string ys)).1
      rw [evAll _ k (by omega), ← hy, fillF_set _ l k hlt] at hst
      have hb3 : Below w.heap.size w (((w2.setCell ⟨w.heap.size, k * 3, none⟩ (.int .i64 yn)).setCell ⟨w.heap.size, k * 3 + 1, none⟩ (.int .i64 ym)).setCell ⟨w.heap.size, k * 3 + 2, none⟩ (.string ys)) := ((hbel2.setCell (Nat.le_refl _) _).setCell (Nat.le_refl _) _).setCell (Nat.le_refl _) _
      clear e01 ho hbel hb2 ho2 hbel2 hy
      unfold aggE
      go_wp2
      go_roundw
      case rel => exact ⟨k + 1, by omega, by go_num, hst, hb3⟩
      case measure => simp [intOf]; omega
    · obtain rfl : k = l.length := by omega
      go_wp2
      go_ret
      rw [fillF_all] at ho
      exact ⟨_, rfl, ho, hbel⟩

set_option maxRecDepth 20000 in
set_option maxHeartbeats 400000 in
theorem eqEvs (a c : Option Addr) (ca cc : Nat) (l : List EvD) (w : World) (hl : l.length ≤ 4194304) (hr : RdF encE 3 w a l) (hs : RdF encE 3 w c l) :
    Calls Try.prog 17 #[.slice a l.length ca, .slice c l.length cc] w fun e w' => e = .returned (.bool true) ∧ Below w.heap.size w w' := by
  have HCS : Hid (∀ k (hk : k < l.length), ∃ b off, a = some ⟨b, off, none⟩ ∧ b < w.heap.size ∧ ∀ j, j < 3 → w.cell? ⟨b, off + k * 3 + j, none⟩ = (encE l[k])[j]?) := fun k hk => hr.at k hk
  have HDS : Hid (∀ k (hk : k < l.length), ∃ b off, c = some ⟨b, off, none⟩ ∧ b < w.heap.size ∧ ∀ j, j < 3 → w.cell? ⟨b, off + k * 3 + j, none⟩ = (encE l[k])[j]?) := fun k hk => hs.at k hk
  clear hr hs
  go_enter Try.func17, Try.ntmps17
  go_wp2
  go_loopw [5] (fun i wr => ∃ k : Nat, k ≤ l.length ∧ i = .int .i64 k ∧ Below w.heap.size w wr) (fun i _ => l.length - (intOf i).toNat)
  case atStart => exact ⟨0, Nat.zero_le _, rfl, Below.refl _ _⟩
  case round =>
    obtain ⟨k, hk, rfl, hbel⟩ := hrel
    by_cases hlt : k < l.length
    · obtain ⟨b, off, rfl, hblt, hcell⟩ := HCS.out k hlt
      obtain ⟨d, off2, rfl, hdlt, hcell2⟩ := HDS.out k hlt
      have hc0 : wr.cell? ⟨b, off + k * 3, none⟩ = some (.int .i64 l[k].1) := (hbel.cell hblt).trans (hcell 0 (by omega))
      have hc1 : wr.cell? ⟨b, off + k * 3 + 1, none⟩ = some (.int .i64 l[k].2.1) := (hbel.cell hblt).trans (hcell 1 (by omega))
      have hc2 : wr.cell? ⟨b, off + k * 3 + 2, none⟩ = some (.string l[k].2.2) := (hbel.cell hblt).trans (hcell 2 (by omega))
      have hd0 : wr.cell? ⟨d, off2 + k * 3, none⟩ = some (.int .i64 l[k].1) := (hbel.cell hdlt).trans (hcell2 0 (by omega))
      have hd1 : wr.cell? ⟨d, off2 + k * 3 + 1, none⟩ = some (.int .i64 l[k].2.1) := (hbel.cell hdlt).trans (hcell2 1 (by omega))
      have hd2 : wr.cell? ⟨d, off2 + k * 3 + 2, none⟩ = some (.string l[k].2.2) := (hbel.cell hdlt).trans (hcell2 2 (by omega))
      clear hcell hcell2
      have HE : Hid (∀ W, Calls Try.prog 48 #[.agg #[.int .i64 l[k].1, .int .i64 l[k].2.1, .string l[k].2.2], .agg #[.int .i64 l[k].1, .int .i64 l[k].2.1, .string l[k].2.2]] W fun e w' => e = .returned (.bool true) ∧ Below W.heap.size W w') := fun W => eqEventW l[k] W
      generalize l[k].1 = yn at *
      generalize l[k].2.1 = ym at *
      generalize l[k].2.2 = ys at *
      go_wp2
      go_region_with (go_at_call 48; refine (HE.out _).mono ?_; rintro e w2 ⟨rfl, hb2⟩)
      all_goals
        have hb3 : Below w.heap.size w w2 := hbel.drew.trans (hb2.mono hbel.size)
        go_wp2
        go_roundw
        case rel => exact ⟨k + 1, by omega, by go_num, hb3⟩
        case measure => simp [intOf]; omega
    · go_wp2
      go_ret
      exact ⟨rfl, hbel⟩

/-- How great writes are. -/
def szE (l : List EvD) : Nat := (l.map fun p => 1 + p.2.2.size).sum
theorem szE_take {l : List EvD} {k : Nat} (h : k < l.length) : szE (l.take (k + 1)) = szE (l.take k) + 1 + (l[k]).2.2.size := by
  unfold szE
  rw [List.take_succ_eq_append_getElem h, List.map_append, List.sum_append]
  simp
  omega

set_option maxRecDepth 20000 in
set_option maxHeartbeats 400000 in
theorem szEvs (a : Option Addr) (cap : Nat) (l : List EvD) (left : Int) (w : World) (h0 : 0 ≤ left) (h1 : left ≤ 1048576) (hl : l.length ≤ maxLen) (hz : ∀ p ∈ l, p.2.2.size ≤ maxLen) (hr : RdF encE 3 w a l) :
    Calls Try.prog 22 #[.slice a l.length cap, .int .i64 left] w fun e w' => ∃ r : Int, e = .returned (.int .i64 r) ∧ (0 ≤ r → r + szE l = left) ∧ -1 ≤ r ∧ r ≤ 1048576 ∧ Below w.heap.size w w' := by
  have HCS : Hid (∀ k (hk : k < l.length), ∃ b off, a = some ⟨b, off, none⟩ ∧ b < w.heap.size ∧ ∀ j, j < 3 → w.cell? ⟨b, off + k * 3 + j, none⟩ = (encE l[k])[j]?) := fun k hk => hr.at k hk
  have HZ : Hid (∀ p ∈ l, p.2.2.size ≤ maxLen) := hz
  have hm : l.length ≤ 9223372036854775807 := by unfold maxLen at hl; omega
  clear hr hz hl
  by_cases hbig : left < l.length
  · have hneg : left - (l.length : Int) < 0 := by omega
    go_enter Try.func22, Try.ntmps22
    go_wp2
    go_ret
    exact ⟨-1, rfl, fun h => by omega, by omega, by omega, Below.refl _ _⟩
  · have hneg : ¬ left - (l.length : Int) < 0 := by omega
    go_enter Try.func22, Try.ntmps22
    go_wp2
    go_loopw [1, 5] (fun x i wr => ∃ (m : Int) (k : Nat), x = .int .i64 m ∧ 0 ≤ m ∧ m ≤ 1048576 ∧ k ≤ l.length ∧ i = .int .i64 k ∧ Below w.heap.size w wr ∧ Hid (m + ((l.length : Int) - k) + (szE (l.take k) : Int) = left)) (fun _ i _ => l.length - (intOf i).toNat)
    case atStart => exact ⟨left - (l.length : Int), 0, by go_num, by omega, by omega, Nat.zero_le _, rfl, Below.refl _ _, by show _ = _; simp [szE]⟩
    case round =>
      obtain ⟨m, k, rfl, hm0, hm1, hk, rfl, hbel, HA⟩ := hrel
      by_cases hlt : k < l.length
      · obtain ⟨b, off, rfl, hblt, hcell⟩ := HCS.out k hlt
        have hc0 : wr.cell? ⟨b, off + k * 3, none⟩ = some (.int .i64 l[k].1) := (hbel.cell hblt).trans (hcell 0 (by omega))
        have hc1 : wr.cell? ⟨b, off + k * 3 + 1, none⟩ = some (.int .i64 l[k].2.1) := (hbel.cell hblt).trans (hcell 1 (by omega))
        have hc2 : wr.cell? ⟨b, off + k * 3 + 2, none⟩ = some (.string l[k].2.2) := (hbel.cell hblt).trans (hcell 2 (by omega))
        have HS : Hid (szE (l.take (k + 1)) = szE (l.take k) + 1 + (l[k]).2.2.size) := szE_take hlt
        have HY : Hid (∀ W, Calls Try.prog 51 #[.agg #[.int .i64 l[k].1, .int .i64 l[k].2.1, .string l[k].2.2], .int .i64 m] W fun e w' => ∃ r : Int, e = .returned (.int .i64 r) ∧ (0 ≤ r → r + l[k].2.2.size = m) ∧ -1 ≤ r ∧ r ≤ 1048576 ∧ Below W.heap.size W w') := fun W => szEventW l[k] m W hm0 hm1 (HZ.out l[k] (List.getElem_mem hlt))
        clear hcell
        generalize l[k].1 = yn at *
        generalize l[k].2.1 = ym at *
        generalize l[k].2.2 = ys at *
        go_wp2_with fail
        refine (HY.out _).mono ?_
        rintro e w2 ⟨r, rfl, hrm, hr0, hr1, hb2⟩
        have hb3 : Below w.heap.size w w2 := hbel.trans (hb2.mono hbel.size)
        by_cases hrn : r < 0
        · clear hrm
          go_wp2
          go_ret
          exact ⟨-1, rfl, fun h => by omega, by omega, by omega, hb3⟩
        · have HRM : Hid (r + (ys.size : Int) = m) := hrm (by omega)
          clear hrm
          go_wp2
          go_roundw
          case rel => exact ⟨r, k + 1, rfl, by omega, by omega, by omega, by go_num, hb3, by show _ = _; rw [HS.out]; have := HA.out; have := HRM.out; omega⟩
          case measure => simp [intOf]; omega
      · obtain rfl : k = l.length := by omega
        have HE : Hid (m + szE l = left) := by have := HA.out; rw [List.take_length] at this; show _ = _; omega
        go_wp2
        go_ret
        exact ⟨m, rfl, fun _ => HE.out, by omega, by omega, hbel⟩
end Go.Proofs.Ytlidmnehpcodkaa
