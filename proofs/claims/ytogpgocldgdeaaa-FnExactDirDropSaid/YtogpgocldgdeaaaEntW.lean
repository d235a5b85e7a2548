/-
  Own text: the laws' helpers over rows of entries (a name and a node): copies, their size, alike, marks.
-/
import Derived.Test.YtogpgocldgdeaaaMarkP
namespace Go.Proofs.Ytogpgocldgdeaaa
open Go.RowKit

/-- An entry: a name and a node. -/
abbrev EntD := ByteArray × Int
def encN (p : EntD) : List Value := [.string p.1, .int .i64 p.2]
def aggE (p : EntD) : Value := .agg #[.string p.1, .int .i64 p.2]
theorem encN_len (p : EntD) : (encN p).length = 2 := rfl

set_option maxRecDepth 20000 in
theorem toEntW (p : EntD) (w : World) :
    Calls Try.prog 26 #[aggE p] w fun e w' => e = .returned (aggE p) ∧ Below w.heap.size w w' := by
  obtain ⟨s, n⟩ := p
  unfold aggE
  go_enter Try.func26, Try.ntmps26
  go_wp2
  go_returns
  exact ⟨rfl, below3 _ _ _ _⟩

set_option maxRecDepth 20000 in
theorem eqEntW (p : EntD) (w : World) :
    Calls Try.prog 30 #[aggE p, aggE p] w fun e w' => e = .returned (.bool true) ∧ Below w.heap.size w w' := by
  obtain ⟨s, n⟩ := p
  unfold aggE
  go_enter Try.func30, Try.ntmps30
  go_wp2
  go_ret
  exact ⟨rfl, below2 _ _ _⟩

set_option maxRecDepth 20000 in
theorem szEntW (p : EntD) (m : Int) (w : World) (hm0 : 0 ≤ m) (hm1 : m ≤ 1048576) (hs : p.1.size ≤ maxLen) :
    Calls Try.prog 23 #[aggE p, .int .i64 m] w fun e w' => ∃ r : Int, e = .returned (.int .i64 r) ∧ (0 ≤ r → r + p.1.size = m) ∧ -1 ≤ r ∧ r ≤ 1048576 ∧ Below w.heap.size w w' := by
  obtain ⟨s, n⟩ := p
  have hs' : s.size ≤ 9223372036854775807 := by unfold maxLen at hs; simp at hs; omega
  clear hs
  unfold aggE
  by_cases hlt : m - (s.size : Int) < 0
  · go_enter Try.func23, Try.ntmps23
    go_wp2
    go_ret
    exact ⟨-1, rfl, fun h => by omega, by omega, by omega, below1 _ _⟩
  · go_enter Try.func23, Try.ntmps23
    go_wp2
    go_ret
    exact ⟨m - s.size, rfl, fun h => by simp, by omega, by omega, below1 _ _⟩

theorem Try.infoEnt : (Try.prog.info? 41).map (fun i => (i.zero, i.size, i.bytes)) = some (some (.agg #[.string ⟨#[]⟩, .int .i64 0]), 2, 24) := by kernel_rfl

theorem entName (l : List EntD) (i : Nat) (h : i < l.length) (s : ByteArray) : (l.flatMap encN).set (i * 2) (.string s) = (l.set i (s, l[i].2)).flatMap encN := by
  have := flat_set encN_len l i h 0 (s, l[i].2) (.string s) (by omega) rfl
  simpa using this
theorem entNode (l : List EntD) (i : Nat) (h : i < l.length) (n : Int) : (l.flatMap encN).set (i * 2 + 1) (.int .i64 n) = (l.set i (l[i].1, n)).flatMap encN :=
  flat_set encN_len l i h 1 (l[i].1, n) (.int .i64 n) (by omega) rfl
theorem entBoth (l : List EntD) (i : Nat) (h : i < l.length) (s : ByteArray) (n : Int) : ((l.flatMap encN).set (i * 2) (.string s)).set (i * 2 + 1) (.int .i64 n) = (l.set i (s, n)).flatMap encN := by
  rw [entName l i h, entNode _ i (by simpa using h)]
  simp
theorem entCells {l : List EntD} {i : Nat} (h : i < l.length) : (l.flatMap encN)[i * 2]? = some (.string l[i].1) ∧ (l.flatMap encN)[i * 2 + 1]? = some (.int .i64 l[i].2) := by
  have e0 := flat_get encN_len l i h 0 (by omega)
  have e1 := flat_get encN_len l i h 1 (by omega)
  exact ⟨by simpa [encN] using e0, by simpa [encN] using e1⟩

set_option maxRecDepth 20000 in
set_option maxHeartbeats 400000 in
theorem toEnts (a : Option Addr) (cap : Nat) (l : List EntD) (w : World) (hl : l.length ≤ 1048576) (hr : RdF encN 2 w a l) :
    Calls Try.prog 10 #[.slice a l.length cap] w fun e w' => ∃ v, e = .returned v ∧ w'.ownsRow w.heap.size 41 2 v l.length (l.flatMap encN) ∧ Below w.heap.size w w' := by
  obtain ⟨i0, hi, hz0, hz1, hz2⟩ := info_parts Try.infoEnt
  have HCS : Hid (∀ k (hk : k < l.length), ∃ b off, a = some ⟨b, off, none⟩ ∧ b < w.heap.size ∧ ∀ j, j < 2 → w.cell? ⟨b, off + k * 2 + j, none⟩ = (encN l[k])[j]?) := fun k hk => hr.at k hk
  clear hr
  go_enter Try.func10, Try.ntmps10
  go_wp2_with (at_make; refine wpList_make_full _ rfl _ _ 25 rfl w.heap.size 41 i0 (.agg #[.string ⟨#[]⟩, .int .i64 0]) 2 Try.underlying25 hi hz0 hz1 _ _ _ _ l.length rfl rfl rfl rfl (by rw [hz2]; omega) (by unfold maxLen; omega) (Nat.le_refl _) ?_)
  intro w1 hown hgrow
  have hown1 : w1.ownsRow w.heap.size 41 2 (.slice (some ⟨w.heap.size, 0, none⟩) l.length l.length) l.length ((fillF (⟨#[]⟩, 0) l 0).flatMap encN) := by
    rw [fillF_zero, ← made_flat encN_len _ #[.string ⟨#[]⟩, .int .i64 0] rfl (by omega)]
    exact hown
  clear hown
  go_wp2
  go_loopw [4] (fun i wr => ∃ k : Nat, k ≤ l.length ∧ i = .int .i64 k ∧ wr.ownsRow w.heap.size 41 2 (.slice (some ⟨w.heap.size, 0, none⟩) l.length l.length) l.length ((fillF (⟨#[]⟩, 0) l k).flatMap encN) ∧ Below w.heap.size w wr) (fun i _ => l.length - (intOf i).toNat)
  case atStart => exact ⟨0, Nat.zero_le _, rfl, hown1, (Below.refl _ _).grown hgrow (Nat.le_refl _) (fun k h => by simp at h)⟩
  case round =>
    obtain ⟨k, hk, rfl, ho, hbel⟩ := hrel
    by_cases hlt : k < l.length
    · obtain ⟨b, off, rfl, hblt, hcell⟩ := HCS.out k hlt
      have hcr : wr.cell? ⟨b, off + k * 2, none⟩ = some (.string l[k].1) := (hbel.cell hblt).trans (hcell 0 (by omega))
      have hcs : wr.cell? ⟨b, off + k * 2 + 1, none⟩ = some (.int .i64 l[k].2) := (hbel.cell hblt).trans (hcell 1 (by omega))
      clear hcell
      generalize hy : l[k] = y at *
      obtain ⟨ys, yn⟩ := y
      simp only at hcr hcs
      go_wp2_with fail
      refine (toEntW (ys, yn) _).mono ?_
      rintro e w2 ⟨rfl, hb2⟩
      have ho2 := ownsRow_below ho hb2 (Nat.le_refl _)
      have hbel2 : Below w.heap.size w w2 := hbel.trans (hb2.mono hbel.size)
      have hf0 := ho2.frozenAt (k * 2)
      have hf1 := ho2.frozenAt (k * 2 + 1)
      have hx0 := ho2.cellAt (k * 2) (by omega)
      have hx1 := ho2.cellAt (k * 2 + 1) (by omega)
      have hlen := fillF_len ((⟨#[]⟩ : ByteArray), (0 : Int)) l k hk
      have e01 := entCells (l := fillF (⟨#[]⟩, 0) l k) (i := k) (by omega)
      rw [e01.1] at hx0
      rw [e01.2] at hx1
      have hst := ((ho2.stored (k * 2) (.string ys)).1.stored (k * 2 + 1) (.int .i64 yn)).1
      rw [entBoth _ k (by omega), ← hy, fillF_set _ l k hlt] at hst
      have hb3 : Below w.heap.size w ((w2.setCell ⟨w.heap.size, k * 2, none⟩ (.string ys)).setCell ⟨w.heap.size, k * 2 + 1, none⟩ (.int .i64 yn)) := (hbel2.setCell (Nat.le_refl _) _).setCell (Nat.le_refl _) _
      clear e01 ho hbel hb2 ho2 hbel2 hy
      unfold aggE
      go_wp2
      go_roundw
      case rel => exact ⟨k + 1, by omega, by go_num, hst, hb3⟩
      case measure => simp [intOf]; omega
    · obtain rfl : k = l.length := by omega
      go_wp2
      go_ret
      rw [fillF_all] at ho
      exact ⟨_, rfl, ho, hbel⟩

set_option maxRecDepth 20000 in
set_option maxHeartbeats 400000 in
theorem eqEnts (a c : Option Addr) (ca cc : Nat) (l : List EntD) (w : World) (hl : l.length ≤ 4194304) (hr : RdF encN 2 w a l) (hs : RdF encN 2 w c l) :
    Calls Try.prog 12 #[.slice a l.length ca, .slice c l.length cc] w fun e w' => e = .returned (.bool true) ∧ Below w.heap.size w w' := by
  have HCS : Hid (∀ k (hk : k < l.length), ∃ b off, a = some ⟨b, off, none⟩ ∧ b < w.heap.size ∧ ∀ j, j < 2 → w.cell? ⟨b, off + k * 2 + j, none⟩ = (encN l[k])[j]?) := fun k hk => hr.at k hk
  have HDS : Hid (∀ k (hk : k < l.length), ∃ b off, c = some ⟨b, off, none⟩ ∧ b < w.heap.size ∧ ∀ j, j < 2 → w.cell? ⟨b, off + k * 2 + j, none⟩ = (encN l[k])[j]?) := fun k hk => hs.at k hk
  clear hr hs
  go_enter Try.func12, Try.ntmps12
  go_wp2
  go_loopw [5] (fun i wr => ∃ k : Nat, k ≤ l.length ∧ i = .int .i64 k ∧ Below w.heap.size w wr) (fun i _ => l.length - (intOf i).toNat)
  case atStart => exact ⟨0, Nat.zero_le _, rfl, Below.refl _ _⟩
  case round =>
    obtain ⟨k, hk, rfl, hbel⟩ := hrel
    by_cases hlt : k < l.length
    · obtain ⟨b, off, rfl, hblt, hcell⟩ := HCS.out k hlt
      obtain ⟨d, off2, rfl, hdlt, hcell2⟩ := HDS.out k hlt
      have hc0 : wr.cell? ⟨b, off + k * 2, none⟩ = some (.string l[k].1) := (hbel.cell hblt).trans (hcell 0 (by omega))
      have hc1 : wr.cell? ⟨b, off + k * 2 + 1, none⟩ = some (.int .i64 l[k].2) := (hbel.cell hblt).trans (hcell 1 (by omega))
      have hd0 : wr.cell? ⟨d, off2 + k * 2, none⟩ = some (.string l[k].1) := (hbel.cell hdlt).trans (hcell2 0 (by omega))
      have hd1 : wr.cell? ⟨d, off2 + k * 2 + 1, none⟩ = some (.int .i64 l[k].2) := (hbel.cell hdlt).trans (hcell2 1 (by omega))
      clear hcell hcell2
      have HE : Hid (∀ W, Calls Try.prog 30 #[.agg #[.string l[k].1, .int .i64 l[k].2], .agg #[.string l[k].1, .int .i64 l[k].2]] W fun e w' => e = .returned (.bool true) ∧ Below W.heap.size W w') := fun W => eqEntW l[k] W
      generalize l[k].1 = ys at *
      generalize l[k].2 = yn at *
      go_wp2
      go_region_with (go_at_call 30; refine (HE.out _).mono ?_; rintro e w2 ⟨rfl, hb2⟩)
      all_goals
        have hb3 : Below w.heap.size w w2 := hbel.drew.trans (hb2.mono hbel.size)
        go_wp2
        go_roundw
        case rel => exact ⟨k + 1, by omega, by go_num, hb3⟩
        case measure => simp [intOf]; omega
    · go_wp2
      go_ret
      exact ⟨rfl, hbel⟩

/-- How great entries are. -/
def szEn (l : List EntD) : Nat := (l.map fun p => 1 + p.1.size).sum
theorem szEn_take {l : List EntD} {k : Nat} (h : k < l.length) : szEn (l.take (k + 1)) = szEn (l.take k) + 1 + (l[k]).1.size := by
  unfold szEn
  rw [List.take_succ_eq_append_getElem h, List.map_append, List.sum_append]
  simp
  omega

set_option maxRecDepth 20000 in
set_option maxHeartbeats 400000 in
theorem szEnts (a : Option Addr) (cap : Nat) (l : List EntD) (left : Int) (w : World) (h0 : 0 ≤ left) (h1 : left ≤ 1048576) (hl : l.length ≤ maxLen) (hz : ∀ p ∈ l, p.1.size ≤ maxLen) (hr : RdF encN 2 w a l) :
    Calls Try.prog 8 #[.slice a l.length cap, .int .i64 left] w fun e w' => ∃ r : Int, e = .returned (.int .i64 r) ∧ (0 ≤ r → r + szEn l = left) ∧ -1 ≤ r ∧ r ≤ 1048576 ∧ Below w.heap.size w w' := by
  have HCS : Hid (∀ k (hk : k < l.length), ∃ b off, a = some ⟨b, off, none⟩ ∧ b < w.heap.size ∧ ∀ j, j < 2 → w.cell? ⟨b, off + k * 2 + j, none⟩ = (encN l[k])[j]?) := fun k hk => hr.at k hk
  have HZ : Hid (∀ p ∈ l, p.1.size ≤ maxLen) := hz
  have hm : l.length ≤ 9223372036854775807 := by unfold maxLen at hl; omega
  clear hr hz hl
  by_cases hbig : left < l.length
  · have hneg : left - (l.length : Int) < 0 := by omega
    go_enter Try.func8, Try.ntmps8
    go_wp2
    go_ret
    exact ⟨-1, rfl, fun h => by omega, by omega, by omega, Below.refl _ _⟩
  · have hneg : ¬ left - (l.length : Int) < 0 := by omega
    go_enter Try.func8, Try.ntmps8
    go_wp2
    go_loopw [1, 5] (fun x i wr => ∃ (m : Int) (k : Nat), x = .int .i64 m ∧ 0 ≤ m ∧ m ≤ 1048576 ∧ k ≤ l.length ∧ i = .int .i64 k ∧ Below w.heap.size w wr ∧ Hid (m + ((l.length : Int) - k) + (szEn (l.take k) : Int) = left)) (fun _ i _ => l.length - (intOf i).toNat)
    case atStart => exact ⟨left - (l.length : Int), 0, by go_num, by omega, by omega, Nat.zero_le _, rfl, Below.refl _ _, by show _ = _; simp [szEn]⟩
    case round =>
      obtain ⟨m, k, rfl, hm0, hm1, hk, rfl, hbel, HA⟩ := hrel
      by_cases hlt : k < l.length
      · obtain ⟨b, off, rfl, hblt, hcell⟩ := HCS.out k hlt
        have hc0 : wr.cell? ⟨b, off + k * 2, none⟩ = some (.string l[k].1) := (hbel.cell hblt).trans (hcell 0 (by omega))
        have hc1 : wr.cell? ⟨b, off + k * 2 + 1, none⟩ = some (.int .i64 l[k].2) := (hbel.cell hblt).trans (hcell 1 (by omega))
        have HS : Hid (szEn (l.take (k + 1)) = szEn (l.take k) + 1 + (l[k]).1.size) := szEn_take hlt
        have HY : Hid (∀ W, Calls Try.prog 23 #[.agg #[.string l[k].1, .int .i64 l[k].2], .int .i64 m] W fun e w' => ∃ r : Int, e = .returned (.int .i64 r) ∧ (0 ≤ r → r + l[k].1.size = m) ∧ -1 ≤ r ∧ r ≤ 1048576 ∧ Below W.heap.size W w') := fun W => szEntW l[k] m W hm0 hm1 (HZ.out l[k] (List.getElem_mem hlt))
        clear hcell
        generalize l[k].1 = ys at *
        generalize l[k].2 = yn at *
        go_wp2_with fail
        refine (HY.out _).mono ?_
        rintro e w2 ⟨r, rfl, hrm, hr0, hr1, hb2⟩
        have hb3 : Below w.heap.size w w2 := hbel.trans (hb2.mono hbel.size)
        by_cases hrn : r < 0
        · clear hrm
          go_wp2
          go_ret
          exact ⟨-1, rfl, fun h => by omega, by omega, by omega, hb3⟩
        · have HRM : Hid (r + (ys.size : Int) = m) := hrm (by omega)
          clear hrm
          go_wp2
          go_roundw
          case rel => exact ⟨r, k + 1, rfl, by omega, by omega, by omega, by go_num, hb3, by show _ = _; rw [HS.out]; have := HA.out; have := HRM.out; omega⟩
          case measure => simp [intOf]; omega
      · obtain rfl : k = l.length := by omega
        have HE : Hid (m + szEn l = left) := by have := HA.out; rw [List.take_length] at this; show _ = _; omega
        go_wp2
        go_ret
        exact ⟨m, rfl, fun _ => HE.out, by omega, by omega, hbel⟩
/-- The marks of n entries, from k on. -/
def marksEn (k n : Nat) : List EntD := (List.range n).map fun i => (markS (k + 2 * i), ((k + 2 * i + 1 : Nat) : Int))
def markToEn (l : List EntD) (k i : Nat) : List EntD := marksEn k i ++ l.drop i
theorem marksEn_len (k n : Nat) : (marksEn k n).length = n := by simp [marksEn]
theorem markToEn_zero (l : List EntD) (k : Nat) : markToEn l k 0 = l := by simp [markToEn, marksEn]
theorem markToEn_all (l : List EntD) (k : Nat) : markToEn l k l.length = marksEn k l.length := by simp [markToEn]
theorem markToEn_len (l : List EntD) (k i : Nat) (h : i ≤ l.length) : (markToEn l k i).length = l.length := by simp [markToEn, marksEn_len]; omega
theorem markToEn_set (l : List EntD) (k i : Nat) (h : i < l.length) : (markToEn l k i).set i (markS (k + 2 * i), ((k + 2 * i + 1 : Nat) : Int)) = markToEn l k (i + 1) := by
  unfold markToEn
  rw [List.set_append_right _ _ (by rw [marksEn_len]; exact Nat.le_refl _), marksEn_len, Nat.sub_self]
  have e : marksEn k (i + 1) = marksEn k i ++ [(markS (k + 2 * i), ((k + 2 * i + 1 : Nat) : Int))] := by unfold marksEn; rw [List.range_succ, List.map_append]; rfl
  rw [e, List.append_assoc, List.drop_eq_getElem_cons h]; rfl
theorem marksEn_at (k n i : Nat) (h : i < n) : (marksEn k n)[i]'(by rw [marksEn_len]; exact h) = (markS (k + 2 * i), ((k + 2 * i + 1 : Nat) : Int)) := by simp [marksEn]

set_option maxRecDepth 20000 in
set_option maxHeartbeats 400000 in
theorem markEnts (v : Value) (n k base : Nat) (l : List EntD) (w : World) (hn : n ≤ 536870912) (hk : k ≤ 2147483648) (hl : l.length = n) (hown : w.ownsRow base 41 2 v n (l.flatMap encN)) :
    Calls Try.prog 19 #[v, .int .i64 k] w fun e w' => e = .returned (.int .i64 ((k + 2 * n : Nat) : Int)) ∧ w'.ownsRow base 41 2 v n ((marksEn k n).flatMap encN) ∧ Only (blk v) w w' := by
  rcases hown.2 with ⟨rfl, rfl⟩ | ⟨g, cap, cur, rfl, hbg, hrest⟩
  · go_enter Try.func19, Try.ntmps19
    go_wp2
    go_loop [1, 5] (fun x i => x = .int .i64 k ∧ i = .int .i64 0) (fun _ _ => 0)
    case atStart => exact ⟨rfl, rfl⟩
    case round =>
      obtain ⟨rfl, rfl⟩ := hrel
      go_wp2
      go_ret
      exact ⟨by simp, World.ownsRow_nil _ _ _ _, Only.refl _ _⟩
  · clear hrest
    subst hl
    go_enter Try.func19, Try.ntmps19
    go_wp2
    go_loopw [1, 5] (fun x i wr => ∃ j : Nat, j ≤ l.length ∧ x = .int .i64 ((k + 2 * j : Nat) : Int) ∧ i = .int .i64 j ∧ wr.ownsRow base 41 2 (.slice (some ⟨g, 0, none⟩) l.length cap) l.length ((markToEn l k j).flatMap encN) ∧ Only (blk (.slice (some ⟨g, 0, none⟩) l.length cap)) w wr) (fun _ i _ => l.length - (intOf i).toNat)
    case atStart => exact ⟨0, Nat.zero_le _, by simp, rfl, by rw [markToEn_zero]; exact hown, Only.refl _ _⟩
    case round =>
      obtain ⟨j, hj, rfl, rfl, ho, hbel⟩ := hrel
      by_cases hlt : j < l.length
      · clear hown
        have hlen := markToEn_len l k j hj
        have hsz : j * 2 < l.length * 2 := by omega
        have HO : Hid (wr.ownsRow base 41 2 (.slice (some ⟨g, 0, none⟩) l.length cap) l.length ((markToEn l k j).flatMap encN)) := ho
        clear ho
        go_wp2_with fail
        refine (markT (k + 2 * j) _ (by omega)).mono ?_
        rintro e w1 ⟨rfl, hb2⟩
        have ho1 := ownsRow_below HO.out hb2 (Nat.le_refl _)
        have hbel1 := hbel.trans (Only.of_new hb2)
        have e01 := entCells (l := markToEn l k j) (i := j) (by omega)
        have hcd := ho1.cellAt (j * 2) (by omega)
        have hce := ho1.cellAt (j * 2 + 1) (by omega)
        rw [e01.1] at hcd
        rw [e01.2] at hce
        have hfd := ho1.frozenAt (j * 2)
        have hfe := ho1.frozenAt (j * 2 + 1)
        have hst := ((ho1.stored (j * 2) (.string (markS (k + 2 * j)))).1.stored (j * 2 + 1) (.int .i64 ((k + 2 * j + 1 : Nat) : Int))).1
        rw [entBoth _ j (by omega), markToEn_set l k j hlt] at hst
        have hb3 : Only (blk (.slice (some ⟨g, 0, none⟩) l.length cap)) w ((w1.setCell ⟨g, j * 2, none⟩ (.string (markS (k + 2 * j)))).setCell ⟨g, j * 2 + 1, none⟩ (.int .i64 ((k + 2 * j + 1 : Nat) : Int))) := (hbel1.setCell (p := ⟨g, j * 2, none⟩) rfl _).setCell (p := ⟨g, j * 2 + 1, none⟩) rfl _
        have HE : Hid (((w1.setCell ⟨g, j * 2, none⟩ (.string (markS (k + 2 * j)))).setCell ⟨g, j * 2 + 1, none⟩ (.int .i64 ((k + 2 * j + 1 : Nat) : Int))).ownsRow base 41 2 (.slice (some ⟨g, 0, none⟩) l.length cap) l.length ((markToEn l k (j + 1)).flatMap encN) ∧ Only (blk (.slice (some ⟨g, 0, none⟩) l.length cap)) w ((w1.setCell ⟨g, j * 2, none⟩ (.string (markS (k + 2 * j)))).setCell ⟨g, j * 2 + 1, none⟩ (.int .i64 ((k + 2 * j + 1 : Nat) : Int)))) := ⟨hst, hb3⟩
        obtain ⟨old, hcd2⟩ : ∃ o, w1.cell? ⟨g, j * 2, none⟩ = some (.string o) := ⟨_, hcd⟩
        obtain ⟨old2, hce2⟩ : ∃ o, w1.cell? ⟨g, j * 2 + 1, none⟩ = some (.int .i64 o) := ⟨_, hce⟩
        clear ho1 hbel1 hb2 hcd hce e01 hst hb3 HO hlen hbel
        generalize markS (k + 2 * j) = ms at *
        rw [show ((k + 2 * j + 1 : Nat) : Int) = ((k + 2 * j : Nat) : Int) + 1 by omega] at HE
        go_wp2
        go_roundw
        case rel => exact ⟨j + 1, by omega, by go_num, by go_num, HE.out.1, HE.out.2⟩
        case measure => simp [intOf]; omega
      · obtain rfl : j = l.length := by omega
        go_wp2
        go_ret
        exact ⟨by simp, by rw [← markToEn_all]; exact ho, hbel⟩

set_option maxRecDepth 20000 in
set_option maxHeartbeats 400000 in
theorem heldEnts (a : Option Addr) (cap n k : Nat) (w : World) (hn : n ≤ 536870912) (hk : k ≤ 2147483648) (hr : RdF encN 2 w a (marksEn k n)) :
    Calls Try.prog 20 #[.slice a n cap, .int .i64 k] w fun e w' => e = .returned (.int .i64 ((k + 2 * n : Nat) : Int)) ∧ Below w.heap.size w w' := by
  have HCS : Hid (∀ j, j < n → ∃ b off, a = some ⟨b, off, none⟩ ∧ b < w.heap.size ∧ w.cell? ⟨b, off + j * 2, none⟩ = some (.string (markS (k + 2 * j))) ∧ w.cell? ⟨b, off + j * 2 + 1, none⟩ = some (.int .i64 ((k + 2 * j + 1 : Nat) : Int))) := by
    intro j hj
    obtain ⟨b, off, h1, h2, h3⟩ := hr.at j (by rw [marksEn_len]; exact hj)
    rw [marksEn_at k n j hj] at h3
    exact ⟨b, off, h1, h2, h3 0 (by omega), h3 1 (by omega)⟩
  clear hr
  go_enter Try.func20, Try.ntmps20
  go_wp2
  go_loopw [1, 5] (fun x i wr => ∃ j : Nat, j ≤ n ∧ x = .int .i64 ((k + 2 * j : Nat) : Int) ∧ i = .int .i64 j ∧ Below w.heap.size w wr) (fun _ i _ => n - (intOf i).toNat)
  case atStart => exact ⟨0, Nat.zero_le _, by simp, rfl, Below.refl _ _⟩
  case round =>
    obtain ⟨j, hj, rfl, rfl, hbel⟩ := hrel
    by_cases hlt : j < n
    · obtain ⟨b, off, rfl, hblt, hc0, hc1⟩ := HCS.out j hlt
      have hd0 : wr.cell? ⟨b, off + j * 2, none⟩ = some (.string (markS (k + 2 * j))) := (hbel.cell hblt).trans hc0
      have hd1 : wr.cell? ⟨b, off + j * 2 + 1, none⟩ = some (.int .i64 (((k + 2 * j : Nat) : Int) + 1)) := (hbel.cell hblt).trans (hc1.trans (by congr 2))
      have hgr : b < wr.heap.size := by have := hbel.size; omega
      have HC : Hid (∀ w1 : World, Calls Try.prog 39 #[.int .i64 ((k + 2 * j : Nat) : Int)] w1 fun e w' => e = .returned (.string (markS (k + 2 * j))) ∧ Below w1.heap.size w1 w') := fun w1 => markT (k + 2 * j) w1 (by omega)
      generalize markS (k + 2 * j) = ms at *
      clear hc0 hc1
      go_wp2
      go_region_with (go_at_call 39; refine (HC.out _).mono ?_; rintro e w1 ⟨rfl, hb1⟩; have hd2 : w1.cell? ⟨b, off + j * 2, none⟩ = some (.string ms) := (hb1.cell (by exact hgr)).trans hd0; have hd3 : w1.cell? ⟨b, off + j * 2 + 1, none⟩ = some (.int .i64 (((k + 2 * j : Nat) : Int) + 1)) := (hb1.cell (by exact hgr)).trans hd1)
      all_goals
        have hb2 : Below w.heap.size w w1 := hbel.drew.trans (hb1.mono hbel.size)
        clear hb1 hbel hd0 hd1
        go_wp2
        go_roundw
        case rel => exact ⟨j + 1, by omega, by go_num, by go_num, hb2⟩
        case measure => simp [intOf]; omega
    · obtain rfl : j = n := by omega
      go_wp2
      go_ret
      exact ⟨by simp, hbel⟩
end Go.Proofs.Ytogpgocldgdeaaa
