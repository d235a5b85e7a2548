/-
  Own text: the laws' helpers over rows of items (a path, a kind, what it holds, a time): copies, their size, alike, marks.
-/
import Derived.Test.YtmnngfaelanbcaaMarkP
namespace Go.Proofs.Ytmnngfaelanbcaa
open Go.RowKit

/-- An item: a path, a kind, what it holds, a time. -/
structure ItD where
  p : ByteArray
  k : Int
  d : ByteArray
  t : Int
deriving DecidableEq
def encI (x : ItD) : List Value := [.string x.p, .int .i64 x.k, .string x.d, .int .i64 x.t]
def aggI (x : ItD) : Value := .agg #[.string x.p, .int .i64 x.k, .string x.d, .int .i64 x.t]
def zeroI : ItD := ⟨⟨#[]⟩, 0, ⟨#[]⟩, 0⟩
theorem encI_len (x : ItD) : (encI x).length = 4 := rfl

set_option maxRecDepth 20000 in
theorem toItemW (x : ItD) (w : World) :
    Calls Try.prog 45 #[aggI x] w fun e w' => e = .returned (aggI x) ∧ Below w.heap.size w w' := by
  obtain ⟨p, k, d, t⟩ := x
  unfold aggI
  go_enter Try.func45, Try.ntmps45
  go_wp2
  go_returns
  exact ⟨rfl, below3 _ _ _ _⟩

set_option maxRecDepth 20000 in
theorem eqItemW (x : ItD) (w : World) :
    Calls Try.prog 14 #[aggI x, aggI x] w fun e w' => e = .returned (.bool true) ∧ Below w.heap.size w w' := by
  obtain ⟨p, k, d, t⟩ := x
  unfold aggI
  go_enter Try.func14, Try.ntmps14
  go_wp2
  go_ret
  exact ⟨rfl, below2 _ _ _⟩

set_option maxRecDepth 20000 in
theorem szItemW (x : ItD) (m : Int) (w : World) (hm0 : 0 ≤ m) (hm1 : m ≤ 1048576) (hp : x.p.size ≤ maxLen) (hd : x.d.size ≤ maxLen) :
    Calls Try.prog 40 #[aggI x, .int .i64 m] w fun e w' => ∃ r : Int, e = .returned (.int .i64 r) ∧ (0 ≤ r → r + x.p.size + x.d.size = m) ∧ -1 ≤ r ∧ r ≤ 1048576 ∧ Below w.heap.size w w' := by
  obtain ⟨p, k, d, t⟩ := x
  have hp' : p.size ≤ 9223372036854775807 := by unfold maxLen at hp; simp at hp; omega
  have hd' : d.size ≤ 9223372036854775807 := by unfold maxLen at hd; simp at hd; omega
  clear hp hd
  unfold aggI
  by_cases hlt : m - (p.size : Int) < 0
  · go_enter Try.func40, Try.ntmps40
    go_wp2
    go_ret
    exact ⟨-1, rfl, fun h => by omega, by omega, by omega, below1 _ _⟩
  · by_cases hlt2 : m - (p.size : Int) - (d.size : Int) < 0
    · go_enter Try.func40, Try.ntmps40
      go_wp2
      go_ret
      exact ⟨-1, rfl, fun h => by omega, by omega, by omega, below1 _ _⟩
    · go_enter Try.func40, Try.ntmps40
      go_wp2
      go_ret
      exact ⟨m - p.size - d.size, rfl, fun h => by omega, by omega, by omega, below1 _ _⟩

theorem Try.infoIt : (Try.prog.info? 34).map (fun i => (i.zero, i.size, i.bytes)) = some (some (.agg #[.string ⟨#[]⟩, .int .i64 0, .string ⟨#[]⟩, .int .i64 0]), 4, 48) := by kernel_rfl

theorem itA (l : List ItD) (i : Nat) (h : i < l.length) (s : ByteArray) (n : Int) : ((l.flatMap encI).set (i * 4) (.string s)).set (i * 4 + 1) (.int .i64 n) = (l.set i ⟨s, n, l[i].d, l[i].t⟩).flatMap encI := by
  have e0 := flat_set encI_len l i h 0 ⟨s, l[i].k, l[i].d, l[i].t⟩ (.string s) (by omega) rfl
  have e1 := flat_set encI_len (l.set i ⟨s, l[i].k, l[i].d, l[i].t⟩) i (by simpa using h) 1 ⟨s, n, l[i].d, l[i].t⟩ (.int .i64 n) (by omega) (by rw [List.getElem_set_self]; rfl)
  simp only [Nat.add_zero] at e0
  rw [e0, e1, List.set_set]
theorem itB (l : List ItD) (i : Nat) (h : i < l.length) (s : ByteArray) (n : Int) : ((l.flatMap encI).set (i * 4 + 2) (.string s)).set (i * 4 + 3) (.int .i64 n) = (l.set i ⟨l[i].p, l[i].k, s, n⟩).flatMap encI := by
  have e0 := flat_set encI_len l i h 2 ⟨l[i].p, l[i].k, s, l[i].t⟩ (.string s) (by omega) rfl
  have e1 := flat_set encI_len (l.set i ⟨l[i].p, l[i].k, s, l[i].t⟩) i (by simpa using h) 3 ⟨l[i].p, l[i].k, s, n⟩ (.int .i64 n) (by omega) (by rw [List.getElem_set_self]; rfl)
  rw [e0, e1, List.set_set]
theorem itAll (l : List ItD) (i : Nat) (h : i < l.length) (x : ItD) : ((((l.flatMap encI).set (i * 4) (.string x.p)).set (i * 4 + 1) (.int .i64 x.k)).set (i * 4 + 2) (.string x.d)).set (i * 4 + 3) (.int .i64 x.t) = (l.set i x).flatMap encI := by
  rw [itA l i h, itB _ i (by simpa using h), List.set_set]
  simp only [List.getElem_set_self]
theorem itCells {l : List ItD} {i : Nat} (h : i < l.length) : (l.flatMap encI)[i * 4]? = some (.string l[i].p) ∧ (l.flatMap encI)[i * 4 + 1]? = some (.int .i64 l[i].k) ∧ (l.flatMap encI)[i * 4 + 2]? = some (.string l[i].d) ∧ (l.flatMap encI)[i * 4 + 3]? = some (.int .i64 l[i].t) := by
  have e0 := flat_get encI_len l i h 0 (by omega)
  have e1 := flat_get encI_len l i h 1 (by omega)
  have e2 := flat_get encI_len l i h 2 (by omega)
  have e3 := flat_get encI_len l i h 3 (by omega)
  exact ⟨by simpa [encI] using e0, by simpa [encI] using e1, by simpa [encI] using e2, by simpa [encI] using e3⟩
/-- An item's four cells at a place. -/
def ItAt (w : World) (b o : Nat) (x : ItD) : Prop := w.cell? ⟨b, o, none⟩ = some (.string x.p) ∧ w.cell? ⟨b, o + 1, none⟩ = some (.int .i64 x.k) ∧ w.cell? ⟨b, o + 2, none⟩ = some (.string x.d) ∧ w.cell? ⟨b, o + 3, none⟩ = some (.int .i64 x.t)
theorem RdIt.at {w : World} {a : Option Addr} {l : List ItD} (h : RdF encI 4 w a l) (k : Nat) (hk : k < l.length) : ∃ b off, a = some ⟨b, off, none⟩ ∧ b < w.heap.size ∧ ItAt w b (off + k * 4) l[k] := by
  obtain ⟨b, off, h1, h2, h3⟩ := h.at k hk
  exact ⟨b, off, h1, h2, by have := h3 0 (by omega); simpa [encI] using this, h3 1 (by omega), h3 2 (by omega), h3 3 (by omega)⟩
theorem ItAt.below {B : Nat} {w w' : World} {b o : Nat} {x : ItD} (h : ItAt w b o x) (hb : Below B w w') (hlt : b < B) : ItAt w' b o x :=
  ⟨(hb.cell hlt).trans h.1, (hb.cell hlt).trans h.2.1, (hb.cell hlt).trans h.2.2.1, (hb.cell hlt).trans h.2.2.2⟩

set_option maxRecDepth 20000 in
set_option maxHeartbeats 400000 in
theorem toItems (a : Option Addr) (cap : Nat) (l : List ItD) (w : World) (hl : l.length ≤ 1048576) (hr : RdF encI 4 w a l) :
    Calls Try.prog 27 #[.slice a l.length cap] w fun e w' => ∃ v, e = .returned v ∧ w'.ownsRow w.heap.size 34 4 v l.length (l.flatMap encI) ∧ Below w.heap.size w w' := by
  obtain ⟨i0, hi, hz0, hz1, hz2⟩ := info_parts Try.infoIt
  have HCS : Hid (∀ k (hk : k < l.length), ∃ b off, a = some ⟨b, off, none⟩ ∧ b < w.heap.size ∧ ItAt w b (off + k * 4) l[k]) := fun k hk => RdIt.at hr k hk
  clear hr
  go_enter Try.func27, Try.ntmps27
  go_wp2_with (at_make; refine wpList_make_full _ rfl _ _ 27 rfl w.heap.size 34 i0 (.agg #[.string ⟨#[]⟩, .int .i64 0, .string ⟨#[]⟩, .int .i64 0]) 4 Try.underlying27 hi hz0 hz1 _ _ _ _ l.length rfl rfl rfl rfl (by rw [hz2]; omega) (by unfold maxLen; omega) (Nat.le_refl _) ?_)
  intro w1 hown hgrow
  have hown1 : w1.ownsRow w.heap.size 34 4 (.slice (some ⟨w.heap.size, 0, none⟩) l.length l.length) l.length ((fillF zeroI l 0).flatMap encI) := by
    rw [fillF_zero, ← made_flat encI_len _ #[.string ⟨#[]⟩, .int .i64 0, .string ⟨#[]⟩, .int .i64 0] rfl (by omega)]
    exact hown
  clear hown
  go_wp2
  go_loopw [4] (fun i wr => ∃ k : Nat, k ≤ l.length ∧ i = .int .i64 k ∧ wr.ownsRow w.heap.size 34 4 (.slice (some ⟨w.heap.size, 0, none⟩) l.length l.length) l.length ((fillF zeroI l k).flatMap encI) ∧ Below w.heap.size w wr) (fun i _ => l.length - (intOf i).toNat)
  case atStart => exact ⟨0, Nat.zero_le _, rfl, hown1, (Below.refl _ _).grown hgrow (Nat.le_refl _) (fun k h => by simp at h)⟩
  case round =>
    obtain ⟨k, hk, rfl, ho, hbel⟩ := hrel
    by_cases hlt : k < l.length
    · obtain ⟨b, off, rfl, hblt, hcell⟩ := HCS.out k hlt
      obtain ⟨c0, c1, c2, c3⟩ := hcell.below hbel hblt
      clear hcell
      generalize hy : l[k] = y at *
      obtain ⟨yp, yk, yd, yt⟩ := y
      simp only at c0 c1 c2 c3
      go_wp2_with fail
      refine (toItemW ⟨yp, yk, yd, yt⟩ _).mono ?_
      rintro e w2 ⟨rfl, hb2⟩
      have ho2 := ownsRow_below ho hb2 (Nat.le_refl _)
      have hbel2 : Below w.heap.size w w2 := hbel.trans (hb2.mono hbel.size)
      have hf0 := ho2.frozenAt (k * 4)
      have hf1 := ho2.frozenAt (k * 4 + 1)
      have hf2 := ho2.frozenAt (k * 4 + 2)
      have hf3 := ho2.frozenAt (k * 4 + 3)
      have hx0 := ho2.cellAt (k * 4) (by omega)
      have hx1 := ho2.cellAt (k * 4 + 1) (by omega)
      have hx2 := ho2.cellAt (k * 4 + 2) (by omega)
      have hx3 := ho2.cellAt (k * 4 + 3) (by omega)
      have hlen := fillF_len zeroI l k hk
      have e01 := itCells (l := fillF zeroI l k) (i := k) (by omega)
      rw [e01.1] at hx0
      rw [e01.2.1] at hx1
      rw [e01.2.2.1] at hx2
      rw [e01.2.2.2] at hx3
      have hst := ((((ho2.stored (k * 4) (.string yp)).1.stored (k * 4 + 1) (.int .i64 yk)).1.stored (k * 4 + 2) (.string yd)).1.stored (k * 4 + 3) (.int .i64 yt)).1
      have ha := itAll (fillF zeroI l k) k (by omega) ⟨yp, yk, yd, yt⟩
      simp only at ha
      rw [ha, ← hy, fillF_set _ l k hlt] at hst
      have hb3 : Below w.heap.size w ((((w2.setCell ⟨w.heap.size, k * 4, none⟩ (.string yp)).setCell ⟨w.heap.size, k * 4 + 1, none⟩ (.int .i64 yk)).setCell ⟨w.heap.size, k * 4 + 2, none⟩ (.string yd)).setCell ⟨w.heap.size, k * 4 + 3, none⟩ (.int .i64 yt)) := (((hbel2.setCell (Nat.le_refl _) _).setCell (Nat.le_refl _) _).setCell (Nat.le_refl _) _).setCell (Nat.le_refl _) _
      clear e01 ho hbel hb2 ho2 hbel2 hy ha
      unfold aggI
      go_wp2
      go_roundw
      case rel => exact ⟨k + 1, by omega, by go_num, hst, hb3⟩
      case measure => simp [intOf]; omega
    · obtain rfl : k = l.length := by omega
      go_wp2
      go_ret
      rw [fillF_all] at ho
      exact ⟨_, rfl, ho, hbel⟩

set_option maxRecDepth 20000 in
set_option maxHeartbeats 400000 in
theorem eqItems (a c : Option Addr) (ca cc : Nat) (l : List ItD) (w : World) (hl : l.length ≤ 4194304) (hr : RdF encI 4 w a l) (hs : RdF encI 4 w c l) :
    Calls Try.prog 32 #[.slice a l.length ca, .slice c l.length cc] w fun e w' => e = .returned (.bool true) ∧ Below w.heap.size w w' := by
  have HCS : Hid (∀ k (hk : k < l.length), ∃ b off, a = some ⟨b, off, none⟩ ∧ b < w.heap.size ∧ ItAt w b (off + k * 4) l[k]) := fun k hk => RdIt.at hr k hk
  have HDS : Hid (∀ k (hk : k < l.length), ∃ b off, c = some ⟨b, off, none⟩ ∧ b < w.heap.size ∧ ItAt w b (off + k * 4) l[k]) := fun k hk => RdIt.at hs k hk
  clear hr hs
  go_enter Try.func32, Try.ntmps32
  go_wp2
  go_loopw [5] (fun i wr => ∃ k : Nat, k ≤ l.length ∧ i = .int .i64 k ∧ Below w.heap.size w wr) (fun i _ => l.length - (intOf i).toNat)
  case atStart => exact ⟨0, Nat.zero_le _, rfl, Below.refl _ _⟩
  case round =>
    obtain ⟨k, hk, rfl, hbel⟩ := hrel
    by_cases hlt : k < l.length
    · obtain ⟨b, off, rfl, hblt, hcell⟩ := HCS.out k hlt
      obtain ⟨d, off2, rfl, hdlt, hcell2⟩ := HDS.out k hlt
      obtain ⟨c0, c1, c2, c3⟩ := hcell.below hbel hblt
      obtain ⟨d0, d1, d2, d3⟩ := hcell2.below hbel hdlt
      clear hcell hcell2
      have HE : Hid (∀ W, Calls Try.prog 14 #[.agg #[.string l[k].p, .int .i64 l[k].k, .string l[k].d, .int .i64 l[k].t], .agg #[.string l[k].p, .int .i64 l[k].k, .string l[k].d, .int .i64 l[k].t]] W fun e w' => e = .returned (.bool true) ∧ Below W.heap.size W w') := fun W => eqItemW l[k] W
      generalize l[k].p = yp at *
      generalize l[k].k = yk at *
      generalize l[k].d = yd at *
      generalize l[k].t = yt at *
      go_wp2
      go_region_with (go_at_call 14; refine (HE.out _).mono ?_; rintro e w2 ⟨rfl, hb2⟩)
      all_goals
        have hb3 : Below w.heap.size w w2 := hbel.drew.trans (hb2.mono hbel.size)
        go_wp2
        go_roundw
        case rel => exact ⟨k + 1, by omega, by go_num, hb3⟩
        case measure => simp [intOf]; omega
    · go_wp2
      go_ret
      exact ⟨rfl, hbel⟩

/-- How great items are. -/
def szIt (l : List ItD) : Nat := (l.map fun x => 1 + x.p.size + x.d.size).sum
theorem szIt_take {l : List ItD} {k : Nat} (h : k < l.length) : szIt (l.take (k + 1)) = szIt (l.take k) + 1 + (l[k]).p.size + (l[k]).d.size := by
  unfold szIt
  rw [List.take_succ_eq_append_getElem h, List.map_append, List.sum_append]
  simp
  omega

set_option maxRecDepth 20000 in
set_option maxHeartbeats 400000 in
theorem szItems (a : Option Addr) (cap : Nat) (l : List ItD) (left : Int) (w : World) (h0 : 0 ≤ left) (h1 : left ≤ 1048576) (hl : l.length ≤ maxLen) (hz : ∀ x ∈ l, x.p.size ≤ maxLen ∧ x.d.size ≤ maxLen) (hr : RdF encI 4 w a l) :
    Calls Try.prog 23 #[.slice a l.length cap, .int .i64 left] w fun e w' => ∃ r : Int, e = .returned (.int .i64 r) ∧ (0 ≤ r → r + szIt l = left) ∧ -1 ≤ r ∧ r ≤ 1048576 ∧ Below w.heap.size w w' := by
  have HCS : Hid (∀ k (hk : k < l.length), ∃ b off, a = some ⟨b, off, none⟩ ∧ b < w.heap.size ∧ ItAt w b (off + k * 4) l[k]) := fun k hk => RdIt.at hr k hk
  have HZ : Hid (∀ x ∈ l, x.p.size ≤ maxLen ∧ x.d.size ≤ maxLen) := hz
  have hm : l.length ≤ 9223372036854775807 := by unfold maxLen at hl; omega
  clear hr hz hl
  by_cases hbig : left < l.length
  · have hneg : left - (l.length : Int) < 0 := by omega
    go_enter Try.func23, Try.ntmps23
    go_wp2
    go_ret
    exact ⟨-1, rfl, fun h => by omega, by omega, by omega, Below.refl _ _⟩
  · have hneg : ¬ left - (l.length : Int) < 0 := by omega
    go_enter Try.func23, Try.ntmps23
    go_wp2
    go_loopw [1, 5] (fun x i wr => ∃ (m : Int) (k : Nat), x = .int .i64 m ∧ 0 ≤ m ∧ m ≤ 1048576 ∧ k ≤ l.length ∧ i = .int .i64 k ∧ Below w.heap.size w wr ∧ Hid (m + ((l.length : Int) - k) + (szIt (l.take k) : Int) = left)) (fun _ i _ => l.length - (intOf i).toNat)
    case atStart => exact ⟨left - (l.length : Int), 0, by go_num, by omega, by omega, Nat.zero_le _, rfl, Below.refl _ _, by show _ = _; simp [szIt]⟩
    case round =>
      obtain ⟨m, k, rfl, hm0, hm1, hk, rfl, hbel, HA⟩ := hrel
      by_cases hlt : k < l.length
      · obtain ⟨b, off, rfl, hblt, hcell⟩ := HCS.out k hlt
        obtain ⟨c0, c1, c2, c3⟩ := hcell.below hbel hblt
        have HS : Hid (szIt (l.take (k + 1)) = szIt (l.take k) + 1 + (l[k]).p.size + (l[k]).d.size) := szIt_take hlt
        have HY : Hid (∀ W, Calls Try.prog 40 #[.agg #[.string l[k].p, .int .i64 l[k].k, .string l[k].d, .int .i64 l[k].t], .int .i64 m] W fun e w' => ∃ r : Int, e = .returned (.int .i64 r) ∧ (0 ≤ r → r + l[k].p.size + l[k].d.size = m) ∧ -1 ≤ r ∧ r ≤ 1048576 ∧ Below W.heap.size W w') := fun W => szItemW l[k] m W hm0 hm1 (HZ.out l[k] (List.getElem_mem hlt)).1 (HZ.out l[k] (List.getElem_mem hlt)).2
        clear hcell
        generalize l[k].p = yp at *
        generalize l[k].k = yk at *
        generalize l[k].d = yd at *
        generalize l[k].t = yt at *
        go_wp2_with fail
        refine (HY.out _).mono ?_
        rintro e w2 ⟨r, rfl, hrm, hr0, hr1, hb2⟩
        have hb3 : Below w.heap.size w w2 := hbel.trans (hb2.mono hbel.size)
        by_cases hrn : r < 0
        · clear hrm
          go_wp2
          go_ret
          exact ⟨-1, rfl, fun h => by omega, by omega, by omega, hb3⟩
        · have HRM : Hid (r + (yp.size : Int) + (yd.size : Int) = m) := hrm (by omega)
          clear hrm
          go_wp2
          go_roundw
          case rel => exact ⟨r, k + 1, rfl, by omega, by omega, by omega, by go_num, hb3, by show _ = _; rw [HS.out]; have := HA.out; have := HRM.out; omega⟩
          case measure => simp [intOf]; omega
      · obtain rfl : k = l.length := by omega
        have HE : Hid (m + szIt l = left) := by have := HA.out; rw [List.take_length] at this; show _ = _; omega
        go_wp2
        go_ret
        exact ⟨m, rfl, fun _ => HE.out, by omega, by omega, hbel⟩

/-- The marks of n items, from k on. -/
def markI (k : Nat) : ItD := ⟨markS k, ((k + 1 : Nat) : Int), markS (k + 2), ((k + 3 : Nat) : Int)⟩
def marksIt (k n : Nat) : List ItD := (List.range n).map fun i => markI (k + 4 * i)
def markToIt (l : List ItD) (k i : Nat) : List ItD := marksIt k i ++ l.drop i
theorem marksIt_len (k n : Nat) : (marksIt k n).length = n := by simp [marksIt]
theorem markToIt_zero (l : List ItD) (k : Nat) : markToIt l k 0 = l := by simp [markToIt, marksIt]
theorem markToIt_all (l : List ItD) (k : Nat) : markToIt l k l.length = marksIt k l.length := by simp [markToIt]
theorem markToIt_len (l : List ItD) (k i : Nat) (h : i ≤ l.length) : (markToIt l k i).length = l.length := by simp [markToIt, marksIt_len]; omega
theorem markToIt_set (l : List ItD) (k i : Nat) (h : i < l.length) : (markToIt l k i).set i (markI (k + 4 * i)) = markToIt l k (i + 1) := by
  unfold markToIt
  rw [List.set_append_right _ _ (by rw [marksIt_len]; exact Nat.le_refl _), marksIt_len, Nat.sub_self]
  have e : marksIt k (i + 1) = marksIt k i ++ [markI (k + 4 * i)] := by unfold marksIt; rw [List.range_succ, List.map_append]; rfl
  rw [e, List.append_assoc, List.drop_eq_getElem_cons h]; rfl
theorem marksIt_at (k n i : Nat) (h : i < n) : (marksIt k n)[i]'(by rw [marksIt_len]; exact h) = markI (k + 4 * i) := by simp [marksIt]

set_option maxRecDepth 20000 in
set_option maxHeartbeats 800000 in
theorem markItems (v : Value) (n k base : Nat) (l : List ItD) (w : World) (hn : n ≤ 536870912) (hk : k ≤ 2147483648) (hl : l.length = n) (hown : w.ownsRow base 34 4 v n (l.flatMap encI)) :
    Calls Try.prog 38 #[v, .int .i64 k] w fun e w' => e = .returned (.int .i64 ((k + 4 * n : Nat) : Int)) ∧ w'.ownsRow base 34 4 v n ((marksIt k n).flatMap encI) ∧ Only (blk v) w w' := by
  rcases hown.2 with ⟨rfl, rfl⟩ | ⟨g, cap, cur, rfl, hbg, hrest⟩
  · go_enter Try.func38, Try.ntmps38
    go_wp2
    go_loop [1, 5] (fun x i => x = .int .i64 k ∧ i = .int .i64 0) (fun _ _ => 0)
    case atStart => exact ⟨rfl, rfl⟩
    case round =>
      obtain ⟨rfl, rfl⟩ := hrel
      go_wp2
      go_ret
      exact ⟨by simp, World.ownsRow_nil _ _ _ _, Only.refl _ _⟩
  · clear hrest
    subst hl
    go_enter Try.func38, Try.ntmps38
    go_wp2
    go_loopw [1, 5] (fun x i wr => ∃ j : Nat, j ≤ l.length ∧ x = .int .i64 ((k + 4 * j : Nat) : Int) ∧ i = .int .i64 j ∧ wr.ownsRow base 34 4 (.slice (some ⟨g, 0, none⟩) l.length cap) l.length ((markToIt l k j).flatMap encI) ∧ Only (blk (.slice (some ⟨g, 0, none⟩) l.length cap)) w wr) (fun _ i _ => l.length - (intOf i).toNat)
    case atStart => exact ⟨0, Nat.zero_le _, by simp, rfl, by rw [markToIt_zero]; exact hown, Only.refl _ _⟩
    case round =>
      obtain ⟨j, hj, rfl, rfl, ho, hbel⟩ := hrel
      by_cases hlt : j < l.length
      · clear hown
        have hlen := markToIt_len l k j hj
        have hsz : j * 4 < l.length * 4 := by omega
        have HO : Hid (wr.ownsRow base 34 4 (.slice (some ⟨g, 0, none⟩) l.length cap) l.length ((markToIt l k j).flatMap encI)) := ho
        clear ho
        go_wp2_with fail
        refine (markT (k + 4 * j) _ (by omega)).mono ?_
        rintro e w1 ⟨rfl, hb2⟩
        have ho1 := ownsRow_below HO.out hb2 (Nat.le_refl _)
        have hbel1 := hbel.trans (Only.of_new hb2)
        have e01 := itCells (l := markToIt l k j) (i := j) (by omega)
        have hcd := ho1.cellAt (j * 4) (by omega)
        have hce := ho1.cellAt (j * 4 + 1) (by omega)
        rw [e01.1] at hcd
        rw [e01.2.1] at hce
        have hfd := ho1.frozenAt (j * 4)
        have hfe := ho1.frozenAt (j * 4 + 1)
        have hst := ((ho1.stored (j * 4) (.string (markS (k + 4 * j)))).1.stored (j * 4 + 1) (.int .i64 ((k + 4 * j + 1 : Nat) : Int))).1
        rw [itA _ j (by omega)] at hst
        have hb3 : Only (blk (.slice (some ⟨g, 0, none⟩) l.length cap)) w ((w1.setCell ⟨g, j * 4, none⟩ (.string (markS (k + 4 * j)))).setCell ⟨g, j * 4 + 1, none⟩ (.int .i64 ((k + 4 * j + 1 : Nat) : Int))) := (hbel1.setCell (p := ⟨g, j * 4, none⟩) rfl _).setCell (p := ⟨g, j * 4 + 1, none⟩) rfl _
        have HE : Hid (((w1.setCell ⟨g, j * 4, none⟩ (.string (markS (k + 4 * j)))).setCell ⟨g, j * 4 + 1, none⟩ (.int .i64 ((k + 4 * j + 1 : Nat) : Int))).ownsRow base 34 4 (.slice (some ⟨g, 0, none⟩) l.length cap) l.length (((markToIt l k j).set j ⟨markS (k + 4 * j), ((k + 4 * j + 1 : Nat) : Int), (markToIt l k j)[j].d, (markToIt l k j)[j].t⟩).flatMap encI) ∧ Only (blk (.slice (some ⟨g, 0, none⟩) l.length cap)) w ((w1.setCell ⟨g, j * 4, none⟩ (.string (markS (k + 4 * j)))).setCell ⟨g, j * 4 + 1, none⟩ (.int .i64 ((k + 4 * j + 1 : Nat) : Int)))) := ⟨hst, hb3⟩
        obtain ⟨old, hcd2⟩ : ∃ o, w1.cell? ⟨g, j * 4, none⟩ = some (.string o) := ⟨_, hcd⟩
        obtain ⟨old2, hce2⟩ : ∃ o, w1.cell? ⟨g, j * 4 + 1, none⟩ = some (.int .i64 o) := ⟨_, hce⟩
        have HM : Hid (∃ s, s = markS (k + 4 * j)) := ⟨_, rfl⟩
        clear ho1 hbel1 hb2 hcd hce e01 hst hb3 HO hbel
        generalize hms : markS (k + 4 * j) = ms at *
        rw [show ((k + 4 * j + 1 : Nat) : Int) = ((k + 4 * j : Nat) : Int) + 1 by omega] at HE
        have HT2 : Hid (∀ w1 : World, Calls Try.prog 39 #[.int .i64 ((k : Int) + 4 * (j : Int) + 1 + 1)] w1 fun e w' => e = .returned (.string (markS (k + 4 * j + 2))) ∧ Below w1.heap.size w1 w') := fun w1 => by
          rw [show (k : Int) + 4 * (j : Int) + 1 + 1 = ((k + 4 * j + 2 : Nat) : Int) by omega]
          exact markT (k + 4 * j + 2) w1 (by omega)
        go_wp2_with fail
        refine (HT2.out _).mono ?_
        rintro e w2 ⟨rfl, hb4⟩
        have ho2 := ownsRow_below HE.out.1 hb4 (Nat.le_refl _)
        have hbel2 := HE.out.2.trans (Only.of_new hb4)
        have e23 := itCells (l := (markToIt l k j).set j ⟨ms, ((k + 4 * j : Nat) : Int) + 1, (markToIt l k j)[j].d, (markToIt l k j)[j].t⟩) (i := j) (by simp; omega)
        have hcf := ho2.cellAt (j * 4 + 2) (by omega)
        have hcg := ho2.cellAt (j * 4 + 3) (by omega)
        rw [e23.2.2.1] at hcf
        rw [e23.2.2.2] at hcg
        have hff := ho2.frozenAt (j * 4 + 2)
        have hfg := ho2.frozenAt (j * 4 + 3)
        have hst := ((ho2.stored (j * 4 + 2) (.string (markS (k + 4 * j + 2)))).1.stored (j * 4 + 3) (.int .i64 ((k + 4 * j + 3 : Nat) : Int))).1
        rw [itB _ j (by simp; omega), List.set_set] at hst
        simp only [List.getElem_set_self] at hst
        rw [show ItD.mk ms (((k + 4 * j : Nat) : Int) + 1) (markS (k + 4 * j + 2)) ((k + 4 * j + 3 : Nat) : Int) = markI (k + 4 * j) by unfold markI; rw [hms]; congr 1, markToIt_set l k j hlt] at hst
        have hb3 : Only (blk (.slice (some ⟨g, 0, none⟩) l.length cap)) w ((w2.setCell ⟨g, j * 4 + 2, none⟩ (.string (markS (k + 4 * j + 2)))).setCell ⟨g, j * 4 + 3, none⟩ (.int .i64 ((k + 4 * j + 3 : Nat) : Int))) := (hbel2.setCell (p := ⟨g, j * 4 + 2, none⟩) rfl _).setCell (p := ⟨g, j * 4 + 3, none⟩) rfl _
        obtain ⟨old3, hcf2⟩ : ∃ o, w2.cell? ⟨g, j * 4 + 2, none⟩ = some (.string o) := ⟨_, hcf⟩
        obtain ⟨old4, hcg2⟩ : ∃ o, w2.cell? ⟨g, j * 4 + 3, none⟩ = some (.int .i64 o) := ⟨_, hcg⟩
        have HF : Hid (((w2.setCell ⟨g, j * 4 + 2, none⟩ (.string (markS (k + 4 * j + 2)))).setCell ⟨g, j * 4 + 3, none⟩ (.int .i64 ((k + 4 * j + 3 : Nat) : Int))).ownsRow base 34 4 (.slice (some ⟨g, 0, none⟩) l.length cap) l.length ((markToIt l k (j + 1)).flatMap encI) ∧ Only (blk (.slice (some ⟨g, 0, none⟩) l.length cap)) w ((w2.setCell ⟨g, j * 4 + 2, none⟩ (.string (markS (k + 4 * j + 2)))).setCell ⟨g, j * 4 + 3, none⟩ (.int .i64 ((k + 4 * j + 3 : Nat) : Int)))) := ⟨hst, hb3⟩
        clear ho2 hbel2 hb4 hcf hcg e23 hst hb3 HE hcd2 hce2 hfd hfe HM hlen hms
        generalize markS (k + 4 * j + 2) = ms2 at *
        rw [show ((k + 4 * j + 3 : Nat) : Int) = ((k + 4 * j + 2 : Nat) : Int) + 1 by omega] at HF
        go_wp2
        go_roundw
        case rel => exact ⟨j + 1, by omega, by go_num, by go_num, HF.out.1, HF.out.2⟩
        case measure => simp [intOf]; omega
      · obtain rfl : j = l.length := by omega
        go_wp2
        go_ret
        exact ⟨by simp, by rw [← markToIt_all]; exact ho, hbel⟩

end Go.Proofs.Ytmnngfaelanbcaa
