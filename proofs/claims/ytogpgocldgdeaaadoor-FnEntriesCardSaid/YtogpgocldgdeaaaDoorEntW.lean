/-
  Own text: the laws' helpers over rows of entries (a name and a node): copies, their size, alike, marks.
-/
import Derived.Test.YtogpgocldgdeaaaDoorMarkP
namespace Go.Proofs.YtogpgocldgdeaaaDoor
open Go.RowKit

/-- An entry: a name and a node. -/
abbrev EntD := ByteArray × Int
def encN (p : EntD) : List Value := [.string p.1, .int .i64 p.2]
def aggE (p : EntD) : Value := .agg #[.string p.1, .int .i64 p.2]
theorem encN_len (p : EntD) : (encN p).length = 2 := rfl

set_option maxRecDepth 20000 in
theorem eqEntW (p : EntD) (w : World) :
    Calls Tryd.prog 38 #[aggE p, aggE p] w fun e w' => e = .returned (.bool true) ∧ Below w.heap.size w w' := by
  obtain ⟨s, n⟩ := p
  unfold aggE
  go_enter Tryd.func38, Tryd.ntmps38
  go_wp2
  go_ret
  exact ⟨rfl, below2 _ _ _⟩

theorem Tryd.infoEnt : (Tryd.prog.info? 32).map (fun i => (i.zero, i.size, i.bytes)) = some (some (.agg #[.string ⟨#[]⟩, .int .i64 0]), 2, 24) := by kernel_rfl

theorem entName (l : List EntD) (i : Nat) (h : i < l.length) (s : ByteArray) : (l.flatMap encN).set (i * 2) (.string s) = (l.set i (s, l[i].2)).flatMap encN := by
  have := flat_set encN_len l i h 0 (s, l[i].2) (.string s) (by omega) rfl
  simpa using this
theorem entNode (l : List EntD) (i : Nat) (h : i < l.length) (n : Int) : (l.flatMap encN).set (i * 2 + 1) (.int .i64 n) = (l.set i (l[i].1, n)).flatMap encN :=
  flat_set encN_len l i h 1 (l[i].1, n) (.int .i64 n) (by omega) rfl
theorem entBoth (l : List EntD) (i : Nat) (h : i < l.length) (s : ByteArray) (n : Int) : ((l.flatMap encN).set (i * 2) (.string s)).set (i * 2 + 1) (.int .i64 n) = (l.set i (s, n)).flatMap encN := by
  rw [entName l i h, entNode _ i (by simpa using h)]
  simp
theorem entCells {l : List EntD} {i : Nat} (h : i < l.length) : (l.flatMap encN)[i * 2]? = some (.string l[i].1) ∧ (l.flatMap encN)[i * 2 + 1]? = some (.int .i64 l[i].2) := by
  have e0 := flat_get encN_len l i h 0 (by omega)
  have e1 := flat_get encN_len l i h 1 (by omega)
  exact ⟨by simpa [encN] using e0, by simpa [encN] using e1⟩

set_option maxRecDepth 20000 in
set_option maxHeartbeats 400000 in
theorem eqEnts (a c : Option Addr) (ca cc : Nat) (l : List EntD) (w : World) (hl : l.length ≤ 4194304) (hr : RdF encN 2 w a l) (hs : RdF encN 2 w c l) :
    Calls Tryd.prog 15 #[.slice a l.length ca, .slice c l.length cc] w fun e w' => e = .returned (.bool true) ∧ Below w.heap.size w w' := by
  have HCS : Hid (∀ k (hk : k < l.length), ∃ b off, a = some ⟨b, off, none⟩ ∧ b < w.heap.size ∧ ∀ j, j < 2 → w.cell? ⟨b, off + k * 2 + j, none⟩ = (encN l[k])[j]?) := fun k hk => hr.at k hk
  have HDS : Hid (∀ k (hk : k < l.length), ∃ b off, c = some ⟨b, off, none⟩ ∧ b < w.heap.size ∧ ∀ j, j < 2 → w.cell? ⟨b, off + k * 2 + j, none⟩ = (encN l[k])[j]?) := fun k hk => hs.at k hk
  clear hr hs
  go_enter Tryd.func15, Tryd.ntmps15
  go_wp2
  go_loopw [5] (fun i wr => ∃ k : Nat, k ≤ l.length ∧ i = .int .i64 k ∧ Below w.heap.size w wr) (fun i _ => l.length - (intOf i).toNat)
  case atStart => exact ⟨0, Nat.zero_le _, rfl, Below.refl _ _⟩
  case round =>
    obtain ⟨k, hk, rfl, hbel⟩ := hrel
    by_cases hlt : k < l.length
    · obtain ⟨b, off, rfl, hblt, hcell⟩ := HCS.out k hlt
      obtain ⟨d, off2, rfl, hdlt, hcell2⟩ := HDS.out k hlt
      have hc0 : wr.cell? ⟨b, off + k * 2, none⟩ = some (.string l[k].1) := (hbel.cell hblt).trans (hcell 0 (by omega))
      have hc1 : wr.cell? ⟨b, off + k * 2 + 1, none⟩ = some (.int .i64 l[k].2) := (hbel.cell hblt).trans (hcell 1 (by omega))
      have hd0 : wr.cell? ⟨d, off2 + k * 2, none⟩ = some (.string l[k].1) := (hbel.cell hdlt).trans (hcell2 0 (by omega))
      have hd1 : wr.cell? ⟨d, off2 + k * 2 + 1, none⟩ = some (.int .i64 l[k].2) := (hbel.cell hdlt).trans (hcell2 1 (by omega))
      clear hcell hcell2
      have HE : Hid (∀ W, Calls Tryd.prog 38 #[.agg #[.string l[k].1, .int .i64 l[k].2], .agg #[.string l[k].1, .int .i64 l[k].2]] W fun e w' => e = .returned (.bool true) ∧ Below W.heap.size W w') := fun W => eqEntW l[k] W
      generalize l[k].1 = ys at *
      generalize l[k].2 = yn at *
      go_wp2
      go_region_with (go_at_call 38; refine (HE.out _).mono ?_; rintro e w2 ⟨rfl, hb2⟩)
      all_goals
        have hb3 : Below w.heap.size w w2 := hbel.drew.trans (hb2.mono hbel.size)
        go_wp2
        go_roundw
        case rel => exact ⟨k + 1, by omega, by go_num, hb3⟩
        case measure => simp [intOf]; omega
    · go_wp2
      go_ret
      exact ⟨rfl, hbel⟩

/-- How great entries are. -/
def szEn (l : List EntD) : Nat := (l.map fun p => 1 + p.1.size).sum
theorem szEn_take {l : List EntD} {k : Nat} (h : k < l.length) : szEn (l.take (k + 1)) = szEn (l.take k) + 1 + (l[k]).1.size := by
  unfold szEn
  rw [List.take_succ_eq_append_getElem h, List.map_append, List.sum_append]
  simp
  omega

/-- The marks of n entries, from k on. -/
def marksEn (k n : Nat) : List EntD := (List.range n).map fun i => (markS (k + 2 * i), ((k + 2 * i + 1 : Nat) : Int))
def markToEn (l : List EntD) (k i : Nat) : List EntD := marksEn k i ++ l.drop i
theorem marksEn_len (k n : Nat) : (marksEn k n).length = n := by simp [marksEn]
theorem markToEn_zero (l : List EntD) (k : Nat) : markToEn l k 0 = l := by simp [markToEn, marksEn]
theorem markToEn_all (l : List EntD) (k : Nat) : markToEn l k l.length = marksEn k l.length := by simp [markToEn]
theorem markToEn_len (l : List EntD) (k i : Nat) (h : i ≤ l.length) : (markToEn l k i).length = l.length := by simp [markToEn, marksEn_len]; omega
theorem markToEn_set (l : List EntD) (k i : Nat) (h : i < l.length) : (markToEn l k i).set i (markS (k + 2 * i), ((k + 2 * i + 1 : Nat) : Int)) = markToEn l k (i + 1) := by
  unfold markToEn
  rw [List.set_append_right _ _ (by rw [marksEn_len]; exact Nat.le_refl _), marksEn_len, Nat.sub_self]
  have e : marksEn k (i + 1) = marksEn k i ++ [(markS (k + 2 * i), ((k + 2 * i + 1 : Nat) : Int))] := by unfold marksEn; rw [List.range_succ, List.map_append]; rfl
  rw [e, List.append_assoc, List.drop_eq_getElem_cons h]; rfl
theorem marksEn_at (k n i : Nat) (h : i < n) : (marksEn k n)[i]'(by rw [marksEn_len]; exact h) = (markS (k + 2 * i), ((k + 2 * i + 1 : Nat) : Int)) := by simp [marksEn]

set_option maxRecDepth 20000 in
set_option maxHeartbeats 400000 in
theorem markEnts (v : Value) (n k base : Nat) (l : List EntD) (w : World) (hn : n ≤ 536870912) (hk : k ≤ 2147483648) (hl : l.length = n) (hown : w.ownsRow base 32 2 v n (l.flatMap encN)) :
    Calls Tryd.prog 16 #[v, .int .i64 k] w fun e w' => e = .returned (.int .i64 ((k + 2 * n : Nat) : Int)) ∧ w'.ownsRow base 32 2 v n ((marksEn k n).flatMap encN) ∧ Only (blk v) w w' := by
  rcases hown.2 with ⟨rfl, rfl⟩ | ⟨g, cap, cur, rfl, hbg, hrest⟩
  · go_enter Tryd.func16, Tryd.ntmps16
    go_wp2
    go_loop [1, 5] (fun x i => x = .int .i64 k ∧ i = .int .i64 0) (fun _ _ => 0)
    case atStart => exact ⟨rfl, rfl⟩
    case round =>
      obtain ⟨rfl, rfl⟩ := hrel
      go_wp2
      go_ret
      exact ⟨by simp, World.ownsRow_nil _ _ _ _, Only.refl _ _⟩
  · clear hrest
    subst hl
    go_enter Tryd.func16, Tryd.ntmps16
    go_wp2
    go_loopw [1, 5] (fun x i wr => ∃ j : Nat, j ≤ l.length ∧ x = .int .i64 ((k + 2 * j : Nat) : Int) ∧ i = .int .i64 j ∧ wr.ownsRow base 32 2 (.slice (some ⟨g, 0, none⟩) l.length cap) l.length ((markToEn l k j).flatMap encN) ∧ Only (blk (.slice (some ⟨g, 0, none⟩) l.length cap)) w wr) (fun _ i _ => l.length - (intOf i).toNat)
    case atStart => exact ⟨0, Nat.zero_le _, by simp, rfl, by rw [markToEn_zero]; exact hown, Only.refl _ _⟩
    case round =>
      obtain ⟨j, hj, rfl, rfl, ho, hbel⟩ := hrel
      by_cases hlt : j < l.length
      · clear hown
        have hlen := markToEn_len l k j hj
        have hsz : j * 2 < l.length * 2 := by omega
        have HO : Hid (wr.ownsRow base 32 2 (.slice (some ⟨g, 0, none⟩) l.length cap) l.length ((markToEn l k j).flatMap encN)) := ho
        clear ho
        go_wp2_with fail
        refine (markT (k + 2 * j) _ (by omega)).mono ?_
        rintro e w1 ⟨rfl, hb2⟩
        have ho1 := ownsRow_below HO.out hb2 (Nat.le_refl _)
        have hbel1 := hbel.trans (Only.of_new hb2)
        have e01 := entCells (l := markToEn l k j) (i := j) (by omega)
        have hcd := ho1.cellAt (j * 2) (by omega)
        have hce := ho1.cellAt (j * 2 + 1) (by omega)
        rw [e01.1] at hcd
        rw [e01.2] at hce
        have hfd := ho1.frozenAt (j * 2)
        have hfe := ho1.frozenAt (j * 2 + 1)
        have hst := ((ho1.stored (j * 2) (.string (markS (k + 2 * j)))).1.stored (j * 2 + 1) (.int .i64 ((k + 2 * j + 1 : Nat) : Int))).1
        rw [entBoth _ j (by omega), markToEn_set l k j hlt] at hst
        have hb3 : Only (blk (.slice (some ⟨g, 0, none⟩) l.length cap)) w ((w1.setCell ⟨g, j * 2, none⟩ (.string (markS (k + 2 * j)))).setCell ⟨g, j * 2 + 1, none⟩ (.int .i64 ((k + 2 * j + 1 : Nat) : Int))) := (hbel1.setCell (p := ⟨g, j * 2, none⟩) rfl _).setCell (p := ⟨g, j * 2 + 1, none⟩) rfl _
        have HE : Hid (((w1.setCell ⟨g, j * 2, none⟩ (.string (markS (k + 2 * j)))).setCell ⟨g, j * 2 + 1, none⟩ (.int .i64 ((k + 2 * j + 1 : Nat) : Int))).ownsRow base 32 2 (.slice (some ⟨g, 0, none⟩) l.length cap) l.length ((markToEn l k (j + 1)).flatMap encN) ∧ Only (blk (.slice (some ⟨g, 0, none⟩) l.length cap)) w ((w1.setCell ⟨g, j * 2, none⟩ (.string (markS (k + 2 * j)))).setCell ⟨g, j * 2 + 1, none⟩ (.int .i64 ((k + 2 * j + 1 : Nat) : Int)))) := ⟨hst, hb3⟩
        obtain ⟨old, hcd2⟩ : ∃ o, w1.cell? ⟨g, j * 2, none⟩ = some (.string o) := ⟨_, hcd⟩
        obtain ⟨old2, hce2⟩ : ∃ o, w1.cell? ⟨g, j * 2 + 1, none⟩ = some (.int .i64 o) := ⟨_, hce⟩
        clear ho1 hbel1 hb2 hcd hce e01 hst hb3 HO hlen hbel
        generalize markS (k + 2 * j) = ms at *
        rw [show ((k + 2 * j + 1 : Nat) : Int) = ((k + 2 * j : Nat) : Int) + 1 by omega] at HE
        go_wp2
        go_roundw
        case rel => exact ⟨j + 1, by omega, by go_num, by go_num, HE.out.1, HE.out.2⟩
        case measure => simp [intOf]; omega
      · obtain rfl : j = l.length := by omega
        go_wp2
        go_ret
        exact ⟨by simp, by rw [← markToEn_all]; exact ho, hbel⟩

set_option maxRecDepth 20000 in
set_option maxHeartbeats 400000 in
theorem heldEnts (a : Option Addr) (cap n k : Nat) (w : World) (hn : n ≤ 536870912) (hk : k ≤ 2147483648) (hr : RdF encN 2 w a (marksEn k n)) :
    Calls Tryd.prog 17 #[.slice a n cap, .int .i64 k] w fun e w' => e = .returned (.int .i64 ((k + 2 * n : Nat) : Int)) ∧ Below w.heap.size w w' := by
  have HCS : Hid (∀ j, j < n → ∃ b off, a = some ⟨b, off, none⟩ ∧ b < w.heap.size ∧ w.cell? ⟨b, off + j * 2, none⟩ = some (.string (markS (k + 2 * j))) ∧ w.cell? ⟨b, off + j * 2 + 1, none⟩ = some (.int .i64 ((k + 2 * j + 1 : Nat) : Int))) := by
    intro j hj
    obtain ⟨b, off, h1, h2, h3⟩ := hr.at j (by rw [marksEn_len]; exact hj)
    rw [marksEn_at k n j hj] at h3
    exact ⟨b, off, h1, h2, h3 0 (by omega), h3 1 (by omega)⟩
  clear hr
  go_enter Tryd.func17, Tryd.ntmps17
  go_wp2
  go_loopw [1, 5] (fun x i wr => ∃ j : Nat, j ≤ n ∧ x = .int .i64 ((k + 2 * j : Nat) : Int) ∧ i = .int .i64 j ∧ Below w.heap.size w wr) (fun _ i _ => n - (intOf i).toNat)
  case atStart => exact ⟨0, Nat.zero_le _, by simp, rfl, Below.refl _ _⟩
  case round =>
    obtain ⟨j, hj, rfl, rfl, hbel⟩ := hrel
    by_cases hlt : j < n
    · obtain ⟨b, off, rfl, hblt, hc0, hc1⟩ := HCS.out j hlt
      have hd0 : wr.cell? ⟨b, off + j * 2, none⟩ = some (.string (markS (k + 2 * j))) := (hbel.cell hblt).trans hc0
      have hd1 : wr.cell? ⟨b, off + j * 2 + 1, none⟩ = some (.int .i64 (((k + 2 * j : Nat) : Int) + 1)) := (hbel.cell hblt).trans (hc1.trans (by congr 2))
      have hgr : b < wr.heap.size := by have := hbel.size; omega
      have HC : Hid (∀ w1 : World, Calls Tryd.prog 39 #[.int .i64 ((k + 2 * j : Nat) : Int)] w1 fun e w' => e = .returned (.string (markS (k + 2 * j))) ∧ Below w1.heap.size w1 w') := fun w1 => markT (k + 2 * j) w1 (by omega)
      generalize markS (k + 2 * j) = ms at *
      clear hc0 hc1
      go_wp2
      go_region_with (go_at_call 39; refine (HC.out _).mono ?_; rintro e w1 ⟨rfl, hb1⟩; have hd2 : w1.cell? ⟨b, off + j * 2, none⟩ = some (.string ms) := (hb1.cell (by exact hgr)).trans hd0; have hd3 : w1.cell? ⟨b, off + j * 2 + 1, none⟩ = some (.int .i64 (((k + 2 * j : Nat) : Int) + 1)) := (hb1.cell (by exact hgr)).trans hd1)
      all_goals
        have hb2 : Below w.heap.size w w1 := hbel.drew.trans (hb1.mono hbel.size)
        clear hb1 hbel hd0 hd1
        go_wp2
        go_roundw
        case rel => exact ⟨j + 1, by omega, by go_num, by go_num, hb2⟩
        case measure => simp [intOf]; omega
    · obtain rfl : j = n := by omega
      go_wp2
      go_ret
      exact ⟨by simp, hbel⟩
end Go.Proofs.YtogpgocldgdeaaaDoor
