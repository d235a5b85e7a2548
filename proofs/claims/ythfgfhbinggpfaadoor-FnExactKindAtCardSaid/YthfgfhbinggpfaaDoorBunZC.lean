/-
  Own texts, several together.
-/
import Derived.Test.YthfgfhbinggpfaaDoorBunZB
import Derived.Test.YthfgfhbinggpfaaDoorBunZA
import Derived.Laws.ResultCell
import Derived.Deep.Cut
/-
  Own text: the laws' helpers over nodes.
-/
namespace Go.Proofs.YthfgfhbinggpfaaDoor
open Go.RowKit

theorem Tryd.infoInt : (Tryd.prog.info? 3).map (fun i => (i.zero, i.size, i.bytes)) = some (some (.int .i64 0), 1, 8) := by kernel_rfl
theorem Tryd.sizeNode : (Tryd.prog.info? 44).map (·.size) = some 5 := by kernel_rfl

theorem RdN.lay {w : World} {v : Value} {n : NodeD} (h : RdN w v n) : ∃ a c, v = .agg #[.int .i64 n.k, .int .i64 n.g, .int .i64 n.t, .int .i64 n.s, .slice a n.b.length c] := by
  obtain ⟨a, c, rfl, _⟩ := h
  exact ⟨a, c, rfl⟩
theorem OwnN.lay {w : World} {lo : Nat} {v : Value} {n : NodeD} (h : OwnN w lo v n) : ∃ a c, v = .agg #[.int .i64 n.k, .int .i64 n.g, .int .i64 n.t, .int .i64 n.s, .slice a n.b.length c] := h.shape
/-- Five cells stored, one behind the other, into a variable of five. -/
abbrev five (w : World) (P : Nat) (a b c d e : Value) : World := ((((w.setCell ⟨P, 0, none⟩ a).setCell ⟨P, 1, none⟩ b).setCell ⟨P, 2, none⟩ c).setCell ⟨P, 3, none⟩ d).setCell ⟨P, 4, none⟩ e
theorem Var.five {w : World} {P : Nat} {x0 x1 x2 x3 x4 : Value} {t : TypeId} (h : Var w P #[x0, x1, x2, x3, x4] t) (a b c d e : Value) :
    Var (five w P a b c d e) P #[a, b, c, d, e] t ∧ w.cell? ⟨P, 0, none⟩ = some x0 ∧ (w.setCell ⟨P, 0, none⟩ a).cell? ⟨P, 1, none⟩ = some x1 ∧ ((w.setCell ⟨P, 0, none⟩ a).setCell ⟨P, 1, none⟩ b).cell? ⟨P, 2, none⟩ = some x2 ∧
      (((w.setCell ⟨P, 0, none⟩ a).setCell ⟨P, 1, none⟩ b).setCell ⟨P, 2, none⟩ c).cell? ⟨P, 3, none⟩ = some x3 ∧ ((((w.setCell ⟨P, 0, none⟩ a).setCell ⟨P, 1, none⟩ b).setCell ⟨P, 2, none⟩ c).setCell ⟨P, 3, none⟩ d).cell? ⟨P, 4, none⟩ = some x4 ∧
      w.frozen? ⟨P, 0, none⟩ = false ∧ w.frozen? ⟨P, 1, none⟩ = false ∧ w.frozen? ⟨P, 2, none⟩ = false ∧ w.frozen? ⟨P, 3, none⟩ = false ∧ w.frozen? ⟨P, 4, none⟩ = false := by
  have h0 := h.set 0 a
  have h1 := h0.set 1 b
  have h2 := h1.set 2 c
  have h3 := h2.set 3 d
  have h4 := h3.set 4 e
  refine ⟨by simpa using h4, by simpa using h.cell 0, by simpa using h0.cell 1, by simpa using h1.cell 2, by simpa using h2.cell 3, by simpa using h3.cell 4, h.frozen 0, h.frozen 1, h.frozen 2, h.frozen 3, h.frozen 4⟩
theorem own_five {w : World} {base : Nat} {e' : TypeId} {size : Nat} {v : Value} {n : Nat} {xs : List Value} (h : w.ownsRow base e' size v n xs) {Q : Nat} (hQ : Q < base) (a b c d e : Value) : (five w Q a b c d e).ownsRow base e' size v n xs :=
  own_set (own_set (own_set (own_set (own_set h hQ 0 a) hQ 1 b) hQ 2 c) hQ 3 d) hQ 4 e
theorem below_five {B : Nat} {w W : World} (h : Below B w W) {Q : Nat} (hQ : B ≤ Q) (a b c d e : Value) : Below B w (five W Q a b c d e) :=
  ((((h.setCell (p := ⟨Q, 0, none⟩) hQ a).setCell (p := ⟨Q, 1, none⟩) hQ b).setCell (p := ⟨Q, 2, none⟩) hQ c).setCell (p := ⟨Q, 3, none⟩) hQ d).setCell (p := ⟨Q, 4, none⟩) hQ e
theorem flat_one (l : List Int) : l.flatMap (fun x => [Value.int .i64 x]) = l.map (Value.int .i64) := by
  induction l <;> simp_all
theorem Rd.cellI {w : World} {a : Option Addr} {l : List Int} (h : Rd .i64 w a l) (k : Nat) (hk : k < l.length) : ∃ b off, a = some ⟨b, off, none⟩ ∧ b < w.heap.size ∧ w.cell? ⟨b, off + k, none⟩ = some (.int .i64 l[k]) := by
  rcases h with rfl | ⟨b, off, rfl, h1, h2⟩
  · simp at hk
  · refine ⟨b, off, rfl, h1, ?_⟩
    rw [h2 k hk]
    simp [List.getD, hk]

set_option maxRecDepth 20000 in
set_option maxHeartbeats 400000 in
theorem toInts (a : Option Addr) (cap : Nat) (l : List Int) (w : World) (hl : l.length ≤ 1048576) (hr : Rd .i64 w a l) :
    Calls Tryd.prog 69 #[.slice a l.length cap] w fun e w' => ∃ v, e = .returned v ∧ w'.ownsRow w.heap.size 3 1 v l.length (l.map (Value.int .i64)) ∧ Below w.heap.size w w' := by
  obtain ⟨i0, hi, hz0, hz1, hz2⟩ := info_parts Tryd.infoInt
  have HCS : Hid (∀ k (hk : k < l.length), ∃ b off, a = some ⟨b, off, none⟩ ∧ b < w.heap.size ∧ w.cell? ⟨b, off + k, none⟩ = some (.int .i64 l[k])) := fun k hk => hr.cellI k hk
  clear hr
  go_enter Tryd.func69, Tryd.ntmps69
  go_wp2_with (at_make; refine wpList_make_full _ rfl _ _ 40 rfl w.heap.size 3 i0 (.int .i64 0) 1 Tryd.underlying40 hi hz0 hz1 _ _ _ _ l.length rfl rfl rfl rfl (by rw [hz2]; omega) (by unfold maxLen; omega) (Nat.le_refl _) ?_)
  intro w1 hown hgrow
  have hown1 : w1.ownsRow w.heap.size 3 1 (.slice (some ⟨w.heap.size, 0, none⟩) l.length l.length) l.length ((fillF 0 l 0).map (Value.int .i64)) := by
    have e : (fillF 0 l 0).map (Value.int .i64) = (madeCells #[Value.int .i64 0] l.length).toList := by
      have h := made_flat (enc := fun x : Int => [Value.int .i64 x]) (sz := 1) (fun _ => rfl) 0 #[Value.int .i64 0] rfl (by omega) l.length
      rw [Nat.mul_one] at h
      rw [h, fillF_zero, flat_one]
    rw [e]
    exact hown
  clear hown
  go_wp2
  go_loopw [4] (fun i wr => ∃ k : Nat, k ≤ l.length ∧ i = .int .i64 k ∧ wr.ownsRow w.heap.size 3 1 (.slice (some ⟨w.heap.size, 0, none⟩) l.length l.length) l.length ((fillF 0 l k).map (Value.int .i64)) ∧ Below w.heap.size w wr) (fun i _ => l.length - (intOf i).toNat)
  case atStart => exact ⟨0, Nat.zero_le _, rfl, hown1, (Below.refl _ _).grown hgrow (Nat.le_refl _) (fun k h => by simp at h)⟩
  case round =>
    obtain ⟨k, hk, rfl, ho, hbel⟩ := hrel
    by_cases hlt : k < l.length
    · obtain ⟨b, off, rfl, hblt, hcell⟩ := HCS.out k hlt
      have hcr : wr.cell? ⟨b, off + k, none⟩ = some (.int .i64 l[k]) := (hbel.cell hblt).trans hcell
      have hfz := ho.frozenAt k
      have hlen := fillF_len (0 : Int) l k hk
      have hce : ∃ old, wr.cell? ⟨w.heap.size, k, none⟩ = some old := ⟨_, (ho.cellAt k (by omega)).trans (List.getElem?_eq_getElem (by simp; omega))⟩
      obtain ⟨old, hce⟩ := hce
      have hst := (ho.stored k (.int .i64 l[k])).1
      rw [← List.map_set, fillF_set 0 l k hlt] at hst
      have hb3 : Below w.heap.size w (wr.setCell ⟨w.heap.size, k, none⟩ (.int .i64 l[k])) := hbel.setCell (Nat.le_refl _) _
      clear hown1 hgrow hlen ho hbel hcell
      generalize l[k] = y at *
      go_wp2
      go_roundw
      case rel => exact ⟨k + 1, by omega, by go_num, hst, hb3⟩
      case measure => simp [intOf]; omega
    · obtain rfl : k = l.length := by omega
      go_wp2
      go_ret
      rw [fillF_all] at ho
      exact ⟨_, rfl, ho, hbel⟩

theorem szInts (a : Option Addr) (cap n : Nat) (left : Int) (w : World) (h0 : 0 ≤ left) (h1 : left ≤ 1048576) (hn : n ≤ maxLen) :
    Calls Tryd.prog 64 #[.slice a n cap, .int .i64 left] w fun e w' => ∃ r, e = .returned (.int .i64 r) ∧ (0 ≤ r → (n : Int) ≤ left) ∧ r ≤ left ∧ w' = w := by
  unfold maxLen at hn
  have hw : IntKind.i64.wrap (left - (n : Int)) = left - (n : Int) := by rw [IntKind.wrap_i64]; omega
  by_cases h : left - (n : Int) < 0
  · go_enter Tryd.func64, Tryd.ntmps64
    go_wp2
    go_ret
    exact ⟨_, rfl, by omega, by omega, rfl⟩
  · go_enter Tryd.func64, Tryd.ntmps64
    go_wp2
    go_ret
    exact ⟨_, rfl, by omega, by omega, rfl⟩

set_option maxRecDepth 20000 in
set_option maxHeartbeats 1000000 in
theorem toNodeW (v : Value) (n : NodeD) (w : World) (hl : n.b.length ≤ 1048576) (hr : RdN w v n) :
    Calls Tryd.prog 45 #[v] w fun e w' => ∃ v', e = .returned v' ∧ OwnN w' w.heap.size v' n ∧ Below w.heap.size w w' := by
  obtain ⟨a, c, rfl, _, _, hr⟩ := hr
  have HR : Hid (Rd .i64 w a n.b) := hr
  clear hr
  unfold aggN
  go_enter Tryd.func45, Tryd.ntmps45
  go_wp2_with fail
  refine (toInts _ _ n.b _ hl (HR.out.below (below3 _ _ _ _) (Nat.le_refl _))).mono ?_
  rintro e w1 ⟨v1, rfl, ho1, hb1⟩
  obtain ⟨a1, c1, rfl, _, _⟩ := own_rd ho1
  have hV0 : Var w1 (w.heap.size + 1 + 1) #[.int .i64 n.k, .int .i64 n.g, .int .i64 n.t, .int .i64 n.s, .slice none 0 0] 44 := (Var.made3 w _ _ _ _).new hb1
  have hR0 : Var w1 (w.heap.size + 1) #[.int .i64 0, .int .i64 0, .int .i64 0, .int .i64 0, .slice none 0 0] 44 := ((Var.made2 w _ _ _).alloc _).new hb1
  have hb01 : Below w.heap.size w w1 := (below3 w _ _ _).trans (hb1.mono (by simp; omega))
  have hlt := hV0.lt
  have hc4 := hV0.cell 4
  have hf4 := hV0.frozen 4
  simp at hc4
  have ho2 := own_set (ownsRow_base ho1 (show w.heap.size + 1 + 1 + 1 ≤ _ by simp)) (Q := w.heap.size + 1 + 1) (by omega) 4 (.slice a1 n.b.length c1)
  have hV1 := hV0.set 4 (.slice a1 n.b.length c1)
  have hR1 := hR0.other (Q := w.heap.size + 1 + 1) (by omega) 4 (.slice a1 n.b.length c1)
  have hB1 : Below w.heap.size w (w1.setCell ⟨w.heap.size + 1 + 1, 4, none⟩ (.slice a1 n.b.length c1)) := hb01.setCell (p := ⟨w.heap.size + 1 + 1, 4, none⟩) (by show _ ≤ w.heap.size + 1 + 1; omega) _
  simp at hV1
  go_upto_region 7 with fail
  generalize w1.setCell ⟨w.heap.size + 1 + 1, 4, none⟩ (.slice a1 n.b.length c1) = W2 at *
  have x0 := hV1.cell 0
  have x1 := hV1.cell 1
  have x2 := hV1.cell 2
  have x3 := hV1.cell 3
  have x4 := hV1.cell 4
  simp at x0 x1 x2 x3 x4
  obtain ⟨hR9, r0, r1, r2, r3, r4, q0, q1, q2, q3, q4⟩ := hR1.five (.int .i64 n.k) (.int .i64 n.g) (.int .i64 n.t) (.int .i64 n.s) (.slice a1 n.b.length c1)
  have HR9 : Hid (Var (five W2 (w.heap.size + 1) (.int .i64 n.k) (.int .i64 n.g) (.int .i64 n.t) (.int .i64 n.s) (.slice a1 n.b.length c1)) (w.heap.size + 1) #[.int .i64 n.k, .int .i64 n.g, .int .i64 n.t, .int .i64 n.s, .slice a1 n.b.length c1] 44) := hR9
  have HO9 : Hid (OwnN (five W2 (w.heap.size + 1) (.int .i64 n.k) (.int .i64 n.g) (.int .i64 n.t) (.int .i64 n.s) (.slice a1 n.b.length c1)) w.heap.size (aggN n (.slice a1 n.b.length c1)) n) := ⟨_, rfl, ownsRow_base (own_five ho2 (by omega) _ _ _ _ _) (by omega)⟩
  have HB9 : Hid (Below w.heap.size w (five W2 (w.heap.size + 1) (.int .i64 n.k) (.int .i64 n.g) (.int .i64 n.t) (.int .i64 n.s) (.slice a1 n.b.length c1))) := below_five hB1 (by omega) _ _ _ _ _
  clear hR9 hV1 hR1 ho2 hB1 hV0 hR0 hb01 hc4 hf4 ho1 hb1
  go_wp2
  refine bodyPost_ret (results_cell_row rfl _ _ (w.heap.size + 1) 44 #[.int .i64 n.k, .int .i64 n.g, .int .i64 n.t, .int .i64 n.s, .slice a1 n.b.length c1] (0, 0) _ rfl HR9.out Tryd.underlying44 rfl Tryd.sizeNode) rfl ?_
  exact ⟨_, rfl, HO9.out, HB9.out⟩

set_option maxRecDepth 20000 in
theorem szNodeW (v : Value) (n : NodeD) (left : Int) (w : World) (h0 : 0 ≤ left) (h1 : left ≤ 1048576) (hn : n.b.length ≤ maxLen) (hr : RdN w v n) :
    Calls Tryd.prog 39 #[v, .int .i64 left] w fun e w' => ∃ r, e = .returned (.int .i64 r) ∧ (0 ≤ r → (n.b.length : Int) ≤ left) ∧ r ≤ left ∧ Below w.heap.size w w' := by
  obtain ⟨a, c, rfl, _, _, hr⟩ := hr
  clear hr
  unfold aggN
  go_enter Tryd.func39, Tryd.ntmps39
  go_wp2_with fail
  refine (szInts _ _ n.b.length left _ h0 h1 hn).mono ?_
  rintro e w1 ⟨r, rfl, hr1, hr2, hw1⟩
  subst w1
  have hb : Below w.heap.size w (w.alloc (.cells #[.int .i64 n.k, .int .i64 n.g, .int .i64 n.t, .int .i64 n.s, .slice a n.b.length c] 67)) := below1 _ _
  by_cases h : r < 0
  · go_wp2
    go_ret
    exact ⟨_, rfl, by omega, by omega, hb⟩
  · go_wp2
    go_ret
    exact ⟨_, rfl, hr1, hr2, hb⟩

set_option maxRecDepth 20000 in
set_option maxHeartbeats 1000000 in
theorem eqNodeW (v u : Value) (n : NodeD) (w : World) (hl : n.b.length ≤ 4194304) (hr : RdN w v n) (hs : RdN w u n) :
    Calls Tryd.prog 53 #[v, u] w fun e w' => e = .returned (.bool true) ∧ Below w.heap.size w w' := by
  obtain ⟨a, c, rfl, _, _, hr⟩ := hr
  obtain ⟨a', c', rfl, _, _, hs⟩ := hs
  have HR : Hid (Rd .i64 w a n.b) := hr
  have HS : Hid (Rd .i64 w a' n.b) := hs
  clear hr hs
  unfold aggN
  go_enter Tryd.func53, Tryd.ntmps53
  go_wp2_with fail
  refine (eqI _ _ _ _ n.b _ hl (HR.out.below (below2 _ _ _) (Nat.le_refl _)) (HS.out.below (below2 _ _ _) (Nat.le_refl _))).mono ?_
  rintro e w1 ⟨rfl, hb1⟩
  have hb : Below w.heap.size w w1 := (below2 w _ _).trans (hb1.mono (by simp; omega))
  go_wp2
  go_ret
  exact ⟨rfl, hb⟩
end Go.Proofs.YthfgfhbinggpfaaDoor

/-
  Own text: the laws' helpers over branches: how great, a copy, alike.
-/
namespace Go.Proofs.YthfgfhbinggpfaaDoor
open Go.RowKit

theorem Tryd.infoNode : (Tryd.prog.info? 44).map (fun i => (i.zero, i.size, i.bytes)) = some (some (.agg #[.int .i64 0, .int .i64 0, .int .i64 0, .int .i64 0, .slice none 0 0]), 5, 56) := by kernel_rfl
theorem Tryd.sizeFs : (Tryd.prog.info? 30).map (·.size) = some 2 := by kernel_rfl

theorem szIntX (a : Option Addr) (cap n : Nat) (left : Int) (w : World) (h0 : 0 ≤ left) (h1 : left ≤ 1048576) (hn : n ≤ maxLen) :
    Calls Tryd.prog 64 #[.slice a n cap, .int .i64 left] w fun e w' => ∃ r : Int, e = .returned (.int .i64 r) ∧ (0 ≤ r → r + n = left) ∧ -1 ≤ r ∧ r ≤ 1048576 ∧ w' = w := by
  unfold maxLen at hn
  have hw : IntKind.i64.wrap (left - (n : Int)) = left - (n : Int) := by rw [IntKind.wrap_i64]; omega
  by_cases h : left - (n : Int) < 0
  · go_enter Tryd.func64, Tryd.ntmps64
    go_wp2
    go_ret
    exact ⟨-1, rfl, by omega, by omega, by omega, rfl⟩
  · go_enter Tryd.func64, Tryd.ntmps64
    go_wp2
    go_ret
    exact ⟨_, rfl, by omega, by omega, by omega, rfl⟩
set_option maxRecDepth 20000 in
theorem szNodeX (n : NodeD) (u : Value) (left : Int) (w : World) (h0 : 0 ≤ left) (h1 : left ≤ 1048576) (hr : RdU w u n.b) :
    Calls Tryd.prog 39 #[.agg #[.int .i64 n.k, .int .i64 n.g, .int .i64 n.t, .int .i64 n.s, u], .int .i64 left] w fun e w' => ∃ r : Int, e = .returned (.int .i64 r) ∧ (0 ≤ r → r + n.b.length = left) ∧ -1 ≤ r ∧ r ≤ 1048576 ∧ Below w.heap.size w w' := by
  obtain ⟨a, c, rfl, hc1, hc2, hr⟩ := hr
  clear hr
  go_enter Tryd.func39, Tryd.ntmps39
  go_wp2_with fail
  refine (szIntX _ _ n.b.length left _ h0 h1 (Nat.le_trans hc1 hc2)).mono ?_
  rintro e w1 ⟨r, rfl, hr1, hr2, hr3, hw1⟩
  subst w1
  have hb : Below w.heap.size w (w.alloc (.cells #[.int .i64 n.k, .int .i64 n.g, .int .i64 n.t, .int .i64 n.s, .slice a n.b.length c] 67)) := below1 _ _
  by_cases h : r < 0
  · clear hr1
    go_wp2
    go_ret
    exact ⟨-1, rfl, by omega, by omega, by omega, hb⟩
  · have HR1 : Hid (r + (n.b.length : Int) = left) := hr1 (by omega)
    clear hr1
    go_wp2
    go_ret
    exact ⟨r, rfl, fun _ => HR1.out, hr2, hr3, hb⟩

set_option maxRecDepth 20000 in
set_option maxHeartbeats 400000 in
theorem szNodes (a : Option Addr) (cap : Nat) (l : List NodeD) (left : Int) (w : World) (h0 : 0 ≤ left) (h1 : left ≤ 1048576) (hl : l.length ≤ maxLen) (hr : RdNs w a l) :
    Calls Tryd.prog 18 #[.slice a l.length cap, .int .i64 left] w fun e w' => ∃ r : Int, e = .returned (.int .i64 r) ∧ (0 ≤ r → r + szN l = left) ∧ -1 ≤ r ∧ r ≤ 1048576 ∧ Below w.heap.size w w' := by
  have HCS : Hid (∀ k (hk : k < l.length), ∃ b off u, a = some ⟨b, off, none⟩ ∧ b < w.heap.size ∧ RdU w u l[k].b ∧ NodeAt w b (off + k * 5) l[k] u) := fun k hk => hr.at k hk
  have hm : l.length ≤ 9223372036854775807 := by unfold maxLen at hl; omega
  clear hr hl
  by_cases hbig : left < l.length
  · have hneg : left - (l.length : Int) < 0 := by omega
    go_enter Tryd.func18, Tryd.ntmps18
    go_wp2
    go_ret
    exact ⟨-1, rfl, fun h => by omega, by omega, by omega, Below.refl _ _⟩
  · have hneg : ¬ left - (l.length : Int) < 0 := by omega
    go_enter Tryd.func18, Tryd.ntmps18
    go_wp2
    go_loopw [1, 5] (fun x i wr => ∃ (m : Int) (k : Nat), x = .int .i64 m ∧ 0 ≤ m ∧ m ≤ 1048576 ∧ k ≤ l.length ∧ i = .int .i64 k ∧ Below w.heap.size w wr ∧ Hid (m + ((l.length : Int) - k) + (szN (l.take k) : Int) = left)) (fun _ i _ => l.length - (intOf i).toNat)
    case atStart => exact ⟨left - (l.length : Int), 0, by go_num, by omega, by omega, Nat.zero_le _, rfl, Below.refl _ _, by show _ = _; simp [szN]⟩
    case round =>
      obtain ⟨m, k, rfl, hm0, hm1, hk, rfl, hbel, HA⟩ := hrel
      by_cases hlt : k < l.length
      · obtain ⟨b, off, u, rfl, hblt, hru, c0, c1, c2, c3, c4⟩ := HCS.out k hlt
        have d0 := (hbel.cell (p := ⟨b, off + k * 5, none⟩) hblt).trans c0
        have d1 := (hbel.cell (p := ⟨b, off + k * 5 + 1, none⟩) hblt).trans c1
        have d2 := (hbel.cell (p := ⟨b, off + k * 5 + 2, none⟩) hblt).trans c2
        have d3 := (hbel.cell (p := ⟨b, off + k * 5 + 3, none⟩) hblt).trans c3
        have d4 := (hbel.cell (p := ⟨b, off + k * 5 + 4, none⟩) hblt).trans c4
        have HS : Hid (szN (l.take (k + 1)) = szN (l.take k) + 1 + (l[k]).b.length) := szN_take hlt
        have HRU : Hid (RdU wr u l[k].b) := hru.below hbel (Nat.le_refl _)
        clear c0 c1 c2 c3 c4 hru
        generalize l[k] = y at *
        go_wp2_with fail
        refine (szNodeX y u m _ hm0 hm1 HRU.out).mono ?_
        rintro e w2 ⟨r, rfl, hrm, hr0, hr1, hb2⟩
        have hb3 : Below w.heap.size w w2 := hbel.trans (hb2.mono hbel.size)
        by_cases hrn : r < 0
        · clear hrm
          go_wp2
          go_ret
          exact ⟨-1, rfl, fun h => by omega, by omega, by omega, hb3⟩
        · have HRM : Hid (r + (y.b.length : Int) = m) := hrm (by omega)
          clear hrm
          go_wp2
          go_roundw
          case rel => exact ⟨r, k + 1, rfl, by omega, by omega, by omega, by go_num, hb3, by show _ = _; rw [HS.out]; have := HA.out; have := HRM.out; omega⟩
          case measure => simp [intOf]; omega
      · obtain rfl : k = l.length := by omega
        have HE : Hid (m + szN l = left) := by have := HA.out; rw [List.take_length] at this; show _ = _; omega
        go_wp2
        go_ret
        exact ⟨m, rfl, fun _ => HE.out, by omega, by omega, hbel⟩

set_option maxRecDepth 20000 in
set_option maxHeartbeats 400000 in
theorem szFsW (v : Value) (F : FsD) (left : Int) (w : World) (h0 : 0 ≤ left) (h1 : left ≤ 1048576) (hf : FitF F) (hr : RdFs w v F) :
    Calls Tryd.prog 7 #[v, .int .i64 left] w fun e w' => ∃ r : Int, e = .returned (.int .i64 r) ∧ (0 ≤ r → r + szF F = left) ∧ -1 ≤ r ∧ r ≤ 1048576 ∧ Below w.heap.size w w' := by
  obtain ⟨a, ca, b, cb, rfl, _, r1, r2⟩ := hr
  obtain ⟨f1, f2, f3, f4⟩ := hf
  have HR1 : Hid (RdNs w a F.ns) := r1
  have HR2 : Hid (RdS w b F.ds) := r2
  have HF : Hid (∀ s ∈ F.ds, s.size ≤ maxLen) := f4
  have HZ : Hid (szF F = szN F.ns + szT F.ds) := rfl
  clear r1 r2 f3 f4
  go_enter Tryd.func7, Tryd.ntmps7
  go_wp2_with fail
  refine (szNodes _ _ F.ns left _ h0 h1 f1 (HR1.out.below (below1 _ _) (Nat.le_refl _))).mono ?_
  rintro e w1 ⟨r, rfl, hr1, hr2, hr3, hb1⟩
  have hX : Var w1 w.heap.size #[.slice a F.ns.length ca, .slice b F.ds.length cb] 25 := (Var.made w _ _).new hb1
  have hb01 : Below w.heap.size w w1 := (below1 w _).trans (hb1.mono (by simp))
  have hx1 := hX.cell 1
  simp at hx1
  clear hX hb1
  by_cases h : r < 0
  · clear hr1
    go_wp2
    go_ret
    exact ⟨-1, rfl, by omega, by omega, by omega, hb01⟩
  · have HR1' : Hid (r + (szN F.ns : Int) = left) := hr1 (by omega)
    clear hr1
    go_wp2_with fail
    refine (szStrs _ _ F.ds r _ (by omega) hr3 f2 HF.out (HR2.out.below hb01 (Nat.le_refl _))).mono ?_
    rintro e w2 ⟨q, rfl, hq1, hq2, hq3, hb2⟩
    have hb02 : Below w.heap.size w w2 := hb01.trans (hb2.mono hb01.size)
    by_cases h2 : q < 0
    · clear hq1
      go_wp2
      go_ret
      exact ⟨-1, rfl, by omega, by omega, by omega, hb02⟩
    · have HQ1 : Hid (q + (szT F.ds : Int) = r) := hq1 (by omega)
      clear hq1
      go_wp2
      go_ret
      exact ⟨q, rfl, fun _ => by rw [HZ.out]; have := HQ1.out; have := HR1'.out; omega, hq2, hq3, hb02⟩

/-! ### A copy -/
theorem uSet (M : List NodeU) (i : Nat) (h : i < M.length) (y : NodeU) :
    (((((M.flatMap encU).set (i * 5) (.int .i64 y.1.k)).set (i * 5 + 1) (.int .i64 y.1.g)).set (i * 5 + 2) (.int .i64 y.1.t)).set (i * 5 + 3) (.int .i64 y.1.s)).set (i * 5 + 4) y.2 = (M.set i y).flatMap encU := by
  obtain ⟨⟨yk, yg, yt, ys, yb⟩, yu⟩ := y
  have e0 := flat_set encU_len M i h 0 (⟨yk, M[i].1.g, M[i].1.t, M[i].1.s, M[i].1.b⟩, M[i].2) (.int .i64 yk) (by omega) rfl
  have e1 := flat_set encU_len (M.set i (⟨yk, M[i].1.g, M[i].1.t, M[i].1.s, M[i].1.b⟩, M[i].2)) i (by simpa using h) 1 (⟨yk, yg, M[i].1.t, M[i].1.s, M[i].1.b⟩, M[i].2) (.int .i64 yg) (by omega) (by rw [List.getElem_set_self]; rfl)
  have e2 := flat_set encU_len (M.set i (⟨yk, yg, M[i].1.t, M[i].1.s, M[i].1.b⟩, M[i].2)) i (by simpa using h) 2 (⟨yk, yg, yt, M[i].1.s, M[i].1.b⟩, M[i].2) (.int .i64 yt) (by omega) (by rw [List.getElem_set_self]; rfl)
  have e3 := flat_set encU_len (M.set i (⟨yk, yg, yt, M[i].1.s, M[i].1.b⟩, M[i].2)) i (by simpa using h) 3 (⟨yk, yg, yt, ys, M[i].1.b⟩, M[i].2) (.int .i64 ys) (by omega) (by rw [List.getElem_set_self]; rfl)
  have e4 := flat_set encU_len (M.set i (⟨yk, yg, yt, ys, M[i].1.b⟩, M[i].2)) i (by simpa using h) 4 (⟨yk, yg, yt, ys, yb⟩, yu) yu (by omega) (by rw [List.getElem_set_self]; rfl)
  rw [List.set_set] at e1 e2 e3 e4
  rw [Nat.add_zero] at e0
  rw [e0, e1, e2, e3, e4]
theorem uCells {M : List NodeU} {i : Nat} (h : i < M.length) : (M.flatMap encU)[i * 5]? = some (.int .i64 M[i].1.k) ∧ (M.flatMap encU)[i * 5 + 1]? = some (.int .i64 M[i].1.g) ∧ (M.flatMap encU)[i * 5 + 2]? = some (.int .i64 M[i].1.t) ∧ (M.flatMap encU)[i * 5 + 3]? = some (.int .i64 M[i].1.s) ∧ (M.flatMap encU)[i * 5 + 4]? = some M[i].2 := by
  have e0 := flat_get encU_len M i h 0 (by omega)
  have e1 := flat_get encU_len M i h 1 (by omega)
  have e2 := flat_get encU_len M i h 2 (by omega)
  have e3 := flat_get encU_len M i h 3 (by omega)
  have e4 := flat_get encU_len M i h 4 (by omega)
  exact ⟨e0, e1, e2, e3, e4⟩
/-- A node and no slice. -/
def zeroU : NodeU := (zeroN, .slice none 0 0)
theorem set_fill (L : List NodeU) (n : Nat) (y : NodeU) (h : L.length < n) : (L ++ List.replicate (n - L.length) zeroU).set L.length y = (L ++ [y]) ++ List.replicate (n - (L ++ [y]).length) zeroU := by
  rw [List.set_append_right _ _ (Nat.le_refl _), Nat.sub_self, List.append_assoc]
  congr 1
  rw [show n - L.length = (n - (L ++ [y]).length) + 1 by simp; omega, List.replicate_succ, List.set_cons_zero]
  rfl
/-- While a row of nodes is filled, one behind the other: which are there, that each has blocks of its own. -/
structure FillU (w0 w : World) (n cap : Nat) (L : List NodeU) : Prop where
  len : L.length ≤ n
  row : w.ownsRow w0.heap.size 44 5 (.slice (some ⟨w0.heap.size, 0, none⟩) n cap) n ((L ++ List.replicate (n - L.length) zeroU).flatMap encU)
  inn : ∀ x ∈ L, w.ownsRow (w0.heap.size + 1) 3 1 x.2 x.1.b.length (x.1.b.map (Value.int .i64))
  apart : L.Pairwise fun x y => ∀ j, blk x.2 j → ¬ blk y.2 j
  bel : Below w0.heap.size w0 w
theorem FillU.new {w0 w w' : World} {n cap : Nat} {L : List NodeU} (h : FillU w0 w n cap L) (hb : Below w.heap.size w w') : FillU w0 w' n cap L :=
  ⟨h.len, ownsRow_below h.row hb (Nat.le_refl _), fun x hx => ownsRow_below (h.inn x hx) hb (Nat.le_refl _), h.apart, h.bel.trans (hb.mono h.bel.size)⟩
abbrev fiveAt (w : World) (P o : Nat) (a b c d e : Value) : World := ((((w.setCell ⟨P, o, none⟩ a).setCell ⟨P, o + 1, none⟩ b).setCell ⟨P, o + 2, none⟩ c).setCell ⟨P, o + 3, none⟩ d).setCell ⟨P, o + 4, none⟩ e
theorem only_five {S : Nat → Prop} {a w : World} (h : Only S a w) {P : Nat} (hp : S P) (o : Nat) (x0 x1 x2 x3 x4 : Value) : Only S a (fiveAt w P o x0 x1 x2 x3 x4) :=
  ((((h.setCell (p := ⟨P, o, none⟩) hp x0).setCell (p := ⟨P, o + 1, none⟩) hp x1).setCell (p := ⟨P, o + 2, none⟩) hp x2).setCell (p := ⟨P, o + 3, none⟩) hp x3).setCell (p := ⟨P, o + 4, none⟩) hp x4
theorem FillU.put {w0 w : World} {n cap : Nat} {L : List NodeU} (h : FillU w0 w n cap L) (hlt : L.length < n) (y : NodeU) (hy : w.ownsRow (w0.heap.size + 1) 3 1 y.2 y.1.b.length (y.1.b.map (Value.int .i64))) (ha : ∀ x ∈ L, ∀ j, blk x.2 j → ¬ blk y.2 j) :
    FillU w0 (fiveAt w w0.heap.size (L.length * 5) (.int .i64 y.1.k) (.int .i64 y.1.g) (.int .i64 y.1.t) (.int .i64 y.1.s) y.2) n cap (L ++ [y]) := by
  have hO : Only (fun k => k = w0.heap.size) w (fiveAt w w0.heap.size (L.length * 5) (.int .i64 y.1.k) (.int .i64 y.1.g) (.int .i64 y.1.t) (.int .i64 y.1.s) y.2) := only_five (S := fun k => k = w0.heap.size) (Only.refl _ _) rfl _ _ _ _ _ _
  refine ⟨by simp; omega, ?_, ?_, ?_, ?_⟩
  · have hst := ((((h.row.stored (L.length * 5) (.int .i64 y.1.k)).1.stored (L.length * 5 + 1) (.int .i64 y.1.g)).1.stored (L.length * 5 + 2) (.int .i64 y.1.t)).1.stored (L.length * 5 + 3) (.int .i64 y.1.s)).1.stored (L.length * 5 + 4) y.2
    have hst1 := hst.1
    rw [uSet _ L.length (by simp; omega), set_fill L n y hlt] at hst1
    exact hst1
  · intro x hx
    rcases List.mem_append.1 hx with hx | hx
    · exact own_only (h.inn x hx) hO (fun k hk e => by have := ((h.inn x hx).lt k hk).1; omega)
    · obtain rfl : x = y := by simpa using hx
      exact own_only hy hO (fun k hk e => by have := (hy.lt k hk).1; omega)
  · rw [List.pairwise_append]
    refine ⟨h.apart, by simp, fun x hx z hz => ?_⟩
    obtain rfl : z = y := by simpa using hz
    exact ha x hx
  · exact h.bel.trans (hO.below h.bel.size (fun k e => by omega))
theorem FillU.cells {w0 w : World} {n cap : Nat} {L : List NodeU} (h : FillU w0 w n cap L) (hlt : L.length < n) :
    w.cell? ⟨w0.heap.size, L.length * 5, none⟩ = some (.int .i64 0) ∧ w.cell? ⟨w0.heap.size, L.length * 5 + 1, none⟩ = some (.int .i64 0) ∧ w.cell? ⟨w0.heap.size, L.length * 5 + 2, none⟩ = some (.int .i64 0) ∧ w.cell? ⟨w0.heap.size, L.length * 5 + 3, none⟩ = some (.int .i64 0) ∧ w.cell? ⟨w0.heap.size, L.length * 5 + 4, none⟩ = some (.slice none 0 0) ∧
      w.frozen? ⟨w0.heap.size, L.length * 5, none⟩ = false ∧ w.frozen? ⟨w0.heap.size, L.length * 5 + 1, none⟩ = false ∧ w.frozen? ⟨w0.heap.size, L.length * 5 + 2, none⟩ = false ∧ w.frozen? ⟨w0.heap.size, L.length * 5 + 3, none⟩ = false ∧ w.frozen? ⟨w0.heap.size, L.length * 5 + 4, none⟩ = false := by
  have e := uCells (M := L ++ List.replicate (n - L.length) zeroU) (i := L.length) (by simp; omega)
  have hz : (L ++ List.replicate (n - L.length) zeroU)[L.length]'(by simp; omega) = zeroU := by
    rw [List.getElem_append_right (Nat.le_refl _)]; simp
  rw [hz] at e
  obtain ⟨e0, e1, e2, e3, e4⟩ := e
  exact ⟨(h.row.cellAt _ (by omega)).trans e0, (h.row.cellAt _ (by omega)).trans e1, (h.row.cellAt _ (by omega)).trans e2, (h.row.cellAt _ (by omega)).trans e3, (h.row.cellAt _ (by omega)).trans e4, h.row.frozenAt _, h.row.frozenAt _, h.row.frozenAt _, h.row.frozenAt _, h.row.frozenAt _⟩
theorem FillU.all {w0 w : World} {n cap : Nat} {L : List NodeU} (h : FillU w0 w n cap L) (hn : L.length = n) : OwnL w w0.heap.size w.heap.size (.slice (some ⟨w0.heap.size, 0, none⟩) L.length cap) L := by
  have hr := h.row
  rw [← hn, Nat.sub_self, List.replicate_zero, List.append_nil] at hr
  exact ⟨hr, fun x hx => ownsRow_base (h.inn x hx) (by omega), h.apart, fun j hj => (hr.lt j hj).2, fun x hx j hj => ((h.inn x hx).lt j hj).2⟩

set_option maxRecDepth 20000 in
set_option maxHeartbeats 1000000 in
theorem toNodes (a : Option Addr) (cap : Nat) (l : List NodeD) (w : World) (hl : l.length ≤ 1048576) (hs : ∀ n ∈ l, n.b.length ≤ 1048576) (hr : RdNs w a l) :
    Calls Tryd.prog 22 #[.slice a l.length cap] w fun e w' => ∃ v, e = .returned v ∧ OwnNs w' w.heap.size w'.heap.size v l ∧ Below w.heap.size w w' := by
  obtain ⟨i0, hi, hz0, hz1, hz2⟩ := info_parts Tryd.infoNode
  have HCS : Hid (∀ k (hk : k < l.length), ∃ b off u, a = some ⟨b, off, none⟩ ∧ b < w.heap.size ∧ RdU w u l[k].b ∧ NodeAt w b (off + k * 5) l[k] u) := fun k hk => hr.at k hk
  have HSM : Hid (∀ n ∈ l, n.b.length ≤ 1048576) := hs
  clear hr hs
  go_enter Tryd.func22, Tryd.ntmps22
  go_wp2_with (at_make; refine wpList_make_full _ rfl _ _ 28 rfl w.heap.size 44 i0 (.agg #[.int .i64 0, .int .i64 0, .int .i64 0, .int .i64 0, .slice none 0 0]) 5 Tryd.underlying28 hi hz0 hz1 _ _ _ _ l.length rfl rfl rfl rfl (by rw [hz2]; omega) (by unfold maxLen; omega) (Nat.le_refl _) ?_)
  intro w1 hown hgrow
  have HF0 : FillU w w1 l.length l.length [] := by
    refine ⟨Nat.zero_le _, ?_, by simp, by simp, (Below.refl _ _).grown hgrow (Nat.le_refl _) (fun k h => by simp at h)⟩
    rw [List.nil_append, List.length_nil, Nat.sub_zero, ← made_flat encU_len zeroU #[.int .i64 0, .int .i64 0, .int .i64 0, .int .i64 0, .slice none 0 0] rfl (by omega)]
    exact hown
  clear hown hgrow
  go_wp2
  go_loopw [4] (fun i wr => ∃ L : List NodeU, Hid (L.map (·.1) = l.take L.length) ∧ i = .int .i64 (L.length : Nat) ∧ FillU w wr l.length l.length L) (fun i _ => l.length - (intOf i).toNat)
  case atStart => exact ⟨[], rfl, rfl, HF0⟩
  case round =>
    obtain ⟨L, HL, rfl, HFi⟩ := hrel
    have hk := HFi.len
    obtain ⟨k, HK⟩ : ∃ k, Hid (L.length = k) := ⟨_, rfl⟩
    rw [HK.out] at hk ⊢
    by_cases hlt : k < l.length
    · obtain ⟨b, off, u, rfl, hblt, hru, c0, c1, c2, c3, c4⟩ := HCS.out k hlt
      have hbel := HFi.bel
      have d0 := (hbel.cell (p := ⟨b, off + k * 5, none⟩) hblt).trans c0
      have d1 := (hbel.cell (p := ⟨b, off + k * 5 + 1, none⟩) hblt).trans c1
      have d2 := (hbel.cell (p := ⟨b, off + k * 5 + 2, none⟩) hblt).trans c2
      have d3 := (hbel.cell (p := ⟨b, off + k * 5 + 3, none⟩) hblt).trans c3
      have d4 := (hbel.cell (p := ⟨b, off + k * 5 + 4, none⟩) hblt).trans c4
      have HRU : Hid (RdN wr (aggN l[k] u) l[k]) := (hru.below hbel (Nat.le_refl _)).node
      have HSY : Hid (l[k].b.length ≤ 1048576) := HSM.out _ (List.getElem_mem hlt)
      have HTK : Hid (l.take (k + 1) = l.take k ++ [l[k]]) := List.take_succ_eq_append_getElem hlt
      clear c0 c1 c2 c3 c4 hru HF0
      generalize l[k] = y at *
      go_wp2_with fail
      refine (toNodeW (aggN y u) y _ HSY.out HRU.out).mono ?_
      rintro e w2 ⟨v2, rfl, ho2, hb2⟩
      obtain ⟨u2, rfl, ho2⟩ := ho2
      obtain ⟨a2, c2, rfl, _, _⟩ := own_rd ho2
      have hF2 := HFi.new hb2
      have hsz := HFi.bel.size
      have hrl := (HFi.row.lt w.heap.size rfl).2
      have ho3 := ownsRow_base ho2 (show w.heap.size + 1 ≤ wr.heap.size by omega)
      have hap : ∀ x ∈ L, ∀ j, blk x.2 j → ¬ blk (y, (Value.slice a2 y.b.length c2)).2 j := by
        intro x hx j hj hj2
        have h1 := ((HFi.inn x hx).lt j hj).2
        have h2 := (ho2.lt j hj2).1
        omega
      obtain ⟨x0, x1, x2, x3, x4, f0, f1, f2, f3, f4⟩ := hF2.cells (by rw [HK.out]; exact hlt)
      have hF3 := hF2.put (by rw [HK.out]; exact hlt) (y, (Value.slice a2 y.b.length c2)) ho3 hap
      rw [HK.out] at x0 x1 x2 x3 x4 f0 f1 f2 f3 f4 hF3
      have HF3 : Hid (FillU w (fiveAt w2 w.heap.size (k * 5) (.int .i64 y.k) (.int .i64 y.g) (.int .i64 y.t) (.int .i64 y.s) (Value.slice a2 y.b.length c2)) l.length l.length (L ++ [(y, (Value.slice a2 y.b.length c2))])) := hF3
      have HL3 : Hid ((L ++ [(y, (Value.slice a2 y.b.length c2))]).map (·.1) = l.take (L ++ [(y, (Value.slice a2 y.b.length c2))]).length) := by
        show _ = _
        rw [List.map_append, HL.out, List.length_append, HK.out]
        exact HTK.out.symm
      have HLN : Hid ((L ++ [(y, (Value.slice a2 y.b.length c2))]).length = k + 1) := by show _ = _; rw [List.length_append, HK.out]; rfl
      clear hF2 hF3 ho2 ho3 hap HFi hbel hb2 HRU d0 d1 d2 d3 d4 hsz hrl
      unfold aggN
      go_wp2
      go_roundw
      case rel => exact ⟨L ++ [(y, (Value.slice a2 y.b.length c2))], HL3, by rw [HLN.out]; go_num, HF3.out⟩
      case measure => simp [intOf]; omega
    · obtain rfl : k = l.length := by omega
      have HO := HFi.all HK.out
      rw [HK.out] at HO
      have hB := HFi.bel
      go_wp2
      go_ret
      refine ⟨_, rfl, ⟨L, ?_, HO⟩, hB⟩
      have := HL.out
      rwa [HK.out, List.take_length] at this

set_option maxRecDepth 20000 in
set_option maxHeartbeats 1000000 in
theorem toFsW (v : Value) (F : FsD) (w : World) (hs : SmF F) (hr : RdFs w v F) :
    Calls Tryd.prog 9 #[v] w fun e w' => ∃ v', e = .returned v' ∧ OwnFs w' w.heap.size w'.heap.size v' F ∧ Below w.heap.size w w' := by
  obtain ⟨a, ca, b, cb, rfl, _, r1, r2⟩ := hr
  obtain ⟨hl1, hl2, hl3, _⟩ := hs
  have HR1 : Hid (RdNs w a F.ns) := r1
  have HR2 : Hid (RdS w b F.ds) := r2
  have HL2 : Hid (∀ n ∈ F.ns, n.b.length ≤ 1048576) := hl2
  clear r1 r2 hl2
  go_enter Tryd.func9, Tryd.ntmps9
  go_wp2_with fail
  refine (toNodes _ _ F.ns _ hl1 HL2.out (HR1.out.below (below3 _ _ _ _) (Nat.le_refl _))).mono ?_
  rintro e w1 ⟨v1, rfl, ho1, hb1⟩
  obtain ⟨a1, c1, rfl, _, _⟩ := ho1.rd
  have hV0 : Var w1 (w.heap.size + 1 + 1) #[.slice none 0 0, .slice none 0 0] 30 := (Var.made3 w _ _ _ _).new hb1
  have hR0 : Var w1 (w.heap.size + 1) #[.slice none 0 0, .slice none 0 0] 30 := ((Var.made2 w _ _ _).alloc _).new hb1
  have hX0 : Var w1 w.heap.size #[.slice a F.ns.length ca, .slice b F.ds.length cb] 25 := (((Var.made w _ _).alloc _).alloc _).new hb1
  have hs0 : (((w.alloc (.cells #[.slice a F.ns.length ca, .slice b F.ds.length cb] 25)).alloc (.cells #[.slice none 0 0, .slice none 0 0] 30)).alloc (.cells #[.slice none 0 0, .slice none 0 0] 30)).heap.size = w.heap.size + 1 + 1 + 1 := by simp
  rw [hs0] at ho1 hb1
  have hb01 : Below w.heap.size w w1 := (below3 w _ _ _).trans (hb1.mono (by omega))
  have hV1 := hV0.set 0 (.slice a1 F.ns.length c1)
  have hR1 := hR0.other (Q := w.heap.size + 1 + 1) (by omega) 0 (.slice a1 F.ns.length c1)
  have hX1 := hX0.other (Q := w.heap.size + 1 + 1) (by omega) 0 (.slice a1 F.ns.length c1)
  have hb02 : Below w.heap.size w (w1.setCell ⟨w.heap.size + 1 + 1, 0, none⟩ (.slice a1 F.ns.length c1)) := hb01.setCell (p := ⟨w.heap.size + 1 + 1, 0, none⟩) (by show _ ≤ w.heap.size + 1 + 1; omega) _
  have hc0 := hV0.cell 0
  have hf0 := hV0.frozen 0
  have hcx := hX1.cell 1
  go_wp2_with fail
  have ho1' := OwnNs.only ho1 (Only.setCell (S := fun k => k = w.heap.size + 1 + 1) (Only.refl _ _) (p := ⟨w.heap.size + 1 + 1, 0, none⟩) rfl (.slice a1 F.ns.length c1)) (fun k h1 h2 e => by omega)
  have hsz1 : w.heap.size + 1 + 1 + 1 ≤ (w1.setCell ⟨w.heap.size + 1 + 1, 0, none⟩ (.slice a1 F.ns.length c1)).heap.size := by have := hV1.lt; omega
  have hsz2 : w1.heap.size ≤ (w1.setCell ⟨w.heap.size + 1 + 1, 0, none⟩ (.slice a1 F.ns.length c1)).heap.size := by simp [World.setCell]
  clear hc0 hf0 hcx hV0 hR0 hX0 hb01 hb1 ho1 hs0
  generalize w1.setCell ⟨w.heap.size + 1 + 1, 0, none⟩ (.slice a1 F.ns.length c1) = wx at *
  refine (toStrs _ _ F.ds _ hl3 (HR2.out.below hb02 (Nat.le_refl _))).mono ?_
  rintro e w2 ⟨v2, rfl, ho2, hb2⟩
  obtain ⟨a2, c2, rfl, _, _⟩ := own_rdS ho2
  have hV2 := hV1.new hb2
  have hR2 := hR1.new hb2
  have ho12 := (ho1'.below hb2).hi (show w1.heap.size ≤ w2.heap.size by have := hb2.size; omega)
  have ho2' := ownsRow_base ho2 hsz1
  have hhi : ∀ j, blk (.slice a2 F.ds.length c2) j → j < w2.heap.size := fun j hj => (ho2.lt j hj).2
  have hb03 : Below w.heap.size w w2 := hb02.trans (hb2.mono hb02.size)
  clear hV1 hR1 hX1 ho1' ho2 hb2 hb02 hsz1 hsz2
  have hV3 := hV2.set 1 (.slice a2 F.ds.length c2)
  have hR3 := hR2.other (Q := w.heap.size + 1 + 1) (by omega) 1 (.slice a2 F.ds.length c2)
  have hR4 := hR3.set 0 (.slice a1 F.ns.length c1)
  have hR5 := hR4.set 1 (.slice a2 F.ds.length c2)
  have HR5 : Hid (Var (((w2.setCell ⟨w.heap.size + 1 + 1, 1, none⟩ (.slice a2 F.ds.length c2)).setCell ⟨w.heap.size + 1, 0, none⟩ (.slice a1 F.ns.length c1)).setCell ⟨w.heap.size + 1, 1, none⟩ (.slice a2 F.ds.length c2)) (w.heap.size + 1) #[.slice a1 F.ns.length c1, .slice a2 F.ds.length c2] 30) := hR5
  have hOn : Only (fun k => k = w.heap.size + 1 + 1 ∨ k = w.heap.size + 1) w2 (((w2.setCell ⟨w.heap.size + 1 + 1, 1, none⟩ (.slice a2 F.ds.length c2)).setCell ⟨w.heap.size + 1, 0, none⟩ (.slice a1 F.ns.length c1)).setCell ⟨w.heap.size + 1, 1, none⟩ (.slice a2 F.ds.length c2)) :=
    ((((Only.refl _ _).setCell (p := ⟨w.heap.size + 1 + 1, 1, none⟩) (.inl rfl) _).setCell (p := ⟨w.heap.size + 1, 0, none⟩) (.inr rfl) _).setCell (p := ⟨w.heap.size + 1, 1, none⟩) (.inr rfl) _)
  have E1 : Hid (OwnFs (((w2.setCell ⟨w.heap.size + 1 + 1, 1, none⟩ (.slice a2 F.ds.length c2)).setCell ⟨w.heap.size + 1, 0, none⟩ (.slice a1 F.ns.length c1)).setCell ⟨w.heap.size + 1, 1, none⟩ (.slice a2 F.ds.length c2)) w.heap.size w2.heap.size (.agg #[.slice a1 F.ns.length c1, .slice a2 F.ds.length c2]) F) :=
    (OwnFs.only (lo := w.heap.size + 1 + 1 + 1) ⟨_, _, rfl, ho12, ho2', hhi⟩ hOn (fun k h1 _ e => by omega)).base (by omega)
  have hb04 : Below w.heap.size w (((w2.setCell ⟨w.heap.size + 1 + 1, 1, none⟩ (.slice a2 F.ds.length c2)).setCell ⟨w.heap.size + 1, 0, none⟩ (.slice a1 F.ns.length c1)).setCell ⟨w.heap.size + 1, 1, none⟩ (.slice a2 F.ds.length c2)) := hb03.trans (hOn.below hb03.size (fun k e => by omega))
  have hs4 : (((w2.setCell ⟨w.heap.size + 1 + 1, 1, none⟩ (.slice a2 F.ds.length c2)).setCell ⟨w.heap.size + 1, 0, none⟩ (.slice a1 F.ns.length c1)).setCell ⟨w.heap.size + 1, 1, none⟩ (.slice a2 F.ds.length c2)).heap.size = w2.heap.size := by simp [World.setCell]
  have HS4 : Hid _ := hs4
  have hc1 := hV2.cell 1
  have hf1 := hV2.frozen 1
  have hd0 := hV3.cell 0
  have hd1 := hV3.cell 1
  have hr0 := hR3.cell 0
  have hr1 := hR4.cell 1
  have hg0 := hR3.frozen 0
  have hg1 := hR4.frozen 1
  clear ho12 ho2' hb03 hV2 hV3 hR2 hR3 hR4 hR5 hOn hhi hs4
  simp at hc1 hd0 hd1 hr0 hr1
  go_wp2
  refine bodyPost_ret (results_cell_row rfl _ _ (w.heap.size + 1) 30 #[.slice a1 F.ns.length c1, .slice a2 F.ds.length c2] (0, 0) _ rfl HR5.out Tryd.underlying30 rfl Tryd.sizeFs) rfl ?_
  exact ⟨_, rfl, by rw [HS4.out]; exact E1.out, hb04⟩

set_option maxRecDepth 20000 in
set_option maxHeartbeats 1000000 in
theorem eqNodes (a c : Option Addr) (ca cc : Nat) (l : List NodeD) (w : World) (hl : l.length ≤ 4194304) (hs2 : ∀ n ∈ l, n.b.length ≤ 4194304) (hr : RdNs w a l) (hs : RdNs w c l) :
    Calls Tryd.prog 28 #[.slice a l.length ca, .slice c l.length cc] w fun e w' => e = .returned (.bool true) ∧ Below w.heap.size w w' := by
  have HCS : Hid (∀ k (hk : k < l.length), ∃ b off u, a = some ⟨b, off, none⟩ ∧ b < w.heap.size ∧ RdU w u l[k].b ∧ NodeAt w b (off + k * 5) l[k] u) := fun k hk => hr.at k hk
  have HDS : Hid (∀ k (hk : k < l.length), ∃ b off u, c = some ⟨b, off, none⟩ ∧ b < w.heap.size ∧ RdU w u l[k].b ∧ NodeAt w b (off + k * 5) l[k] u) := fun k hk => hs.at k hk
  have HSM : Hid (∀ n ∈ l, n.b.length ≤ 4194304) := hs2
  clear hr hs hs2
  go_enter Tryd.func28, Tryd.ntmps28
  go_wp2
  go_loopw [5] (fun i wr => ∃ k : Nat, k ≤ l.length ∧ i = .int .i64 k ∧ Below w.heap.size w wr) (fun i _ => l.length - (intOf i).toNat)
  case atStart => exact ⟨0, Nat.zero_le _, rfl, Below.refl _ _⟩
  case round =>
    obtain ⟨k, hk, rfl, hbel⟩ := hrel
    by_cases hlt : k < l.length
    · obtain ⟨b, off, u, rfl, hblt, hru, c0, c1, c2, c3, c4⟩ := HCS.out k hlt
      obtain ⟨b', off', u', rfl, hblt', hru', c0', c1', c2', c3', c4'⟩ := HDS.out k hlt
      have d0 := (hbel.cell (p := ⟨b, off + k * 5, none⟩) hblt).trans c0
      have d1 := (hbel.cell (p := ⟨b, off + k * 5 + 1, none⟩) hblt).trans c1
      have d2 := (hbel.cell (p := ⟨b, off + k * 5 + 2, none⟩) hblt).trans c2
      have d3 := (hbel.cell (p := ⟨b, off + k * 5 + 3, none⟩) hblt).trans c3
      have d4 := (hbel.cell (p := ⟨b, off + k * 5 + 4, none⟩) hblt).trans c4
      have e0 := (hbel.cell (p := ⟨b', off' + k * 5, none⟩) hblt').trans c0'
      have e1 := (hbel.cell (p := ⟨b', off' + k * 5 + 1, none⟩) hblt').trans c1'
      have e2 := (hbel.cell (p := ⟨b', off' + k * 5 + 2, none⟩) hblt').trans c2'
      have e3 := (hbel.cell (p := ⟨b', off' + k * 5 + 3, none⟩) hblt').trans c3'
      have e4 := (hbel.cell (p := ⟨b', off' + k * 5 + 4, none⟩) hblt').trans c4'
      have HE : Hid (Calls Tryd.prog 53 #[.agg #[.int .i64 l[k].k, .int .i64 l[k].g, .int .i64 l[k].t, .int .i64 l[k].s, u], .agg #[.int .i64 l[k].k, .int .i64 l[k].g, .int .i64 l[k].t, .int .i64 l[k].s, u']] wr.drew fun e w' => e = .returned (.bool true) ∧ Below wr.drew.heap.size wr.drew w') :=
        eqNodeW _ _ l[k] _ (HSM.out _ (List.getElem_mem hlt)) (hru.below hbel.drew (Nat.le_refl _)).node (hru'.below hbel.drew (Nat.le_refl _)).node
      clear c0 c1 c2 c3 c4 c0' c1' c2' c3' c4' hru hru'
      generalize l[k].k = y0 at *
      generalize l[k].g = y1 at *
      generalize l[k].t = y2 at *
      generalize l[k].s = y3 at *
      go_wp2
      go_region_with (go_at_call 53; refine HE.out.mono ?_; rintro e w2 ⟨rfl, hb2⟩)
      all_goals
        have hb3 : Below w.heap.size w w2 := hbel.drew.trans (hb2.mono hbel.size)
        go_wp2
        go_roundw
        case rel => exact ⟨k + 1, by omega, by go_num, hb3⟩
        case measure => simp [intOf]; omega
    · go_wp2
      go_ret
      exact ⟨rfl, hbel⟩

set_option maxRecDepth 20000 in
set_option maxHeartbeats 400000 in
theorem eqFsW (v u : Value) (F : FsD) (w : World) (hl : SmF F) (hr : RdFs w v F) (hs : RdFs w u F) :
    Calls Tryd.prog 11 #[v, u] w fun e w' => e = .returned (.bool true) ∧ Below w.heap.size w w' := by
  obtain ⟨a, ca, b, cb, rfl, _, r1, r2⟩ := hr
  obtain ⟨a', ca', b', cb', rfl, _, r1', r2'⟩ := hs
  have HR : Hid (RdNs w a F.ns ∧ RdS w b F.ds ∧ RdNs w a' F.ns ∧ RdS w b' F.ds) := ⟨r1, r2, r1', r2'⟩
  obtain ⟨hl1, hl2, hl3, _⟩ := hl
  have HL2 : Hid (∀ n ∈ F.ns, n.b.length ≤ 4194304) := fun n hn => by have := hl2 n hn; omega
  clear r1 r2 r1' r2' hl2
  go_enter Tryd.func11, Tryd.ntmps11
  go_wp2_with fail
  refine (eqNodes _ _ _ _ F.ns _ (by omega) HL2.out (HR.out.1.below (below2 _ _ _) (Nat.le_refl _)) (HR.out.2.2.1.below (below2 _ _ _) (Nat.le_refl _))).mono ?_
  rintro e w1 ⟨rfl, hb1⟩
  have hX : Var w1 w.heap.size #[.slice a F.ns.length ca, .slice b F.ds.length cb] 30 := ((Var.made w _ _).alloc _).new hb1
  have hY : Var w1 (w.heap.size + 1) #[.slice a' F.ns.length ca', .slice b' F.ds.length cb'] 30 := (Var.made2 w _ _ _).new hb1
  have hb01 : Below w.heap.size w w1 := (below2 w _ _).trans (hb1.mono (by simp; omega))
  have hx1 := hX.cell 1
  have hy1 := hY.cell 1
  clear hX hY hb1
  simp at hx1 hy1
  go_wp2_with fail
  refine (eqS _ _ _ _ F.ds _ (by omega) (HR.out.2.1.below hb01 (Nat.le_refl _)) (HR.out.2.2.2.below hb01 (Nat.le_refl _))).mono ?_
  rintro e w2 ⟨rfl, hb2⟩
  go_wp2
  go_ret
  exact ⟨rfl, hb01.trans (hb2.mono hb01.size)⟩
end Go.Proofs.YthfgfhbinggpfaaDoor

/-
  Own text: a branch of the call's own, whatever there is by now; a copy.
-/
namespace Go.Proofs.YthfgfhbinggpfaaDoor
open Go.RowKit

def OwnF (w : World) (lo : Nat) (v : Value) (F : FsD) : Prop := OwnFs w lo w.heap.size v F
theorem OwnF.rd {w : World} {lo : Nat} {v : Value} {F : FsD} (h : OwnF w lo v F) : RdFs w v F := OwnFs.rd h
theorem OwnF.lay {w : World} {lo : Nat} {v : Value} {F : FsD} (h : OwnF w lo v F) : ∃ a ca b cb, v = .agg #[.slice a F.ns.length ca, .slice b F.ds.length cb] := OwnFs.lay h
theorem OwnF.below {w w' : World} {lo : Nat} {v : Value} {F : FsD} (h : OwnF w lo v F) (hb : Below w.heap.size w w') : OwnF w' lo v F := (OwnFs.below h hb).hi hb.size
theorem OwnF.base {w : World} {lo lo' : Nat} {v : Value} {F : FsD} (h : OwnF w lo v F) (hl : lo' ≤ lo) : OwnF w lo' v F := OwnFs.base h hl
theorem toFsX (v : Value) (F : FsD) (w : World) (hs : SmF F) (hr : RdFs w v F) :
    Calls Tryd.prog 9 #[v] w fun e w' => ∃ v', e = .returned v' ∧ OwnF w' w.heap.size v' F ∧ Below w.heap.size w w' := toFsW v F w hs hr
end Go.Proofs.YthfgfhbinggpfaaDoor

/-
  Own text: the laws' marks on branches, and whether they are still there.
-/
namespace Go.Proofs.YthfgfhbinggpfaaDoor
open Go.RowKit

/-- A node, all of it marked from k on. -/
def mkU (k : Nat) (n : NodeD) : NodeD := ⟨(k : Nat), ((k + 1 : Nat) : Int), ((k + 2 : Nat) : Int), ((k + 3 : Nat) : Int), marksI (k + 4) n.b.length⟩
def cntU (l : List NodeD) : Nat := (l.map fun n => 4 + n.b.length).sum
def mkNs : Nat → List NodeD → List NodeD
  | _, [] => []
  | k, n :: l => mkU k n :: mkNs (k + (4 + n.b.length)) l
def mkL (k : Nat) (M : List NodeU) : List NodeU := (mkNs k (M.map (·.1))).zip (M.map (·.2))
theorem mkNs_len : ∀ (k : Nat) (l : List NodeD), (mkNs k l).length = l.length
  | _, [] => rfl
  | k, n :: l => by simp [mkNs, mkNs_len]
theorem cntU_cons (n : NodeD) (l : List NodeD) : cntU (n :: l) = 4 + n.b.length + cntU l := by simp [cntU]
theorem cntU_app (l m : List NodeD) : cntU (l ++ m) = cntU l + cntU m := by simp [cntU]
theorem mkNs_app : ∀ (k : Nat) (l m : List NodeD), mkNs k (l ++ m) = mkNs k l ++ mkNs (k + cntU l) m
  | k, [], m => by simp [mkNs, cntU]
  | k, n :: l, m => by
    rw [List.cons_append, mkNs, mkNs, mkNs_app _ l m, cntU_cons, List.cons_append, show k + (4 + n.b.length) + cntU l = k + (4 + n.b.length + cntU l) by omega]
theorem mkL_app (k : Nat) (A B : List NodeU) : mkL k (A ++ B) = mkL k A ++ mkL (k + cntU (A.map (·.1))) B := by
  unfold mkL
  rw [List.map_append, List.map_append, mkNs_app, List.zip_append (by rw [mkNs_len]; simp)]
theorem mkL_one (k : Nat) (x : NodeU) : mkL k [x] = [(mkU k x.1, x.2)] := rfl
theorem mkL_len (k : Nat) (M : List NodeU) : (mkL k M).length = M.length := by unfold mkL; simp [mkNs_len]
theorem mkL_fst (k : Nat) (M : List NodeU) : (mkL k M).map (·.1) = mkNs k (M.map (·.1)) := by
  unfold mkL
  rw [← List.unzip_fst, List.unzip_zip (by rw [mkNs_len]; simp)]
theorem mkL_snd (k : Nat) (M : List NodeU) : (mkL k M).map (·.2) = M.map (·.2) := by
  unfold mkL
  rw [← List.unzip_snd, List.unzip_zip (by rw [mkNs_len]; simp)]
theorem cntU_le (l : List NodeD) : cntU l ≤ 4 * szN l := by
  induction l with
  | nil => simp [cntU]
  | cons n l ih => rw [cntU_cons]; simp only [szN, List.map_cons, List.sum_cons] at ih ⊢; omega
/-- Those ahead of j are marked. -/
def mkTo (k : Nat) (M : List NodeU) (j : Nat) : List NodeU := mkL k (M.take j) ++ M.drop j
theorem mkTo_len (k : Nat) (M : List NodeU) {j : Nat} (h : j ≤ M.length) : (mkTo k M j).length = M.length := by unfold mkTo; simp [mkL_len]; omega
theorem mkTo_at (k : Nat) (M : List NodeU) {j : Nat} (h : j < M.length) : (mkTo k M j)[j]? = some M[j] := by
  unfold mkTo
  rw [List.getElem?_append_right (by rw [mkL_len]; simp; omega), mkL_len, List.length_take, Nat.min_eq_left (by omega), Nat.sub_self]
  simp [h]
theorem mkTo_next (k : Nat) (M : List NodeU) {j : Nat} (h : j < M.length) : (mkTo k M j).set j (mkU (k + cntU ((M.take j).map (·.1))) M[j].1, M[j].2) = mkTo k M (j + 1) := by
  unfold mkTo
  rw [List.set_append_right _ _ (by rw [mkL_len]; simp; omega), mkL_len, List.length_take, Nat.min_eq_left (by omega), Nat.sub_self]
  rw [List.take_succ_eq_append_getElem h, mkL_app, mkL_one, List.append_assoc, List.drop_eq_getElem_cons h, List.set_cons_zero]
  rfl
theorem mkTo_zero (k : Nat) (M : List NodeU) : mkTo k M 0 = M := by simp [mkTo, mkL, mkNs]
theorem mkTo_all (k : Nat) (M : List NodeU) : mkTo k M M.length = mkL k M := by simp [mkTo]

theorem apart_map {M M' : List NodeU} (hp : M'.map (·.2) = M.map (·.2)) (h : M.Pairwise fun x y => ∀ j, blk x.2 j → ¬ blk y.2 j) : M'.Pairwise fun x y => ∀ j, blk x.2 j → ¬ blk y.2 j := by
  have h1 : (M.map (·.2)).Pairwise fun x y => ∀ j, blk x j → ¬ blk y j := List.pairwise_map.2 h
  rw [← hp] at h1
  exact List.pairwise_map.1 h1
/-- One cell of one node of a row is stored anew; its blocks stay. -/
theorem OwnL.set {w : World} {lo hi : Nat} {g c : Nat} {M : List NodeU} (h : OwnL w lo hi (.slice (some ⟨g, 0, none⟩) M.length c) M) {i : Nat} (hi' : i < M.length) (j : Nat) (hj : j < 4) (y : NodeD) (u : Value) (hb : y.b = M[i].1.b) (he : encU (y, M[i].2) = (encU M[i]).set j u) :
    OwnL (w.setCell ⟨g, i * 5 + j, none⟩ u) lo hi (.slice (some ⟨g, 0, none⟩) M.length c) (M.set i (y, M[i].2)) := by
  have hst := (h.row.stored (i * 5 + j) u).1
  rw [flat_set encU_len M i hi' j (y, M[i].2) u (by omega) he] at hst
  have hO : Only (fun k => k = g) w (w.setCell ⟨g, i * 5 + j, none⟩ u) := Only.setCell (S := fun k => k = g) (Only.refl _ _) (p := ⟨g, i * 5 + j, none⟩) rfl u
  have hx : ∀ x ∈ M, ∀ k, blk x.2 k → ¬ k = g := fun x hx k hk e => own_apart (h.inn x hx) h.row (by decide) k hk (by rw [e]; rfl)
  have hmem : ∀ x ∈ M.set i (y, M[i].2), ∃ z ∈ M, z.2 = x.2 ∧ z.1.b = x.1.b := by
    intro x hx
    rcases List.mem_or_eq_of_mem_set hx with hx | rfl
    · exact ⟨x, hx, rfl, rfl⟩
    · exact ⟨M[i], List.getElem_mem hi', rfl, hb.symm⟩
  refine ⟨by rw [List.length_set]; exact hst, ?_, ?_, h.top, ?_⟩
  · intro x hx'
    obtain ⟨z, hz, e1, e2⟩ := hmem x hx'
    rw [← e1, ← e2]
    exact own_only (h.inn z hz) hO (fun k hk => hx z hz k hk)
  · have hp : (M.set i (y, M[i].2)).map (·.2) = M.map (·.2) := by
      apply List.ext_getElem
      · simp
      · intro q h1 h2
        simp only [List.getElem_map, List.getElem_set]
        split
        · subst_vars; rfl
        · rfl
    exact apart_map hp h.apart
  · intro x hx' k hk
    obtain ⟨z, hz, e1, _⟩ := hmem x hx'
    exact h.low z hz k (by rw [e1]; exact hk)
/-- The blocks of one node are written anew. -/
theorem OwnL.inner {w w' : World} {lo hi : Nat} {v : Value} {M : List NodeU} (h : OwnL w lo hi v M) {i : Nat} (hi' : i < M.length) (y : NodeD) (hy : encU (y, M[i].2) = encU M[i])
    (hn : w'.ownsRow lo 3 1 M[i].2 y.b.length (y.b.map (Value.int .i64))) (hg : w.grownBy w' M[i].2.ownBlock) : OwnL w' lo hi v (M.set i (y, M[i].2)) := by
  have hO := Only.of_grown hg
  have hflat : (M.set i (y, M[i].2)).flatMap encU = M.flatMap encU := by
    have := flat_set encU_len M i hi' 4 (y, M[i].2) M[i].2 (by omega) (by rw [hy]; rfl)
    rw [← this]
    apply List.ext_getElem?
    intro q
    by_cases e : i * 5 + 4 = q
    · subst e
      rw [List.getElem?_set_self (by rw [flat_len_c encU_len]; omega), (uCells hi').2.2.2.2]
    · rw [List.getElem?_set_ne e]
  refine ⟨?_, ?_, ?_, h.top, ?_⟩
  · rw [hflat, List.length_set]
    exact own_only h.row hO (fun k hk e => own_apart h.row (h.inn _ (List.getElem_mem hi')) (by decide) k hk e)
  · intro x hx
    obtain ⟨q, hq, rfl⟩ := List.getElem_of_mem hx
    have hq' : q < M.length := by simpa using hq
    by_cases e : i = q
    · subst e
      rw [List.getElem_set_self]
      exact hn
    · rw [List.getElem_set_ne e]
      refine own_only (h.inn _ (List.getElem_mem hq')) hO (fun k hk e2 => ?_)
      have hp := List.pairwise_iff_getElem.1 h.apart
      rcases Nat.lt_or_gt_of_ne e with h1 | h1
      · exact hp i q hi' hq' h1 k e2 hk
      · exact hp q i hq' hi' h1 k hk e2
  · have hp : (M.set i (y, M[i].2)).map (·.2) = M.map (·.2) := by
      apply List.ext_getElem
      · simp
      · intro q h1 h2
        simp only [List.getElem_map, List.getElem_set]
        split
        · subst_vars; rfl
        · rfl
    exact apart_map hp h.apart
  · intro x hx k hk
    rcases List.mem_or_eq_of_mem_set hx with hx | rfl
    · exact h.low x hx k hk
    · exact h.low _ (List.getElem_mem hi') k hk
end Go.Proofs.YthfgfhbinggpfaaDoor

/-
  Own text: the laws' marks on branches: laid, and whether they are still there.
-/
namespace Go.Proofs.YthfgfhbinggpfaaDoor
open Go.RowKit

theorem mkL_at (k : Nat) (M : List NodeU) {j : Nat} (h : j < M.length) : (mkL k M)[j]? = some (mkU (k + cntU ((M.take j).map (·.1))) M[j].1, M[j].2) := by
  have e : M = M.take j ++ ([M[j]] ++ M.drop (j + 1)) := by
    rw [List.singleton_append, ← List.drop_eq_getElem_cons h, List.take_append_drop]
  have h2 : mkL k M = mkL k (M.take j) ++ (mkL (k + cntU ((M.take j).map (·.1))) [M[j]] ++ mkL (k + cntU ((M.take j).map (·.1)) + cntU ([M[j]].map (·.1))) (M.drop (j + 1))) := by
    conv => lhs; rw [e]
    rw [mkL_app, mkL_app]
  rw [h2, List.getElem?_append_right (by rw [mkL_len]; simp; omega), mkL_len, List.length_take, Nat.min_eq_left (by omega), Nat.sub_self, mkL_one]
  rfl
theorem cntU_take {M : List NodeU} {j : Nat} (h : j < M.length) : cntU ((M.take (j + 1)).map (·.1)) = cntU ((M.take j).map (·.1)) + (4 + M[j].1.b.length) := by
  rw [List.take_succ_eq_append_getElem h, List.map_append, cntU_app]
  simp [cntU]
theorem cntU_le_take (M : List NodeU) (j : Nat) : cntU ((M.take j).map (·.1)) ≤ cntU (M.map (·.1)) := by
  have h : M.map (·.1) = (M.take j).map (·.1) ++ (M.drop j).map (·.1) := by rw [← List.map_append, List.take_append_drop]
  rw [h, cntU_app]; omega
theorem cntU_len (l : List NodeD) : l.length ≤ cntU l := by
  induction l with
  | nil => simp [cntU]
  | cons n l ih => rw [cntU_cons]; simp only [List.length_cons]; omega
/-- The blocks of a row of nodes, those of their blocks' rows too. -/
def blkL (v : Value) (M : List NodeU) (j : Nat) : Prop := blk v j ∨ ∃ x ∈ M, blk x.2 j
theorem OwnL.blkL_in {w : World} {lo hi : Nat} {v : Value} {M : List NodeU} (h : OwnL w lo hi v M) {j : Nat} (hj : blkL v M j) : lo ≤ j ∧ j < hi := by
  rcases hj with hj | ⟨x, hx, hj⟩
  · exact ⟨(h.row.lt j hj).1, h.top j hj⟩
  · exact ⟨((h.inn x hx).lt j hj).1, h.low x hx j hj⟩
theorem OwnL.apart_txt {w : World} {lo hi lo' : Nat} {v u : Value} {M : List NodeU} {n : Nat} {xs : List Value} (h : OwnL w lo hi v M) (ho : w.ownsRow lo' 9 1 u n xs) : ∀ j, blk u j → ¬ blkL v M j := by
  rintro j hj (h1 | ⟨x, hx, h1⟩)
  · exact own_apart ho h.row (by decide) j hj h1
  · exact own_apart ho (h.inn x hx) (by decide) j hj h1
/-- Four cells of one node of a row are stored anew. -/
theorem OwnL.four {w : World} {lo hi : Nat} {g c : Nat} {M : List NodeU} (h : OwnL w lo hi (.slice (some ⟨g, 0, none⟩) M.length c) M) {i : Nat} (hi' : i < M.length) (x0 x1 x2 x3 : Int) :
    OwnL ((((w.setCell ⟨g, i * 5, none⟩ (.int .i64 x0)).setCell ⟨g, i * 5 + 1, none⟩ (.int .i64 x1)).setCell ⟨g, i * 5 + 2, none⟩ (.int .i64 x2)).setCell ⟨g, i * 5 + 3, none⟩ (.int .i64 x3)) lo hi (.slice (some ⟨g, 0, none⟩) M.length c) (M.set i (⟨x0, x1, x2, x3, M[i].1.b⟩, M[i].2)) := by
  have a0 := h.set hi' 0 (by omega) ⟨x0, M[i].1.g, M[i].1.t, M[i].1.s, M[i].1.b⟩ (.int .i64 x0) rfl rfl
  rw [Nat.add_zero] at a0
  have l0 : i < (M.set i ((⟨x0, M[i].1.g, M[i].1.t, M[i].1.s, M[i].1.b⟩ : NodeD), M[i].2)).length := by simpa using hi'
  have e0 : (M.set i ((⟨x0, M[i].1.g, M[i].1.t, M[i].1.s, M[i].1.b⟩ : NodeD), M[i].2))[i] = ((⟨x0, M[i].1.g, M[i].1.t, M[i].1.s, M[i].1.b⟩ : NodeD), M[i].2) := List.getElem_set_self _
  rw [show M.length = (M.set i ((⟨x0, M[i].1.g, M[i].1.t, M[i].1.s, M[i].1.b⟩ : NodeD), M[i].2)).length by simp] at a0
  have a1 := a0.set l0 1 (by omega) ⟨x0, x1, M[i].1.t, M[i].1.s, M[i].1.b⟩ (.int .i64 x1) (by rw [e0]) (by rw [e0]; rfl)
  rw [e0, List.set_set] at a1
  have l1 : i < (M.set i ((⟨x0, x1, M[i].1.t, M[i].1.s, M[i].1.b⟩ : NodeD), M[i].2)).length := by simpa using hi'
  have e1 : (M.set i ((⟨x0, x1, M[i].1.t, M[i].1.s, M[i].1.b⟩ : NodeD), M[i].2))[i] = ((⟨x0, x1, M[i].1.t, M[i].1.s, M[i].1.b⟩ : NodeD), M[i].2) := List.getElem_set_self _
  rw [show (M.set i ((⟨x0, M[i].1.g, M[i].1.t, M[i].1.s, M[i].1.b⟩ : NodeD), M[i].2)).length = (M.set i ((⟨x0, x1, M[i].1.t, M[i].1.s, M[i].1.b⟩ : NodeD), M[i].2)).length by simp] at a1
  have a2 := a1.set l1 2 (by omega) ⟨x0, x1, x2, M[i].1.s, M[i].1.b⟩ (.int .i64 x2) (by rw [e1]) (by rw [e1]; rfl)
  rw [e1, List.set_set] at a2
  have l2 : i < (M.set i ((⟨x0, x1, x2, M[i].1.s, M[i].1.b⟩ : NodeD), M[i].2)).length := by simpa using hi'
  have e2 : (M.set i ((⟨x0, x1, x2, M[i].1.s, M[i].1.b⟩ : NodeD), M[i].2))[i] = ((⟨x0, x1, x2, M[i].1.s, M[i].1.b⟩ : NodeD), M[i].2) := List.getElem_set_self _
  rw [show (M.set i ((⟨x0, x1, M[i].1.t, M[i].1.s, M[i].1.b⟩ : NodeD), M[i].2)).length = (M.set i ((⟨x0, x1, x2, M[i].1.s, M[i].1.b⟩ : NodeD), M[i].2)).length by simp] at a2
  have a3 := a2.set l2 3 (by omega) ⟨x0, x1, x2, x3, M[i].1.b⟩ (.int .i64 x3) (by rw [e2]) (by rw [e2]; rfl)
  rw [e2, List.set_set] at a3
  rw [show (M.set i ((⟨x0, x1, x2, M[i].1.s, M[i].1.b⟩ : NodeD), M[i].2)).length = M.length by simp] at a3
  exact a3
theorem OwnL.only_in {w w' : World} {lo hi : Nat} {v : Value} {M : List NodeU} {S : Nat → Prop} (_ : OwnL w lo hi v M) (ho : Only S w w') (hs : ∀ k, S k → lo ≤ k ∧ k < hi) : Only (fun k => lo ≤ k ∧ k < hi) w w' := ho.mono fun k _ h => hs k h

/-- A branch, all of it marked from k on, and how many marks. -/
def mkF (k : Nat) (F : FsD) : FsD := ⟨mkNs k F.ns, marksS (k + cntU F.ns) F.ds.length⟩
def cntF (F : FsD) : Nat := cntU F.ns + F.ds.length

theorem cntF_le {F : FsD} (h : szF F ≤ 1048576) : cntF F ≤ 8388608 := by
  have h1 := cntU_le F.ns
  have h2 := szT_len F.ds
  unfold szF at h
  unfold cntF
  omega
theorem mkF_len (k : Nat) (F : FsD) : (mkF k F).ns.length = F.ns.length ∧ (mkF k F).ds.length = F.ds.length := ⟨mkNs_len _ _, marksS_len _ _⟩

theorem unmark {M' : List NodeU} {k : Nat} {l : List NodeD} (h : M'.map (·.1) = mkNs k l) : ∃ M : List NodeU, M.map (·.1) = l ∧ mkL k M = M' := by
  have hlm : M'.length = l.length := by have := congrArg List.length h; simpa [mkNs_len] using this
  have e1 : (l.zip (M'.map (·.2))).map (·.1) = l := List.map_fst_zip (by simp [hlm])
  have e2 : (l.zip (M'.map (·.2))).map (·.2) = M'.map (·.2) := List.map_snd_zip (by simp [hlm])
  refine ⟨l.zip (M'.map (·.2)), e1, ?_⟩
  unfold mkL
  rw [e1, e2, ← h]
  exact (List.zip_of_prod rfl rfl).symm

end Go.Proofs.YthfgfhbinggpfaaDoor

/-
  Own text: rows of texts and of writes of the call's own, between two bounds; the laws' helpers over them in one make.
-/
namespace Go.Proofs.YthfgfhbinggpfaaDoor
open Go.RowKit

def RdTx (w : World) (v : Value) (l : List ByteArray) : Prop := ∃ a c, v = .slice a l.length c ∧ RdS w a l
def OwnTx (w : World) (lo hi : Nat) (v : Value) (l : List ByteArray) : Prop := w.ownsRow lo 9 1 v l.length (l.map Value.string) ∧ ∀ j, blk v j → j < hi
theorem OwnTx.rd {w : World} {lo hi : Nat} {v : Value} {l : List ByteArray} (h : OwnTx w lo hi v l) : RdTx w v l := by
  obtain ⟨a, c, rfl, _, hr⟩ := own_rdS h.1
  exact ⟨a, c, rfl, hr⟩
theorem OwnTx.below {w w' : World} {lo hi : Nat} {v : Value} {l : List ByteArray} (h : OwnTx w lo hi v l) (hb : Below w.heap.size w w') : OwnTx w' lo hi v l := ⟨ownsRow_below h.1 hb (Nat.le_refl _), h.2⟩
theorem OwnTx.only {S : Nat → Prop} {w w' : World} {lo hi : Nat} {v : Value} {l : List ByteArray} (h : OwnTx w lo hi v l) (ho : Only S w w') (hs : ∀ k, lo ≤ k → k < hi → ¬ S k) : OwnTx w' lo hi v l := ⟨own_only h.1 ho (fun k hk => hs k (h.1.lt k hk).1 (h.2 k hk)), h.2⟩
theorem OwnTx.of {w : World} {lo : Nat} {v : Value} {l : List ByteArray} (h : w.ownsRow lo 9 1 v l.length (l.map Value.string)) : OwnTx w lo w.heap.size v l := ⟨h, fun j hj => (h.lt j hj).2⟩
theorem eqTxX (v u : Value) (l : List ByteArray) (w : World) (hl : l.length ≤ 4194304) (hr : RdTx w v l) (hs : RdTx w u l) : Calls Tryd.prog 29 #[v, u] w fun e w' => e = .returned (.bool true) ∧ Below w.heap.size w w' := by
  obtain ⟨a, c, rfl, hr⟩ := hr
  obtain ⟨a', c', rfl, hs⟩ := hs
  exact eqS _ _ _ _ l w hl hr hs
def RdPt (w : World) (v : Value) (l : List PutD) : Prop := ∃ a c, v = .slice a l.length c ∧ RdF encP 2 w a l
end Go.Proofs.YthfgfhbinggpfaaDoor

/-
  Own text: a branch that is put together, node by node and text by text, in a variable.
-/
namespace Go.Proofs.YthfgfhbinggpfaaDoor
open Go.RowKit

/-- A row of one make does not lie in a variable of another. -/
theorem own_ne_var {w : World} {base : Nat} {e : TypeId} {size : Nat} {v : Value} {n : Nat} {xs : List Value} (h : w.ownsRow base e size v n xs) {Q : Nat} {C : Array Value} {t : TypeId} (hv : Var w Q C t) (hne : e ≠ t) : ∀ k, blk v k → k ≠ Q := by
  intro k hk e1
  have hv' : w.heap[Q]? = some (.cells C t (0, 0)) := hv
  rcases h.2 with ⟨rfl, _⟩ | ⟨g, cap, cur, rfl, _, hgg, _⟩
  · cases hk
  · cases hk
    rw [← e1] at hv'
    rw [hgg] at hv'
    injection hv' with hv'
    injection hv' with _ ht _
    exact hne ht
theorem OwnL.ne_var {w : World} {lo hi : Nat} {v : Value} {M : List NodeU} (h : OwnL w lo hi v M) {Q : Nat} {C : Array Value} (hv : Var w Q C 30) : ∀ k, blkL v M k → k ≠ Q := by
  rintro k (hk | ⟨x, hx, hk⟩)
  · exact own_ne_var h.row hv (by decide) k hk
  · exact own_ne_var (h.inn x hx) hv (by decide) k hk
theorem OwnL.keep {S : Nat → Prop} {w w' : World} {lo hi : Nat} {v : Value} {M : List NodeU} (h : OwnL w lo hi v M) (ho : Only S w w') (hs : ∀ k, blkL v M k → ¬ S k) : OwnL w' lo hi v M :=
  ⟨own_only h.row ho (fun k hk => hs k (.inl hk)), fun x hx => own_only (h.inn x hx) ho (fun k hk => hs k (.inr ⟨x, hx, hk⟩)), h.apart, h.top, h.low⟩
theorem OwnL.app {w w' : World} {lo hi : Nat} {v v' : Value} {M : List NodeU} {x : NodeU} (h : OwnL w lo hi v M) (hx : w.ownsRow lo 3 1 x.2 x.1.b.length (x.1.b.map (Value.int .i64))) (hap : ∀ y ∈ M, ∀ j, blk y.2 j → ¬ blk x.2 j)
    (ho : w'.ownsRow lo 44 5 v' (M.length + 1) (M.flatMap encU ++ encU x)) (hg : w.grownBy w' v.ownBlock) : OwnL w' lo w'.heap.size v' (M ++ [x]) := by
  have hO := Only.of_grown hg
  have hin : ∀ y ∈ M ++ [x], w.ownsRow lo 3 1 y.2 y.1.b.length (y.1.b.map (Value.int .i64)) := by
    intro y hy
    rcases List.mem_append.1 hy with hy | hy
    · exact h.inn y hy
    · rw [List.mem_singleton] at hy; rw [hy]; exact hx
  have hin' : ∀ y ∈ M ++ [x], w'.ownsRow lo 3 1 y.2 y.1.b.length (y.1.b.map (Value.int .i64)) := fun y hy => own_only (hin y hy) hO (fun k hk e => own_apart (hin y hy) h.row (by decide) k hk e)
  refine ⟨?_, hin', ?_, fun j hj => (ho.lt j hj).2, fun y hy j hj => ((hin' y hy).lt j hj).2⟩
  · rw [List.length_append, List.flatMap_append]
    simpa using ho
  · rw [List.pairwise_append]
    refine ⟨h.apart, by simp, fun y hy z hz => ?_⟩
    rw [List.mem_singleton] at hz
    rw [hz]
    exact hap y hy
theorem srcNode (W : World) (n : NodeD) (a : Option Addr) (m c : Nat) : Src Tryd.prog 5 28 (.slice (some ⟨W.heap.size, 0, none⟩) 1 1) 1 (encU (n, .slice a m c)) (W.alloc (.cells #[.int .i64 n.k, .int .i64 n.g, .int .i64 n.t, .int .i64 n.s, .slice a m c] 44)) := by
  refine Src.ofSlice _ Tryd.underlying28 ⟨W.heap.size, 0, none⟩ 1 1 (encU (n, .slice a m c)) rfl ?_ (fun x hx => by simp [encU] at hx; rcases hx with rfl | rfl | rfl | rfl | rfl <;> rfl)
  intro j x hj
  obtain ⟨hj1, rfl⟩ := List.getElem?_eq_some_iff.1 hj
  rw [Go.WideShapes.add_plain, Nat.zero_add]
  match j, hj1 with
  | 0, _ => exact (Var.made W #[.int .i64 n.k, .int .i64 n.g, .int .i64 n.t, .int .i64 n.s, .slice a m c] 44).cell 0
  | 1, _ => exact (Var.made W #[.int .i64 n.k, .int .i64 n.g, .int .i64 n.t, .int .i64 n.s, .slice a m c] 44).cell 1
  | 2, _ => exact (Var.made W #[.int .i64 n.k, .int .i64 n.g, .int .i64 n.t, .int .i64 n.s, .slice a m c] 44).cell 2
  | 3, _ => exact (Var.made W #[.int .i64 n.k, .int .i64 n.g, .int .i64 n.t, .int .i64 n.s, .slice a m c] 44).cell 3
  | 4, _ => exact (Var.made W #[.int .i64 n.k, .int .i64 n.g, .int .i64 n.t, .int .i64 n.s, .slice a m c] 44).cell 4
/-- While a branch is put together: the answer's variable R, the branch's variable Q, its two rows. -/
structure GrInv (w W : World) (Q : Nat) (vn vd : Value) (M : List NodeU) (ds : List ByteArray) : Prop where
  res : Var W w.heap.size #[.slice none 0 0, .slice none 0 0] 30
  var : Var W Q #[vn, vd] 30
  nod : OwnL W (w.heap.size + 1) W.heap.size vn M
  txt : W.ownsRow (w.heap.size + 1) 9 1 vd ds.length (ds.map Value.string)
  bel : Below w.heap.size w W
  far : w.heap.size < Q
theorem GrInv.new {w W W' : World} {Q : Nat} {vn vd : Value} {M : List NodeU} {ds : List ByteArray} (h : GrInv w W Q vn vd M ds) (hb : Below W.heap.size W W') : GrInv w W' Q vn vd M ds :=
  ⟨h.res.new hb, h.var.new hb, (h.nod.below hb).hi hb.size, ownsRow_below h.txt hb (Nat.le_refl _), h.bel.trans (hb.mono h.bel.size), h.far⟩
/-- A node is put behind the row, and the row into the variable. -/
theorem GrInv.node {w W W' : World} {Q : Nat} {vn vd v' : Value} {M : List NodeU} {ds : List ByteArray} {x : NodeU} (h : GrInv w W Q vn vd M ds) (hx : W.ownsRow (w.heap.size + 1) 3 1 x.2 x.1.b.length (x.1.b.map (Value.int .i64))) (hap : ∀ y ∈ M, ∀ j, blk y.2 j → ¬ blk x.2 j)
    (ho : W'.ownsRow (w.heap.size + 1) 44 5 v' (M.length + 1) (M.flatMap encU ++ encU x)) (hg : W.grownBy W' vn.ownBlock) : GrInv w (W'.setCell ⟨Q, 0, none⟩ v') Q v' vd (M ++ [x]) ds := by
  have hO := Only.of_grown hg
  have hlo : ∀ k, vn.ownBlock = some k → w.heap.size + 1 ≤ k := fun k hk => (h.nod.row.lt k hk).1
  have hv1 : Var W' Q #[vn, vd] 30 := h.var.only hO (fun e => own_ne_var h.nod.row h.var (by decide) Q e rfl)
  have hr1 : Var W' w.heap.size #[.slice none 0 0, .slice none 0 0] 30 := h.res.only hO (fun e => by have := hlo _ e; omega)
  have ht1 := own_only h.txt hO (fun k hk e => own_apart h.txt h.nod.row (by decide) k hk e)
  have hn1 := h.nod.app hx hap ho hg
  have hb1 : Below w.heap.size w W' := h.bel.grown hg h.bel.size (fun k hk => by have := hlo k hk; omega)
  have hS : Only (fun k => k = Q) W' (W'.setCell ⟨Q, 0, none⟩ v') := Only.setCell (S := fun k => k = Q) (Only.refl _ _) (p := ⟨Q, 0, none⟩) rfl _
  have hf := h.far
  have hs : (W'.setCell ⟨Q, 0, none⟩ v').heap.size = W'.heap.size := by simp [World.setCell]
  refine ⟨hr1.only hS (by omega), by simpa using hv1.set 0 v', by rw [hs]; exact hn1.keep hS (fun k hk e => hn1.ne_var hv1 k hk e), own_only ht1 hS (fun k hk e => own_ne_var ht1 hv1 (by decide) k hk e), hb1.trans (hS.below hb1.size (fun k e => by omega)), hf⟩
/-- A text is put behind the row, and the row into the variable. -/
theorem GrInv.text {w W W' : World} {Q : Nat} {vn vd v' : Value} {M : List NodeU} {ds : List ByteArray} {s : ByteArray} (h : GrInv w W Q vn vd M ds)
    (ho : W'.ownsRow (w.heap.size + 1) 9 1 v' (ds.length + 1) (ds.map Value.string ++ [.string s])) (hg : W.grownBy W' vd.ownBlock) : GrInv w (W'.setCell ⟨Q, 1, none⟩ v') Q vn v' M (ds ++ [s]) := by
  have hO := Only.of_grown hg
  have hlo : ∀ k, vd.ownBlock = some k → w.heap.size + 1 ≤ k := fun k hk => (h.txt.lt k hk).1
  have hv1 : Var W' Q #[vn, vd] 30 := h.var.only hO (fun e => own_ne_var h.txt h.var (by decide) Q e rfl)
  have hr1 : Var W' w.heap.size #[.slice none 0 0, .slice none 0 0] 30 := h.res.only hO (fun e => by have := hlo _ e; omega)
  have hn1 : OwnL W' (w.heap.size + 1) W'.heap.size vn M := (h.nod.keep hO (fun k hk e => h.nod.apart_txt h.txt k e hk)).hi hg.size
  have hb1 : Below w.heap.size w W' := h.bel.grown hg h.bel.size (fun k hk => by have := hlo k hk; omega)
  have hS : Only (fun k => k = Q) W' (W'.setCell ⟨Q, 1, none⟩ v') := Only.setCell (S := fun k => k = Q) (Only.refl _ _) (p := ⟨Q, 1, none⟩) rfl _
  have hf := h.far
  have hs : (W'.setCell ⟨Q, 1, none⟩ v').heap.size = W'.heap.size := by simp [World.setCell]
  have ht1 : W'.ownsRow (w.heap.size + 1) 9 1 v' (ds ++ [s]).length ((ds ++ [s]).map Value.string) := by rw [List.length_append, List.map_append]; exact ho
  refine ⟨hr1.only hS (by omega), by simpa using hv1.set 1 v', by rw [hs]; exact hn1.keep hS (fun k hk e => hn1.ne_var hv1 k hk e), own_only ht1 hS (fun k hk e => own_ne_var ht1 hv1 (by decide) k hk e), hb1.trans (hS.below hb1.size (fun k e => by omega)), hf⟩
theorem GrInv.varText {w W W' : World} {Q : Nat} {vn vd : Value} {M : List NodeU} {ds : List ByteArray} (h : GrInv w W Q vn vd M ds) (hg : W.grownBy W' vd.ownBlock) : Var W' Q #[vn, vd] 30 :=
  h.var.only (Only.of_grown hg) (fun e => own_ne_var h.txt h.var (by decide) Q e rfl)
theorem GrInv.varNode {w W W' : World} {Q : Nat} {vn vd : Value} {M : List NodeU} {ds : List ByteArray} (h : GrInv w W Q vn vd M ds) (hg : W.grownBy W' vn.ownBlock) : Var W' Q #[vn, vd] 30 :=
  h.var.only (Only.of_grown hg) (fun e => own_ne_var h.nod.row h.var (by decide) Q e rfl)
theorem GrInv.size {w W : World} {Q : Nat} {vn vd : Value} {M : List NodeU} {ds : List ByteArray} (h : GrInv w W Q vn vd M ds) : w.heap.size + 1 ≤ W.heap.size := by
  have := h.var.lt
  have := h.far
  omega
theorem GrInv.own {w W : World} {Q : Nat} {vn vd : Value} {M : List NodeU} {F : FsD} (h : GrInv w W Q vn vd M F.ds) (hM : M.map (·.1) = F.ns) : OwnFs W (w.heap.size + 1) W.heap.size (.agg #[vn, vd]) F :=
  ⟨_, _, rfl, ⟨M, hM, h.nod⟩, h.txt, fun j hj => (h.txt.lt j hj).2⟩
/-- The branch goes into the answer's variable. -/
theorem GrInv.done {w W : World} {Q : Nat} {vn vd : Value} {M : List NodeU} {F : FsD} (h : GrInv w W Q vn vd M F.ds) (hM : M.map (·.1) = F.ns) :
    Var ((W.setCell ⟨w.heap.size, 0, none⟩ vn).setCell ⟨w.heap.size, 1, none⟩ vd) w.heap.size #[vn, vd] 30 ∧ OwnFs ((W.setCell ⟨w.heap.size, 0, none⟩ vn).setCell ⟨w.heap.size, 1, none⟩ vd) w.heap.size ((W.setCell ⟨w.heap.size, 0, none⟩ vn).setCell ⟨w.heap.size, 1, none⟩ vd).heap.size (.agg #[vn, vd]) F ∧ Below w.heap.size w ((W.setCell ⟨w.heap.size, 0, none⟩ vn).setCell ⟨w.heap.size, 1, none⟩ vd) := by
  have hO : Only (fun k => k = w.heap.size) W ((W.setCell ⟨w.heap.size, 0, none⟩ vn).setCell ⟨w.heap.size, 1, none⟩ vd) := (Only.setCell (S := fun k => k = w.heap.size) (Only.refl _ _) (p := ⟨w.heap.size, 0, none⟩) rfl _).setCell (p := ⟨w.heap.size, 1, none⟩) rfl _
  have hv := (h.res.set 0 vn).set 1 vd
  refine ⟨by simpa using hv, ?_, h.bel.trans (hO.below h.bel.size (fun k e => by omega))⟩
  exact (((h.own hM).only hO (fun k h1 _ e => by omega)).base (by omega)).hi (by simp [World.setCell])
end Go.Proofs.YthfgfhbinggpfaaDoor

/-
  Own text, plain: what a node holds: read, written, made, dropped.
-/
namespace Go.Proofs.YthfgfhbinggpfaaDoor
open Go.RowKit

def ndAt (F : FsD) (i : Int) : NodeD := (F.ns[i.toNat]?).getD zeroN
theorem ndAt_get {F : FsD} {i : Int} (h : i.toNat < F.ns.length) : ndAt F i = F.ns[i.toNat] := by unfold ndAt; rw [List.getElem?_eq_getElem h]; rfl
def UsP (F : FsD) (i : Int) : Prop := ShapeP F ∧ 0 ≤ i ∧ i.toNat < F.ns.length ∧ (ndAt F i).k ≠ 0
noncomputable def usB (F : FsD) (i : Int) : Bool := @decide (UsP F i) (Classical.propDecidable _)
theorem usB_yes {F : FsD} {i : Int} (h : UsP F i) : usB F i = true := by unfold usB; exact @decide_eq_true _ (Classical.propDecidable _) h
theorem usB_no {F : FsD} {i : Int} (h : ¬ UsP F i) : usB F i = false := by unfold usB; exact @decide_eq_false _ (Classical.propDecidable _) h
def dsAt (ds : List ByteArray) (x : Int) : ByteArray := (ds[x.toNat]?).getD ⟨#[]⟩
theorem dsAt_get {ds : List ByteArray} {x : Int} (h : x.toNat < ds.length) : dsAt ds x = ds[x.toNat] := by unfold dsAt; rw [List.getElem?_eq_getElem h]; rfl
theorem UsP.mem {F : FsD} {i : Int} (h : UsP F i) : ndAt F i ∈ F.ns := by rw [ndAt_get h.2.2.1]; exact List.getElem_mem _
theorem UsP.nod {F : FsD} {i : Int} (h : UsP F i) : NodP (ndAt F i) := h.1.2.2.1 _ h.mem
theorem UsP.blk {F : FsD} {i : Int} (h : UsP F i) : ∀ x ∈ (ndAt F i).b, 0 ≤ x ∧ x.toNat < F.ds.length ∧ (dsAt F.ds x).size ≠ 0 := by
  intro x hx
  obtain ⟨h0, d, hd, hs, _⟩ := hold_mem h.nod (h.1.2.2.2.2.1 _ h.mem) hx
  refine ⟨h0, (List.getElem?_eq_some_iff.1 hd).1, ?_⟩
  unfold dsAt; rw [hd]; exact hs

/-! ### Read -/
def catD (ds : List ByteArray) (b : List Int) : ByteArray := b.foldl (fun s x => s ++ dsAt ds x) ⟨#[]⟩
theorem catD_nil (ds : List ByteArray) : catD ds [] = ⟨#[]⟩ := rfl
theorem catD_take (ds : List ByteArray) {b : List Int} {k : Nat} (h : k < b.length) : catD ds (b.take (k + 1)) = catD ds (b.take k) ++ dsAt ds b[k] := by
  unfold catD
  rw [List.take_succ_eq_append_getElem h, List.foldl_append]
  rfl
theorem catD_size {ds : List ByteArray} {b : List Int} {m : Nat} (h : ∀ x ∈ b, (dsAt ds x).size ≤ m) : (catD ds b).size ≤ b.length * m := by
  have h2 : ∀ (l : List Int) (s : ByteArray), (∀ x ∈ l, (dsAt ds x).size ≤ m) → (l.foldl (fun s x => s ++ dsAt ds x) s).size ≤ s.size + l.length * m := by
    intro l
    induction l with
    | nil => intro s _; simp
    | cons y l ih =>
      intro s hh
      have h3 := ih (s ++ dsAt ds y) fun x hx => hh x (by simp [hx])
      have h4 := hh y (by simp)
      rw [List.foldl_cons]
      have h5 : (s ++ dsAt ds y).size = s.size + (dsAt ds y).size := ByteArray.size_append
      rw [List.length_cons, Nat.add_mul]
      omega
  have := h2 b ⟨#[]⟩ h
  have h0 : (⟨#[]⟩ : ByteArray).size = 0 := rfl
  unfold catD
  omega
noncomputable def ndRead (F : FsD) (i : Int) : ByteArray := if usB F i = true then catD F.ds (ndAt F i).b else ⟨#[]⟩

/-! ### Which blocks are free -/
def freeI (ds : List ByteArray) : Nat → List Int
  | 0 => []
  | k + 1 => freeI ds k ++ (if (dsAt ds (k : Int)).size = 0 then [(k : Int)] else [])
theorem freeI_mem (ds : List ByteArray) (m : Nat) (x : Int) : x ∈ freeI ds m ↔ ∃ k : Nat, x = k ∧ k < m ∧ (dsAt ds (k : Int)).size = 0 := by
  induction m with
  | zero => simp [freeI]
  | succ m ih =>
    unfold freeI
    rw [List.mem_append, ih]
    constructor
    · rintro (⟨k, h1, h2, h3⟩ | h)
      · exact ⟨k, h1, by omega, h3⟩
      · split at h
        · rename_i h5
          simp at h
          exact ⟨m, h, by omega, h5⟩
        · simp at h
    · rintro ⟨k, h1, h2, h3⟩
      by_cases e : k = m
      · right
        subst e
        rw [if_pos h3]
        simp [h1]
      · left; exact ⟨k, h1, by omega, h3⟩
theorem freeI_lt {ds : List ByteArray} {m : Nat} {x : Int} (h : x ∈ freeI ds m) : 0 ≤ x ∧ x.toNat < m ∧ (dsAt ds x).size = 0 := by
  obtain ⟨k, rfl, h2, h3⟩ := (freeI_mem ds m x).1 h
  exact ⟨by omega, by omega, h3⟩
theorem freeI_nodup (ds : List ByteArray) (m : Nat) : (freeI ds m).Nodup := by
  induction m with
  | zero => simp [freeI]
  | succ m ih =>
    unfold freeI
    rw [List.nodup_append]
    refine ⟨ih, by split <;> simp, fun a ha b hb => ?_⟩
    have h1 := freeI_lt ha
    split at hb
    · simp at hb; omega
    · simp at hb
theorem freeI_len (ds : List ByteArray) (m : Nat) : (freeI ds m).length ≤ m := by
  induction m with
  | zero => simp [freeI]
  | succ m ih => unfold freeI; rw [List.length_append]; split <;> simp <;> omega
theorem freeI_pre (ds : List ByteArray) {m n : Nat} (h : m ≤ n) : ∃ r, freeI ds n = freeI ds m ++ r := by
  induction n with
  | zero => obtain rfl : m = 0 := by omega
            exact ⟨[], by simp⟩
  | succ n ih =>
    by_cases e : m = n + 1
    · subst e; exact ⟨[], by simp⟩
    · obtain ⟨r, hr⟩ := ih (by omega)
      refine ⟨r ++ (if (dsAt ds (n : Int)).size = 0 then [(n : Int)] else []), ?_⟩
      show freeI ds n ++ _ = _
      rw [hr, List.append_assoc]
theorem dsAt_set {ds : List ByteArray} {x : Nat} (p : ByteArray) (hx : x < ds.length) (k : Nat) : dsAt (ds.set x p) (k : Int) = if k = x then p else dsAt ds (k : Int) := by
  unfold dsAt
  rw [Int.toNat_natCast, List.getElem?_set]
  by_cases e : k = x
  · subst e; simp [hx]
  · rw [if_neg (by omega), if_neg e]
theorem freeI_set {ds : List ByteArray} {x : Nat} {p : ByteArray} (hx : x < ds.length) (hp : p.size ≠ 0) (m : Nat) : freeI (ds.set x p) m = (freeI ds m).filter (fun y => y ≠ (x : Int)) := by
  induction m with
  | zero => simp [freeI]
  | succ m ih =>
    show freeI (ds.set x p) m ++ _ = (freeI ds m ++ _).filter _
    rw [ih, List.filter_append, dsAt_set p hx]
    congr 1
    by_cases e : m = x
    · subst e
      rw [if_pos rfl, if_neg hp]
      split <;> simp
    · rw [if_neg e]
      have : ¬ (m : Int) = (x : Int) := by omega
      split <;> simp [this]
/-- The lowest one that is empty, or -1. -/
def firstE (ds : List ByteArray) : Int := ((freeI ds ds.length).head?).getD (-1)
theorem firstE_none {ds : List ByteArray} (h : ∀ k (hk : k < ds.length), (ds[k]).size ≠ 0) : firstE ds = -1 := by
  have : freeI ds ds.length = [] := by
    rw [List.eq_nil_iff_forall_not_mem]
    intro x hx
    obtain ⟨k, rfl, h2, h3⟩ := (freeI_mem _ _ _).1 hx
    refine h k h2 ?_
    rw [dsAt_get (by omega)] at h3
    simpa using h3
  unfold firstE; rw [this]; rfl
theorem freeI_none {ds : List ByteArray} {k : Nat} (h : ∀ j (hj : j < ds.length), j < k → (ds[j]).size ≠ 0) (hk : k ≤ ds.length) : freeI ds k = [] := by
  rw [List.eq_nil_iff_forall_not_mem]
  intro x hx
  obtain ⟨j, rfl, h2, h3⟩ := (freeI_mem _ _ _).1 hx
  refine h j (by omega) h2 ?_
  rw [dsAt_get (by omega)] at h3
  simpa using h3
theorem firstE_at {ds : List ByteArray} {k : Nat} (hk : k < ds.length) (h0 : (ds[k]).size = 0) (h : ∀ j (hj : j < ds.length), j < k → (ds[j]).size ≠ 0) : firstE ds = k := by
  obtain ⟨r, hr⟩ := freeI_pre ds (m := k + 1) (n := ds.length) (by omega)
  have h1 : freeI ds (k + 1) = [(k : Int)] := by
    show freeI ds k ++ _ = _
    rw [freeI_none h (by omega), if_pos (by rw [dsAt_get (by omega)]; simpa using h0)]
    rfl
  unfold firstE
  rw [hr, h1]; rfl

/-! ### Written -/
def needN (d : ByteArray) : Nat := (d.size + 15) / 16
def piece (d : ByteArray) (j : Nat) : ByteArray := d.extract (16 * j) (min (16 * j + 16) d.size)
theorem piece_size {d : ByteArray} {j : Nat} (h : j < needN d) : 1 ≤ (piece d j).size ∧ (piece d j).size ≤ 16 := by
  unfold needN at h
  unfold piece
  rw [ByteArray.size_extract]
  omega
theorem piece_le (d : ByteArray) (j : Nat) : (piece d j).size ≤ 16 := by
  unfold piece
  rw [ByteArray.size_extract]
  omega
def putN (bl : List Int) (d : ByteArray) (ds : List ByteArray) : Nat → List ByteArray
  | 0 => ds
  | k + 1 => (putN bl d ds k).set ((bl[k]?).getD 0).toNat (piece d k)
def clrN (bl : List Int) (ds : List ByteArray) : Nat → List ByteArray
  | 0 => ds
  | k + 1 => (clrN bl ds k).set ((bl[k]?).getD 0).toNat ⟨#[]⟩
theorem putN_len (bl : List Int) (d : ByteArray) (ds : List ByteArray) (k : Nat) : (putN bl d ds k).length = ds.length := by
  induction k with
  | zero => rfl
  | succ k ih => unfold putN; rw [List.length_set, ih]
theorem clrN_len (bl : List Int) (ds : List ByteArray) (k : Nat) : (clrN bl ds k).length = ds.length := by
  induction k with
  | zero => rfl
  | succ k ih => unfold clrN; rw [List.length_set, ih]
theorem putN_small {bl : List Int} {d : ByteArray} {ds : List ByteArray} {m : Nat} (hm : 16 ≤ m) (h : ∀ s ∈ ds, s.size ≤ m) (k : Nat) : ∀ s ∈ putN bl d ds k, s.size ≤ m := by
  induction k with
  | zero => exact h
  | succ k ih =>
    intro s hs
    rcases List.mem_or_eq_of_mem_set hs with hs | rfl
    · exact ih s hs
    · exact Nat.le_trans (piece_le d k) hm
theorem clrN_small {bl : List Int} {ds : List ByteArray} {m : Nat} (h : ∀ s ∈ ds, s.size ≤ m) (k : Nat) : ∀ s ∈ clrN bl ds k, s.size ≤ m := by
  induction k with
  | zero => exact h
  | succ k ih =>
    intro s hs
    rcases List.mem_or_eq_of_mem_set hs with hs | rfl
    · exact ih s hs
    · exact Nat.zero_le _
theorem putN_same {bl bm : List Int} {d : ByteArray} {ds : List ByteArray} : ∀ {k : Nat}, (∀ j, j < k → bl[j]? = bm[j]?) → putN bl d ds k = putN bm d ds k
  | 0, _ => rfl
  | k + 1, h => by
    unfold putN
    rw [putN_same (k := k) fun j hj => h j (by omega), h k (by omega)]
theorem clr_set {L : List Int} {ds : List ByteArray} {x : Nat} {p : ByteArray} : ∀ {k : Nat}, (∀ j, j < k → ((L[j]?).getD 0).toNat ≠ x) → clrN L (ds.set x p) k = (clrN L ds k).set x p
  | 0, _ => rfl
  | k + 1, h => by
    show (clrN L (ds.set x p) k).set _ _ = ((clrN L ds k).set _ _).set _ _
    rw [clr_set (k := k) fun j hj => h j (by omega), List.set_comm _ _ (by have := h k (by omega); omega)]
theorem put_clr {bl L : List Int} {d : ByteArray} {ds : List ByteArray} {m : Nat} : ∀ {k : Nat}, (∀ i j, i < k → j < m → ((L[j]?).getD 0).toNat ≠ ((bl[i]?).getD 0).toNat) → putN bl d (clrN L ds m) k = clrN L (putN bl d ds k) m
  | 0, _ => rfl
  | k + 1, h => by
    show (putN bl d (clrN L ds m) k).set _ _ = clrN L ((putN bl d ds k).set _ _) m
    rw [put_clr (k := k) fun i j hi hj => h i j (by omega) hj, clr_set fun j hj => h k j (by omega) hj]
/-- The blocks that it has and those that it can have besides. -/
def allW (F : FsD) (i : Int) : List Int := (ndAt F i).b ++ freeI F.ds F.ds.length
def WrP (F : FsD) (i : Int) (d : ByteArray) : Prop := UsP F i ∧ d.size ≤ 80 ∧ needN d ≤ (allW F i).length
noncomputable def wrOk (F : FsD) (i : Int) (d : ByteArray) : Bool := @decide (WrP F i d) (Classical.propDecidable _)
theorem wrOk_yes {F : FsD} {i : Int} {d : ByteArray} (h : WrP F i d) : wrOk F i d = true := by unfold wrOk; exact @decide_eq_true _ (Classical.propDecidable _) h
theorem wrOk_no {F : FsD} {i : Int} {d : ByteArray} (h : ¬ WrP F i d) : wrOk F i d = false := by unfold wrOk; exact @decide_eq_false _ (Classical.propDecidable _) h
/-- What is cleared: the blocks that it needs no more. -/
def restB (F : FsD) (i : Int) (d : ByteArray) : List Int := (ndAt F i).b.drop (needN d)
def heldDs (F : FsD) (i : Int) (d : ByteArray) : List ByteArray := clrN (restB F i d) (putN (allW F i) d F.ds (needN d)) (restB F i d).length
def wrN (F : FsD) (i : Int) (d : ByteArray) : NodeD := ⟨(ndAt F i).k, (ndAt F i).g, (ndAt F i).t, (d.size : Int), (allW F i).take (needN d)⟩
def wrF (F : FsD) (i : Int) (d : ByteArray) : FsD := ⟨F.ns.set i.toNat (wrN F i d), heldDs F i d⟩
noncomputable def wrD (F : FsD) (i : Int) (d : ByteArray) : FsD := if wrOk F i d = true then wrF F i d else F
theorem allW_at {F : FsD} {i : Int} (h : UsP F i) {x : Int} (hx : x ∈ allW F i) : 0 ≤ x ∧ x.toNat < F.ds.length := by
  rcases List.mem_append.1 hx with hx | hx
  · exact ⟨(h.blk x hx).1, (h.blk x hx).2.1⟩
  · exact ⟨(freeI_lt hx).1, (freeI_lt hx).2.1⟩
theorem allW_nodup {F : FsD} {i : Int} (h : UsP F i) : (allW F i).Nodup := by
  unfold allW
  rw [List.nodup_append]
  refine ⟨h.nod.nodup, freeI_nodup _ _, fun a ha b hb e => ?_⟩
  subst e
  exact (h.blk a ha).2.2 (freeI_lt hb).2.2
theorem drop_filter {l : List Int} (hn : l.Nodup) {m : Nat} (hm : m < l.length) (h0 : 0 ≤ l[m]) : (l.drop m).filter (fun y => decide (y ≠ ((l[m].toNat : Nat) : Int))) = l.drop (m + 1) := by
  have hnd2 : (l.drop m).Nodup := hn.sublist (List.drop_sublist _ _)
  rw [List.drop_eq_getElem_cons hm, List.nodup_cons] at hnd2
  rw [Int.toNat_of_nonneg h0, List.drop_eq_getElem_cons hm, List.filter_cons_of_neg (by simp), List.filter_eq_self]
  intro a ha
  rw [decide_eq_true_eq]
  intro e5
  exact hnd2.1 (e5 ▸ ha)
/-- What is free while it is filled. -/
theorem free_put {F : FsD} {i : Int} {d : ByteArray} (h : UsP F i) : ∀ {j : Nat}, j ≤ needN d → j ≤ (allW F i).length → freeI (putN (allW F i) d F.ds j) F.ds.length = (freeI F.ds F.ds.length).drop (j - (ndAt F i).b.length)
  | 0, _, _ => by simp [putN]
  | j + 1, h1, h2 => by
    have ih := free_put h (d := d) (j := j) (by omega) (by omega)
    have hj : j < (allW F i).length := by omega
    have hx := allW_at h (List.getElem_mem hj)
    unfold putN
    rw [List.getElem?_eq_getElem hj]
    simp only [Option.getD_some]
    rw [freeI_set (by rw [putN_len]; exact hx.2) (by have := piece_size (d := d) (j := j) (by omega); omega), ih]
    have hnd := freeI_nodup F.ds F.ds.length
    by_cases hlt : j < (ndAt F i).b.length
    · have e : (allW F i)[j] = (ndAt F i).b[j] := List.getElem_append_left hlt
      rw [show j - (ndAt F i).b.length = 0 by omega, show j + 1 - (ndAt F i).b.length = 0 by omega, List.drop_zero, e, List.filter_eq_self]
      intro a ha
      have hb := h.blk _ (List.getElem_mem hlt)
      have hf := freeI_lt ha
      simp only [ne_eq, decide_not, Bool.not_eq_true', decide_eq_false_iff_not]
      intro e2
      rw [Int.toNat_of_nonneg hb.1] at e2
      exact hb.2.2 (by rw [← e2]; exact hf.2.2)
    · have hl : (allW F i).length = (ndAt F i).b.length + (freeI F.ds F.ds.length).length := List.length_append
      have e : (allW F i)[j] = (freeI F.ds F.ds.length)[j - (ndAt F i).b.length]'(by omega) := List.getElem_append_right (by omega)
      rw [show j + 1 - (ndAt F i).b.length = (j - (ndAt F i).b.length) + 1 by omega, e]
      exact drop_filter hnd (by omega) (freeI_lt (List.getElem_mem _)).1
theorem first_put {F : FsD} {i : Int} {d : ByteArray} (h : UsP F i) {j : Nat} (h1 : j ≤ needN d) (h2 : j ≤ (allW F i).length) (h3 : (ndAt F i).b.length ≤ j) : firstE (putN (allW F i) d F.ds j) = ((allW F i)[j]?).getD (-1) := by
  unfold firstE
  rw [putN_len, free_put h h1 h2]
  unfold allW
  rw [List.getElem?_append_right h3, List.head?_drop]
theorem rest_apart {F : FsD} {i : Int} {d : ByteArray} (h : UsP F i) {k m : Nat} (hk : k < needN d) (hk2 : k < (allW F i).length) (hm : m < (restB F i d).length) : (((restB F i d)[m]?).getD 0).toNat ≠ (((allW F i)[k]?).getD 0).toNat := by
  have hm2 : needN d + m < (ndAt F i).b.length := by unfold restB at hm; simp at hm; omega
  have e1 : (restB F i d)[m]? = (allW F i)[needN d + m]? := by
    unfold restB allW
    rw [List.getElem?_drop, List.getElem?_append_left hm2]
  have hl : needN d + m < (allW F i).length := by unfold allW; rw [List.length_append]; omega
  rw [e1, List.getElem?_eq_getElem hl, List.getElem?_eq_getElem hk2]
  simp only [Option.getD_some]
  intro e
  have g1 := allW_at h (List.getElem_mem hl)
  have g2 := allW_at h (List.getElem_mem hk2)
  have e2 : (allW F i)[needN d + m] = (allW F i)[k] := by omega
  have := (List.nodup_iff_pairwise_ne.1 (allW_nodup h))
  rw [List.pairwise_iff_getElem] at this
  exact this k (needN d + m) hk2 hl (by omega) e2.symm
/-- The other program clears first and writes behind it. -/
theorem held_other {F : FsD} {i : Int} {d : ByteArray} (h : WrP F i d) : putN ((allW F i).take (needN d)) d (clrN (restB F i d) F.ds (restB F i d).length) (needN d) = heldDs F i d := by
  rw [putN_same (bm := allW F i) fun j hj => by rw [List.getElem?_take, if_pos hj]]
  exact put_clr fun k j hk hj => rest_apart h.1 hk (by have := h.2.2; omega) hj
theorem rest_at {F : FsD} {i : Int} {d : ByteArray} (h : UsP F i) {x : Int} (hx : x ∈ restB F i d) : 0 ≤ x ∧ x.toNat < F.ds.length := by
  have := h.blk x (List.mem_of_mem_drop hx)
  exact ⟨this.1, this.2.1⟩

/-! ### Made and dropped -/
def MdP (F : FsD) (kind : Int) : Prop := ShapeP F ∧ (1 ≤ kind ∧ kind ≤ 3) ∧ F.ns.findIdx (·.k == 0) < F.ns.length
noncomputable def mdOk (F : FsD) (kind : Int) : Bool := @decide (MdP F kind) (Classical.propDecidable _)
theorem mdOk_yes {F : FsD} {kind : Int} (h : MdP F kind) : mdOk F kind = true := by unfold mdOk; exact @decide_eq_true _ (Classical.propDecidable _) h
theorem mdOk_no {F : FsD} {kind : Int} (h : ¬ MdP F kind) : mdOk F kind = false := by unfold mdOk; exact @decide_eq_false _ (Classical.propDecidable _) h
noncomputable def mdD (F : FsD) (kind : Int) : FsD := if mdOk F kind = true then ⟨F.ns.set (F.ns.findIdx (·.k == 0)) ⟨kind, 0, 0, 0, []⟩, F.ds⟩ else F
noncomputable def mdI (F : FsD) (kind : Int) : Int := if mdOk F kind = true then (F.ns.findIdx (·.k == 0) : Nat) else -1
def DpP (F : FsD) (i : Int) : Prop := UsP F i ∧ i ≠ 0
noncomputable def dpOk (F : FsD) (i : Int) : Bool := @decide (DpP F i) (Classical.propDecidable _)
theorem dpOk_yes {F : FsD} {i : Int} (h : DpP F i) : dpOk F i = true := by unfold dpOk; exact @decide_eq_true _ (Classical.propDecidable _) h
theorem dpOk_no {F : FsD} {i : Int} (h : ¬ DpP F i) : dpOk F i = false := by unfold dpOk; exact @decide_eq_false _ (Classical.propDecidable _) h
noncomputable def dpD (F : FsD) (i : Int) : FsD := if dpOk F i = true then ⟨F.ns.set i.toNat zeroN, clrN (ndAt F i).b F.ds (ndAt F i).b.length⟩ else F
theorem held_none (F : FsD) (i : Int) {d : ByteArray} (h : d.size = 0) : needN d = 0 ∧ restB F i d = (ndAt F i).b ∧ heldDs F i d = clrN (ndAt F i).b F.ds (ndAt F i).b.length := by
  have h0 : needN d = 0 := by unfold needN; omega
  have h1 : restB F i d = (ndAt F i).b := by unfold restB; rw [h0]; rfl
  refine ⟨h0, h1, ?_⟩
  unfold heldDs
  rw [h0, h1]; rfl
end Go.Proofs.YthfgfhbinggpfaaDoor
