/-
  Own text: the laws' helpers over nodes.
-/
import Derived.Test.YtioecnfgliponaaNodeF
import Derived.Test.YtioecnfgliponaaIntW
import Derived.Test.YtioecnfgliponaaRowC
import Derived.Test.YtioecnfgliponaaPutW
import Derived.Laws.ResultCell
import Derived.Deep.Cut
namespace Go.Proofs.Ytioecnfgliponaa
open Go.RowKit

theorem Try.infoInt : (Try.prog.info? 3).map (fun i => (i.zero, i.size, i.bytes)) = some (some (.int .i64 0), 1, 8) := by kernel_rfl
theorem Try.sizeNode : (Try.prog.info? 57).map (·.size) = some 5 := by kernel_rfl

theorem RdN.lay {w : World} {v : Value} {n : NodeD} (h : RdN w v n) : ∃ a c, v = .agg #[.int .i64 n.k, .int .i64 n.g, .int .i64 n.t, .int .i64 n.s, .slice a n.b.length c] := by
  obtain ⟨a, c, rfl, _⟩ := h
  exact ⟨a, c, rfl⟩
theorem OwnN.lay {w : World} {lo : Nat} {v : Value} {n : NodeD} (h : OwnN w lo v n) : ∃ a c, v = .agg #[.int .i64 n.k, .int .i64 n.g, .int .i64 n.t, .int .i64 n.s, .slice a n.b.length c] := h.shape
/-- Five cells stored, one behind the other, into a variable of five. -/
abbrev five (w : World) (P : Nat) (a b c d e : Value) : World := ((((w.setCell ⟨P, 0, none⟩ a).setCell ⟨P, 1, none⟩ b).setCell ⟨P, 2, none⟩ c).setCell ⟨P, 3, none⟩ d).setCell ⟨P, 4, none⟩ e
theorem Var.five {w : World} {P : Nat} {x0 x1 x2 x3 x4 : Value} {t : TypeId} (h : Var w P #[x0, x1, x2, x3, x4] t) (a b c d e : Value) :
    Var (five w P a b c d e) P #[a, b, c, d, e] t ∧ w.cell? ⟨P, 0, none⟩ = some x0 ∧ (w.setCell ⟨P, 0, none⟩ a).cell? ⟨P, 1, none⟩ = some x1 ∧ ((w.setCell ⟨P, 0, none⟩ a).setCell ⟨P, 1, none⟩ b).cell? ⟨P, 2, none⟩ = some x2 ∧
      (((w.setCell ⟨P, 0, none⟩ a).setCell ⟨P, 1, none⟩ b).setCell ⟨P, 2, none⟩ c).cell? ⟨P, 3, none⟩ = some x3 ∧ ((((w.setCell ⟨P, 0, none⟩ a).setCell ⟨P, 1, none⟩ b).setCell ⟨P, 2, none⟩ c).setCell ⟨P, 3, none⟩ d).cell? ⟨P, 4, none⟩ = some x4 ∧
      w.frozen? ⟨P, 0, none⟩ = false ∧ w.frozen? ⟨P, 1, none⟩ = false ∧ w.frozen? ⟨P, 2, none⟩ = false ∧ w.frozen? ⟨P, 3, none⟩ = false ∧ w.frozen? ⟨P, 4, none⟩ = false := by
  have h0 := h.set 0 a
  have h1 := h0.set 1 b
  have h2 := h1.set 2 c
  have h3 := h2.set 3 d
  have h4 := h3.set 4 e
  refine ⟨by simpa using h4, by simpa using h.cell 0, by simpa using h0.cell 1, by simpa using h1.cell 2, by simpa using h2.cell 3, by simpa using h3.cell 4, h.frozen 0, h.frozen 1, h.frozen 2, h.frozen 3, h.frozen 4⟩
theorem own_five {w : World} {base : Nat} {e' : TypeId} {size : Nat} {v : Value} {n : Nat} {xs : List Value} (h : w.ownsRow base e' size v n xs) {Q : Nat} (hQ : Q < base) (a b c d e : Value) : (five w Q a b c d e).ownsRow base e' size v n xs :=
  own_set (own_set (own_set (own_set (own_set h hQ 0 a) hQ 1 b) hQ 2 c) hQ 3 d) hQ 4 e
theorem below_five {B : Nat} {w W : World} (h : Below B w W) {Q : Nat} (hQ : B ≤ Q) (a b c d e : Value) : Below B w (five W Q a b c d e) :=
  ((((h.setCell (p := ⟨Q, 0, none⟩) hQ a).setCell (p := ⟨Q, 1, none⟩) hQ b).setCell (p := ⟨Q, 2, none⟩) hQ c).setCell (p := ⟨Q, 3, none⟩) hQ d).setCell (p := ⟨Q, 4, none⟩) hQ e
theorem flat_one (l : List Int) : l.flatMap (fun x => [Value.int .i64 x]) = l.map (Value.int .i64) := by
  induction l <;> simp_all
theorem Rd.cellI {w : World} {a : Option Addr} {l : List Int} (h : Rd .i64 w a l) (k : Nat) (hk : k < l.length) : ∃ b off, a = some ⟨b, off, none⟩ ∧ b < w.heap.size ∧ w.cell? ⟨b, off + k, none⟩ = some (.int .i64 l[k]) := by
  rcases h with rfl | ⟨b, off, rfl, h1, h2⟩
  · simp at hk
  · refine ⟨b, off, rfl, h1, ?_⟩
    rw [h2 k hk]
    simp [List.getD, hk]

set_option maxRecDepth 20000 in
set_option maxHeartbeats 400000 in
theorem toInts (a : Option Addr) (cap : Nat) (l : List Int) (w : World) (hl : l.length ≤ 1048576) (hr : Rd .i64 w a l) :
    Calls Try.prog 71 #[.slice a l.length cap] w fun e w' => ∃ v, e = .returned v ∧ w'.ownsRow w.heap.size 3 1 v l.length (l.map (Value.int .i64)) ∧ Below w.heap.size w w' := by
  obtain ⟨i0, hi, hz0, hz1, hz2⟩ := info_parts Try.infoInt
  have HCS : Hid (∀ k (hk : k < l.length), ∃ b off, a = some ⟨b, off, none⟩ ∧ b < w.heap.size ∧ w.cell? ⟨b, off + k, none⟩ = some (.int .i64 l[k])) := fun k hk => hr.cellI k hk
  clear hr
  go_enter Try.func71, Try.ntmps71
  go_wp2_with (at_make; refine wpList_make_full _ rfl _ _ 53 rfl w.heap.size 3 i0 (.int .i64 0) 1 Try.underlying53 hi hz0 hz1 _ _ _ _ l.length rfl rfl rfl rfl (by rw [hz2]; omega) (by unfold maxLen; omega) (Nat.le_refl _) ?_)
  intro w1 hown hgrow
  have hown1 : w1.ownsRow w.heap.size 3 1 (.slice (some ⟨w.heap.size, 0, none⟩) l.length l.length) l.length ((fillF 0 l 0).map (Value.int .i64)) := by
    have e : (fillF 0 l 0).map (Value.int .i64) = (madeCells #[Value.int .i64 0] l.length).toList := by
      have h := made_flat (enc := fun x : Int => [Value.int .i64 x]) (sz := 1) (fun _ => rfl) 0 #[Value.int .i64 0] rfl (by omega) l.length
      rw [Nat.mul_one] at h
      rw [h, fillF_zero, flat_one]
    rw [e]
    exact hown
  clear hown
  go_wp2
  go_loopw [4] (fun i wr => ∃ k : Nat, k ≤ l.length ∧ i = .int .i64 k ∧ wr.ownsRow w.heap.size 3 1 (.slice (some ⟨w.heap.size, 0, none⟩) l.length l.length) l.length ((fillF 0 l k).map (Value.int .i64)) ∧ Below w.heap.size w wr) (fun i _ => l.length - (intOf i).toNat)
  case atStart => exact ⟨0, Nat.zero_le _, rfl, hown1, (Below.refl _ _).grown hgrow (Nat.le_refl _) (fun k h => by simp at h)⟩
  case round =>
    obtain ⟨k, hk, rfl, ho, hbel⟩ := hrel
    by_cases hlt : k < l.length
    · obtain ⟨b, off, rfl, hblt, hcell⟩ := HCS.out k hlt
      have hcr : wr.cell? ⟨b, off + k, none⟩ = some (.int .i64 l[k]) := (hbel.cell hblt).trans hcell
      have hfz := ho.frozenAt k
      have hlen := fillF_len (0 : Int) l k hk
      have hce : ∃ old, wr.cell? ⟨w.heap.size, k, none⟩ = some old := ⟨_, (ho.cellAt k (by omega)).trans (List.getElem?_eq_getElem (by simp; omega))⟩
      obtain ⟨old, hce⟩ := hce
      have hst := (ho.stored k (.int .i64 l[k])).1
      rw [← List.map_set, fillF_set 0 l k hlt] at hst
      have hb3 : Below w.heap.size w (wr.setCell ⟨w.heap.size, k, none⟩ (.int .i64 l[k])) := hbel.setCell (Nat.le_refl _) _
      clear hown1 hgrow hlen ho hbel hcell
      generalize l[k] = y at *
      go_wp2
      go_roundw
      case rel => exact ⟨k + 1, by omega, by go_num, hst, hb3⟩
      case measure => simp [intOf]; omega
    · obtain rfl : k = l.length := by omega
      go_wp2
      go_ret
      rw [fillF_all] at ho
      exact ⟨_, rfl, ho, hbel⟩

theorem szInts (a : Option Addr) (cap n : Nat) (left : Int) (w : World) (h0 : 0 ≤ left) (h1 : left ≤ 1048576) (hn : n ≤ maxLen) :
    Calls Try.prog 70 #[.slice a n cap, .int .i64 left] w fun e w' => ∃ r, e = .returned (.int .i64 r) ∧ (0 ≤ r → (n : Int) ≤ left) ∧ r ≤ left ∧ w' = w := by
  unfold maxLen at hn
  have hw : IntKind.i64.wrap (left - (n : Int)) = left - (n : Int) := by rw [IntKind.wrap_i64]; omega
  by_cases h : left - (n : Int) < 0
  · go_enter Try.func70, Try.ntmps70
    go_wp2
    go_ret
    exact ⟨_, rfl, by omega, by omega, rfl⟩
  · go_enter Try.func70, Try.ntmps70
    go_wp2
    go_ret
    exact ⟨_, rfl, by omega, by omega, rfl⟩

set_option maxRecDepth 20000 in
set_option maxHeartbeats 1000000 in
theorem toNodeW (v : Value) (n : NodeD) (w : World) (hl : n.b.length ≤ 1048576) (hr : RdN w v n) :
    Calls Try.prog 50 #[v] w fun e w' => ∃ v', e = .returned v' ∧ OwnN w' w.heap.size v' n ∧ Below w.heap.size w w' := by
  obtain ⟨a, c, rfl, _, _, hr⟩ := hr
  have HR : Hid (Rd .i64 w a n.b) := hr
  clear hr
  unfold aggN
  go_enter Try.func50, Try.ntmps50
  go_wp2_with fail
  refine (toInts _ _ n.b _ hl (HR.out.below (below3 _ _ _ _) (Nat.le_refl _))).mono ?_
  rintro e w1 ⟨v1, rfl, ho1, hb1⟩
  obtain ⟨a1, c1, rfl, _, _⟩ := own_rd ho1
  have hV0 : Var w1 (w.heap.size + 1 + 1) #[.int .i64 n.k, .int .i64 n.g, .int .i64 n.t, .int .i64 n.s, .slice none 0 0] 57 := (Var.made3 w _ _ _ _).new hb1
  have hR0 : Var w1 (w.heap.size + 1) #[.int .i64 0, .int .i64 0, .int .i64 0, .int .i64 0, .slice none 0 0] 57 := ((Var.made2 w _ _ _).alloc _).new hb1
  have hb01 : Below w.heap.size w w1 := (below3 w _ _ _).trans (hb1.mono (by simp; omega))
  have hlt := hV0.lt
  have hc4 := hV0.cell 4
  have hf4 := hV0.frozen 4
  simp at hc4
  have ho2 := own_set (ownsRow_base ho1 (show w.heap.size + 1 + 1 + 1 ≤ _ by simp)) (Q := w.heap.size + 1 + 1) (by omega) 4 (.slice a1 n.b.length c1)
  have hV1 := hV0.set 4 (.slice a1 n.b.length c1)
  have hR1 := hR0.other (Q := w.heap.size + 1 + 1) (by omega) 4 (.slice a1 n.b.length c1)
  have hB1 : Below w.heap.size w (w1.setCell ⟨w.heap.size + 1 + 1, 4, none⟩ (.slice a1 n.b.length c1)) := hb01.setCell (p := ⟨w.heap.size + 1 + 1, 4, none⟩) (by show _ ≤ w.heap.size + 1 + 1; omega) _
  simp at hV1
  go_upto_region 7 with fail
  generalize w1.setCell ⟨w.heap.size + 1 + 1, 4, none⟩ (.slice a1 n.b.length c1) = W2 at *
  have x0 := hV1.cell 0
  have x1 := hV1.cell 1
  have x2 := hV1.cell 2
  have x3 := hV1.cell 3
  have x4 := hV1.cell 4
  simp at x0 x1 x2 x3 x4
  obtain ⟨hR9, r0, r1, r2, r3, r4, q0, q1, q2, q3, q4⟩ := hR1.five (.int .i64 n.k) (.int .i64 n.g) (.int .i64 n.t) (.int .i64 n.s) (.slice a1 n.b.length c1)
  have HR9 : Hid (Var (five W2 (w.heap.size + 1) (.int .i64 n.k) (.int .i64 n.g) (.int .i64 n.t) (.int .i64 n.s) (.slice a1 n.b.length c1)) (w.heap.size + 1) #[.int .i64 n.k, .int .i64 n.g, .int .i64 n.t, .int .i64 n.s, .slice a1 n.b.length c1] 57) := hR9
  have HO9 : Hid (OwnN (five W2 (w.heap.size + 1) (.int .i64 n.k) (.int .i64 n.g) (.int .i64 n.t) (.int .i64 n.s) (.slice a1 n.b.length c1)) w.heap.size (aggN n (.slice a1 n.b.length c1)) n) := ⟨_, rfl, ownsRow_base (own_five ho2 (by omega) _ _ _ _ _) (by omega)⟩
  have HB9 : Hid (Below w.heap.size w (five W2 (w.heap.size + 1) (.int .i64 n.k) (.int .i64 n.g) (.int .i64 n.t) (.int .i64 n.s) (.slice a1 n.b.length c1))) := below_five hB1 (by omega) _ _ _ _ _
  clear hR9 hV1 hR1 ho2 hB1 hV0 hR0 hb01 hc4 hf4 ho1 hb1
  go_wp2
  refine bodyPost_ret (results_cell_row rfl _ _ (w.heap.size + 1) 57 #[.int .i64 n.k, .int .i64 n.g, .int .i64 n.t, .int .i64 n.s, .slice a1 n.b.length c1] (0, 0) _ rfl HR9.out Try.underlying57 rfl Try.sizeNode) rfl ?_
  exact ⟨_, rfl, HO9.out, HB9.out⟩

set_option maxRecDepth 20000 in
theorem szNodeW (v : Value) (n : NodeD) (left : Int) (w : World) (h0 : 0 ≤ left) (h1 : left ≤ 1048576) (hn : n.b.length ≤ maxLen) (hr : RdN w v n) :
    Calls Try.prog 49 #[v, .int .i64 left] w fun e w' => ∃ r, e = .returned (.int .i64 r) ∧ (0 ≤ r → (n.b.length : Int) ≤ left) ∧ r ≤ left ∧ Below w.heap.size w w' := by
  obtain ⟨a, c, rfl, _, _, hr⟩ := hr
  clear hr
  unfold aggN
  go_enter Try.func49, Try.ntmps49
  go_wp2_with fail
  refine (szInts _ _ n.b.length left _ h0 h1 hn).mono ?_
  rintro e w1 ⟨r, rfl, hr1, hr2, hw1⟩
  subst w1
  have hb : Below w.heap.size w (w.alloc (.cells #[.int .i64 n.k, .int .i64 n.g, .int .i64 n.t, .int .i64 n.s, .slice a n.b.length c] 70)) := below1 _ _
  by_cases h : r < 0
  · go_wp2
    go_ret
    exact ⟨_, rfl, by omega, by omega, hb⟩
  · go_wp2
    go_ret
    exact ⟨_, rfl, hr1, hr2, hb⟩

set_option maxRecDepth 20000 in
set_option maxHeartbeats 1000000 in
theorem eqNodeW (v u : Value) (n : NodeD) (w : World) (hl : n.b.length ≤ 4194304) (hr : RdN w v n) (hs : RdN w u n) :
    Calls Try.prog 54 #[v, u] w fun e w' => e = .returned (.bool true) ∧ Below w.heap.size w w' := by
  obtain ⟨a, c, rfl, _, _, hr⟩ := hr
  obtain ⟨a', c', rfl, _, _, hs⟩ := hs
  have HR : Hid (Rd .i64 w a n.b) := hr
  have HS : Hid (Rd .i64 w a' n.b) := hs
  clear hr hs
  unfold aggN
  go_enter Try.func54, Try.ntmps54
  go_wp2_with fail
  refine (eqI _ _ _ _ n.b _ hl (HR.out.below (below2 _ _ _) (Nat.le_refl _)) (HS.out.below (below2 _ _ _) (Nat.le_refl _))).mono ?_
  rintro e w1 ⟨rfl, hb1⟩
  have hb : Below w.heap.size w w1 := (below2 w _ _).trans (hb1.mono (by simp; omega))
  go_wp2
  go_ret
  exact ⟨rfl, hb⟩
end Go.Proofs.Ytioecnfgliponaa
