/-
  Own text: the text of a node, as the other program writes it.
-/
import Derived.Test.YtaabcfgjmankgaaDoorSNodeW
import Derived.Test.YtaabcfgjmankgaaDoorNumW
import Derived.Test.YtaabcfgjmankgaaDoorAppSrc
import Derived.Laws.IdiomStrings
namespace Go.Proofs.YtaabcfgjmankgaaDoor
open Go.RowKit

/-- Bytes that lie in a row, turned into a text. -/
theorem conv_baN {w : World} {b off cap : Nat} {l : List Int} (hu : U8 l) (hc : ∀ i, i < l.length → w.cell? ⟨b, off + i, none⟩ = some (.int .u8 (l.getD i 0))) :
    (convert 45 9 (.slice (some ⟨b, off, none⟩) l.length cap)).run Tryd.prog w = .ok (.string (baOf l)) w := by
  have h := run_convert_bytes_back (P := Tryd.prog) w 45 9 5 ⟨b, off, none⟩ cap (l.map fun x => UInt8.ofNat x.toNat) Tryd.underlying45 Tryd.underlying5 Tryd.underlying9 (by
    intro j hj
    rw [List.length_map] at hj
    rw [Go.WideShapes.add_plain, hc j hj]
    have := hu _ (List.getElem_mem hj)
    simp [List.getD, hj]
    omega)
  rw [List.length_map] at h
  exact h
theorem src_ownN {P : Program} {w : World} {base : Nat} {t e e' : TypeId} {v : Value} {n : Nat} {xs : List Value} (ht : P.underlying t = some (.slice e')) (h : w.ownsRow base e 1 v n xs) (h1 : ∀ u ∈ xs, u.oneCell' = true) : Src P 1 t v n xs w := by
  have hl : xs.length = n * 1 := h.1
  rcases h.2 with ⟨rfl, rfl⟩ | ⟨g, cap, cur, rfl, _⟩
  · obtain rfl : xs = [] := List.eq_nil_of_length_eq_zero (by simpa using hl)
    exact Src.ofNil w ht 0
  · exact Src.ofSlice w ht ⟨g, 0, none⟩ n cap xs hl (h.cells (g := g) rfl) h1
theorem _root_.Go.RowKit.Below.size' {B : Nat} {w w' : World} (h : Below B w w') : w.heap.size ≤ w'.heap.size := h.size
/-- A row of the call's own, turned into a text. -/
theorem conv_row {w : World} {base : Nat} {v : Value} {l : List Int} (hu : U8 l) (hl : 0 < l.length) (h : w.ownsRow base 5 1 v l.length (l.map (Value.int .u8))) : (convert 45 9 v).run Tryd.prog w = .ok (.string (baOf l)) w := by
  obtain ⟨q, qc, rfl, _, hrq⟩ := own_rd h
  rcases hrq with h0 | ⟨b, off, rfl, _, hc⟩
  · rw [h0] at hl; simp at hl
  · exact conv_baN hu hc

set_option maxRecDepth 20000 in
set_option maxHeartbeats 4000000 in
theorem specNodeText (v : Value) (n : NodeD) (w : World) (hl : n.b.length ≤ 1048576) (hr : RdN w v n) :
    Calls Tryd.prog 34 #[v] w fun e w' => e = .returned (.string (ndText n)) ∧ Below w.heap.size w w' := by
  obtain ⟨i0, hi, hz0, hz1, hz2⟩ := info_parts Tryd.infoU8
  have hrd := hr
  obtain ⟨a, c, rfl, hcap, hcmx, hr⟩ := hr
  have HR : Hid (∀ W, Below (w.heap.size + 1) (w.alloc (.cells #[.int .i64 n.k, .int .i64 n.g, .int .i64 n.t, .int .i64 n.s, .slice a n.b.length c] 36)) W → Rd .i64 W a n.b ∧ Below w.heap.size w W) := fun W h => ⟨hr.below ((below1 w _).trans (h.mono (by omega))) (Nat.le_refl _), (below1 w _).trans (h.mono (by omega))⟩
  have HV : Hid (∀ W, Below (w.heap.size + 1) (w.alloc (.cells #[.int .i64 n.k, .int .i64 n.g, .int .i64 n.t, .int .i64 n.s, .slice a n.b.length c] 36)) W → Var W w.heap.size #[.int .i64 n.k, .int .i64 n.g, .int .i64 n.t, .int .i64 n.s, .slice a n.b.length c] 36) := fun W h => (Var.made w _ _).below h (by omega)
  have HOK : Hid (∀ Q, ndOk n = Q → Calls Tryd.prog 28 #[.agg #[.int .i64 n.k, .int .i64 n.g, .int .i64 n.t, .int .i64 n.s, .slice a n.b.length c]] (w.alloc (.cells #[.int .i64 n.k, .int .i64 n.g, .int .i64 n.t, .int .i64 n.s, .slice a n.b.length c] 36)) fun e w' => e = .returned (.bool Q) ∧ Below (w.heap.size + 1) (w.alloc (.cells #[.int .i64 n.k, .int .i64 n.g, .int .i64 n.t, .int .i64 n.s, .slice a n.b.length c] 36)) w') := by
    rintro Q rfl
    have := specNodeOk _ n (w.alloc (.cells #[.int .i64 n.k, .int .i64 n.g, .int .i64 n.t, .int .i64 n.s, .slice a n.b.length c] 36)) hl (hrd.below (below1 _ _) (Nat.le_refl _))
    rwa [show (w.alloc (.cells #[.int .i64 n.k, .int .i64 n.g, .int .i64 n.t, .int .i64 n.s, .slice a n.b.length c] 36)).heap.size = w.heap.size + 1 by simp] at this
  clear hr hrd hcap hcmx
  unfold aggN
  cases hq : ndOk n with
  | false =>
    have HF : Hid (ndText n = ⟨#[]⟩) := by show _ = _; unfold ndText; rw [hq]; rfl
    have HT : Hid (Calls Tryd.prog 28 #[.agg #[.int .i64 n.k, .int .i64 n.g, .int .i64 n.t, .int .i64 n.s, .slice a n.b.length c]] (w.alloc (.cells #[.int .i64 n.k, .int .i64 n.g, .int .i64 n.t, .int .i64 n.s, .slice a n.b.length c] 36)) fun e w' => e = .returned (.bool false) ∧ Below (w.heap.size + 1) (w.alloc (.cells #[.int .i64 n.k, .int .i64 n.g, .int .i64 n.t, .int .i64 n.s, .slice a n.b.length c] 36)) w') := HOK.out false hq
    clear HOK hq
    go_enter Tryd.func34, Tryd.ntmps34
    go_wp2_with fail
    refine HT.out.mono ?_
    rintro e w1 ⟨rfl, hb1⟩
    have hb2 := (HR.out w1 hb1).2
    go_wp2
    go_ret
    exact ⟨by rw [HF.out]; rfl, hb2⟩
  | true =>
    have hn := ndOk_iff.1 hq
    have HT : Hid (Calls Tryd.prog 28 #[.agg #[.int .i64 n.k, .int .i64 n.g, .int .i64 n.t, .int .i64 n.s, .slice a n.b.length c]] (w.alloc (.cells #[.int .i64 n.k, .int .i64 n.g, .int .i64 n.t, .int .i64 n.s, .slice a n.b.length c] 36)) fun e w' => e = .returned (.bool true) ∧ Below (w.heap.size + 1) (w.alloc (.cells #[.int .i64 n.k, .int .i64 n.g, .int .i64 n.t, .int .i64 n.s, .slice a n.b.length c] 36)) w') := HOK.out true hq
    have HF : Hid (ndText n = baOf (ndB n)) := by show _ = _; unfold ndText; rw [if_pos hq]
    have HU : Hid (U8 (ndB n)) := ndB_u8 hn
    obtain ⟨hk1, hk2, _⟩ := hn.kind
    have h5 := hn.len
    have hw8 : IntKind.u8.wrap n.k = n.k := by rw [IntKind.wrap_u8]; omega
    clear HOK hq hn
    go_enter Tryd.func34, Tryd.ntmps34
    go_wp2_with fail
    refine HT.out.mono ?_
    rintro e w1 ⟨rfl, hb1⟩
    have y0 : w1.cell? ⟨w.heap.size, 0, none⟩ = some (.int .i64 n.k) := (HV.out w1 hb1).cell 0
    have hs1 : w.heap.size + 1 ≤ w1.heap.size := by have := (HV.out w1 hb1).lt; omega
    have HOW : Hid ((w1.alloc (.cells #[.int .u8 n.k] 5)).ownsRow (w.heap.size + 1) 5 1 (.slice (some ⟨w1.heap.size, 0, none⟩) 1 1) [n.k].length ([n.k].map (Value.int .u8))) := ⟨rfl, .inr ⟨w1.heap.size, 1, #[.int .u8 n.k], rfl, hs1, heap_alloc_new w1 _, Nat.le_refl _, by unfold maxLen; omega, rfl, rfl⟩⟩
    have HBW : Hid (Below (w.heap.size + 1) (w.alloc (.cells #[.int .i64 n.k, .int .i64 n.g, .int .i64 n.t, .int .i64 n.s, .slice a n.b.length c] 36)) (w1.alloc (.cells #[.int .u8 n.k] 5))) := hb1.alloc hs1 _
    have y1 : (w1.alloc (.cells #[.int .u8 n.k] 5)).cell? ⟨w.heap.size, 0, none⟩ = some (.int .i64 n.k) := (HV.out _ HBW.out).cell 0
    clear HT hb1
    by_cases h0 : n.k = 0
    · have HB0 : Hid (ndB n = [n.k]) := by show _ = _; unfold ndB; rw [if_pos h0, h0]
      have hcv := conv_row (l := [n.k]) (by rw [← HB0.out]; exact HU.out) (by simp) HOW.out
      have hb2 := (HR.out _ HBW.out).2
      have b1 : (n.k == 0) = true := by simpa using h0
      have HF2 : Hid (ndText n = baOf [n.k]) := by show _ = _; rw [HF.out, HB0.out]
      clear h0
      go_wp2
      go_ret
      exact ⟨by rw [HF2.out]; rfl, hb2⟩
    · have HB0 : Hid (ndB n = n.k :: (numsN n).flatMap putNum) := by show _ = _; unfold ndB; rw [if_neg h0]
      have b1 : (n.k == 0) = false := by simpa using h0
      clear h0
      have y2 : (w1.alloc (.cells #[.int .u8 n.k] 5)).cell? ⟨w.heap.size, 1, none⟩ = some (.int .i64 n.g) := (HV.out _ HBW.out).cell 1
      go_wp2_with fail
      have HBW1 : Hid (Below (w.heap.size + 1) (w.alloc (.cells #[.int .i64 n.k, .int .i64 n.g, .int .i64 n.t, .int .i64 n.s, .slice a n.b.length c] 36)) (w1.alloc (.cells #[.int .u8 n.k] 5))) := HBW
      have HOW1 : Hid ((w1.alloc (.cells #[.int .u8 n.k] 5)).ownsRow (w.heap.size + 1) 5 1 (.slice (some ⟨w1.heap.size, 0, none⟩) 1 1) [n.k].length ([n.k].map (Value.int .u8))) := HOW
      have HLW1 : Hid ([n.k].length ≤ 1) := Nat.le_refl _
      clear HBW HOW y0 y1 y2
      generalize w1.alloc (.cells #[.int .u8 n.k] 5) = W1 at *
      refine (specPutNum n.g W1).mono ?_
      rintro e u1 ⟨x1, rfl, hx1, hb1⟩
      have ho1 := ownsRow_below HOW1.out hb1 (Nat.le_refl _)
      have HSR1 : Hid (Src Tryd.prog 1 45 x1 (putNum n.g).length ((putNum n.g).map (Value.int .u8)) u1) := src_ownN Tryd.underlying45 hx1 (fun u hu => by obtain ⟨_, _, rfl⟩ := List.mem_map.1 hu; rfl)
      have hsw1 : w.heap.size + 1 ≤ W1.heap.size := by have := (HV.out W1 HBW1.out).lt; omega
      have hB1 : Below (w.heap.size + 1) (w.alloc (.cells #[.int .i64 n.k, .int .i64 n.g, .int .i64 n.t, .int .i64 n.s, .slice a n.b.length c] 36)) u1 := HBW1.out.trans (hb1.mono hsw1)
      have hpl1 := putNum_len n.g
      have hsz1 : w.heap.size + 1 ≤ u1.heap.size := by have := hb1.size; omega
      clear hx1 hb1 HOW1 hsw1
      go_wp2_with (at_builtin; refine wpList_append_own_src _ rfl (.tmp 17) (.tmp 20) 45 45 rfl (w.heap.size + 1) 5 i0 (.int .u8 0) 1 1 Tryd.underlying45 hi hz0 hz1 hz2 rfl _ _ _ rfl ho1 _ _ _ rfl HSR1.out (by have := HLW1.out; unfold maxLen; omega) (by have := HLW1.out; omega) hsz1 ?_)
      intro v2 W2 hn1 hg1
      have HBW2 : Hid (Below (w.heap.size + 1) (w.alloc (.cells #[.int .i64 n.k, .int .i64 n.g, .int .i64 n.t, .int .i64 n.s, .slice a n.b.length c] 36)) W2) := hB1.grown hg1 hsz1 (fun q hq => (ho1.lt q hq).1)
      have HOW2 : Hid (W2.ownsRow (w.heap.size + 1) 5 1 v2 ([n.k] ++ putNum n.g).length (([n.k] ++ putNum n.g).map (Value.int .u8))) := by
        show World.ownsRow _ _ _ _ _ _ _
        rw [List.length_append, List.map_append]
        exact hn1
      have HLW2 : Hid (([n.k] ++ putNum n.g).length ≤ 6) := by have h8 := HLW1.out; show _ ≤ _; rw [List.length_append]; omega
      clear hn1 hg1 ho1 hB1 hsz1 HSR1 hpl1
      generalize hB2 : [n.k] ++ putNum n.g = B2 at *
      have z2 : W2.cell? ⟨w.heap.size, 2, none⟩ = some (.int .i64 n.t) := (HV.out W2 HBW2.out).cell 2
      go_wp2_with fail
      refine (specPutNum n.t W2).mono ?_
      rintro e u2 ⟨x2, rfl, hx2, hb2⟩
      have ho2 := ownsRow_below HOW2.out hb2 (Nat.le_refl _)
      have HSR2 : Hid (Src Tryd.prog 1 45 x2 (putNum n.t).length ((putNum n.t).map (Value.int .u8)) u2) := src_ownN Tryd.underlying45 hx2 (fun u hu => by obtain ⟨_, _, rfl⟩ := List.mem_map.1 hu; rfl)
      have hsw2 : w.heap.size + 1 ≤ W2.heap.size := by have := (HV.out W2 HBW2.out).lt; omega
      have hB2 : Below (w.heap.size + 1) (w.alloc (.cells #[.int .i64 n.k, .int .i64 n.g, .int .i64 n.t, .int .i64 n.s, .slice a n.b.length c] 36)) u2 := HBW2.out.trans (hb2.mono hsw2)
      have hpl2 := putNum_len n.t
      have hsz2 : w.heap.size + 1 ≤ u2.heap.size := by have := hb2.size; omega
      clear hx2 hb2 HOW2 hsw2 z2
      go_wp2_with (at_builtin; refine wpList_append_own_src _ rfl (.tmp 22) (.tmp 25) 45 45 rfl (w.heap.size + 1) 5 i0 (.int .u8 0) 1 1 Tryd.underlying45 hi hz0 hz1 hz2 rfl _ _ _ rfl ho2 _ _ _ rfl HSR2.out (by have := HLW2.out; unfold maxLen; omega) (by have := HLW2.out; omega) hsz2 ?_)
      intro v3 W3 hn2 hg2
      have HBW3 : Hid (Below (w.heap.size + 1) (w.alloc (.cells #[.int .i64 n.k, .int .i64 n.g, .int .i64 n.t, .int .i64 n.s, .slice a n.b.length c] 36)) W3) := hB2.grown hg2 hsz2 (fun q hq => (ho2.lt q hq).1)
      have HOW3 : Hid (W3.ownsRow (w.heap.size + 1) 5 1 v3 (B2 ++ putNum n.t).length ((B2 ++ putNum n.t).map (Value.int .u8))) := by
        show World.ownsRow _ _ _ _ _ _ _
        rw [List.length_append, List.map_append]
        exact hn2
      have HLW3 : Hid ((B2 ++ putNum n.t).length ≤ 11) := by have h8 := HLW2.out; show _ ≤ _; rw [List.length_append]; omega
      clear hn2 hg2 ho2 hB2 hsz2 HSR2 hpl2
      generalize hB3 : B2 ++ putNum n.t = B3 at *
      have z3 : W3.cell? ⟨w.heap.size, 3, none⟩ = some (.int .i64 n.s) := (HV.out W3 HBW3.out).cell 3
      go_wp2_with fail
      refine (specPutNum n.s W3).mono ?_
      rintro e u3 ⟨x3, rfl, hx3, hb3⟩
      have ho3 := ownsRow_below HOW3.out hb3 (Nat.le_refl _)
      have HSR3 : Hid (Src Tryd.prog 1 45 x3 (putNum n.s).length ((putNum n.s).map (Value.int .u8)) u3) := src_ownN Tryd.underlying45 hx3 (fun u hu => by obtain ⟨_, _, rfl⟩ := List.mem_map.1 hu; rfl)
      have hsw3 : w.heap.size + 1 ≤ W3.heap.size := by have := (HV.out W3 HBW3.out).lt; omega
      have hB3 : Below (w.heap.size + 1) (w.alloc (.cells #[.int .i64 n.k, .int .i64 n.g, .int .i64 n.t, .int .i64 n.s, .slice a n.b.length c] 36)) u3 := HBW3.out.trans (hb3.mono hsw3)
      have hpl3 := putNum_len n.s
      have hsz3 : w.heap.size + 1 ≤ u3.heap.size := by have := hb3.size; omega
      clear hx3 hb3 HOW3 hsw3 z3
      go_wp2_with (at_builtin; refine wpList_append_own_src _ rfl (.tmp 27) (.tmp 30) 45 45 rfl (w.heap.size + 1) 5 i0 (.int .u8 0) 1 1 Tryd.underlying45 hi hz0 hz1 hz2 rfl _ _ _ rfl ho3 _ _ _ rfl HSR3.out (by have := HLW3.out; unfold maxLen; omega) (by have := HLW3.out; omega) hsz3 ?_)
      intro v4 W4 hn3 hg3
      have HBW4 : Hid (Below (w.heap.size + 1) (w.alloc (.cells #[.int .i64 n.k, .int .i64 n.g, .int .i64 n.t, .int .i64 n.s, .slice a n.b.length c] 36)) W4) := hB3.grown hg3 hsz3 (fun q hq => (ho3.lt q hq).1)
      have HOW4 : Hid (W4.ownsRow (w.heap.size + 1) 5 1 v4 (B3 ++ putNum n.s).length ((B3 ++ putNum n.s).map (Value.int .u8))) := by
        show World.ownsRow _ _ _ _ _ _ _
        rw [List.length_append, List.map_append]
        exact hn3
      have HLW4 : Hid ((B3 ++ putNum n.s).length ≤ 16) := by have h8 := HLW3.out; show _ ≤ _; rw [List.length_append]; omega
      clear hn3 hg3 ho3 hB3 hsz3 HSR3 hpl3
      have HBB : Hid (ndB n = B3 ++ putNum n.s ++ n.b.flatMap putNum) := by
        show _ = _
        rw [HB0.out, ← hB3, ← hB2]
        simp [numsN]
      have hB2' := hB2
      have hB3' := hB3
      clear hB2 hB3 HB0
      have HPS : Hid (0 < (B3 ++ putNum n.s).length) := by
        show _ < _
        rw [← hB3', ← hB2']
        simp
      clear hB2' hB3'
      generalize B3 ++ putNum n.s = B4 at *
      go_wp2
      go_loopw [3, 4] (fun v i wr => ∃ k : Nat, k ≤ n.b.length ∧ i = .int .i64 k ∧ Hid (wr.ownsRow (w.heap.size + 1) 5 1 v (B4 ++ (n.b.take k).flatMap putNum).length ((B4 ++ (n.b.take k).flatMap putNum).map (Value.int .u8))) ∧ Hid (Below (w.heap.size + 1) (w.alloc (.cells #[.int .i64 n.k, .int .i64 n.g, .int .i64 n.t, .int .i64 n.s, .slice a n.b.length c] 36)) wr)) (fun _ i _ => n.b.length - (intOf i).toNat)
      case atStart => exact ⟨0, Nat.zero_le _, rfl, by rw [List.take_zero, List.flatMap_nil, List.append_nil]; exact HOW4, HBW4⟩
      case round =>
        obtain ⟨k, hk, rfl, HOr, HBr⟩ := hrel
        have HLr : Hid ((B4 ++ (n.b.take k).flatMap putNum).length ≤ 41) := by
          have h8 := HLW4.out
          have h9 : ((n.b.take k).flatMap putNum).length ≤ (n.b.take k).length * 5 := by
            generalize n.b.take k = l
            induction l with
            | nil => simp
            | cons x l ih => simp only [List.flatMap_cons, List.length_append, List.length_cons]; have := putNum_len x; omega
          have h10 : (n.b.take k).length ≤ 5 := by simp; omega
          show _ ≤ _
          rw [List.length_append]
          omega
        by_cases hlt : k < n.b.length
        · have z4 : wr.cell? ⟨w.heap.size, 4, none⟩ = some (.slice a n.b.length c) := (HV.out wr HBr.out).cell 4
          obtain ⟨bb, off, rfl, hxc⟩ : ∃ bb off, a = some ⟨bb, off, none⟩ ∧ wr.cell? ⟨bb, off + k, none⟩ = some (.int .i64 n.b[k]) := by
            rcases (HR.out wr HBr.out).1 with h0 | ⟨bb, off, rfl, _, h2⟩
            · rw [h0] at hlt; simp at hlt
            · exact ⟨bb, off, rfl, by rw [h2 k hlt]; simp [List.getD, hlt]⟩
          have HTK : Hid (B4 ++ (n.b.take (k + 1)).flatMap putNum = B4 ++ (n.b.take k).flatMap putNum ++ putNum n.b[k]) := by
            show _ = _
            rw [List.take_succ_eq_append_getElem hlt, List.flatMap_append, List.append_assoc]
            simp
          have hsw : w.heap.size + 1 ≤ wr.heap.size := by have := (HV.out wr HBr.out).lt; omega
          have j1 : (k : Int) < (n.b.length : Int) := by omega
          generalize n.b[k] = y at *
          generalize B4 ++ (n.b.take k).flatMap putNum = B5 at *
          go_wp2_with fail
          refine (specPutNum y wr).mono ?_
          rintro e u5 ⟨x5, rfl, hx5, hb5⟩
          have ho5 := ownsRow_below HOr.out hb5 (Nat.le_refl _)
          have HSR5 : Hid (Src Tryd.prog 1 45 x5 (putNum y).length ((putNum y).map (Value.int .u8)) u5) := src_ownN Tryd.underlying45 hx5 (fun u hu => by obtain ⟨_, _, rfl⟩ := List.mem_map.1 hu; rfl)
          have hB5 := HBr.out.trans (hb5.mono hsw)
          have hpl5 := putNum_len y
          have hsz5 : w.heap.size + 1 ≤ u5.heap.size := by have := hb5.size; omega
          clear hx5 hb5 HOr HBr hsw z4 hxc
          go_wp2_with (at_builtin; refine wpList_append_own_src _ rfl (.tmp 39) (.tmp 45) 45 45 rfl (w.heap.size + 1) 5 i0 (.int .u8 0) 1 1 Tryd.underlying45 hi hz0 hz1 hz2 rfl _ _ _ rfl ho5 _ _ _ rfl HSR5.out (by have := HLr.out; unfold maxLen; omega) (by have := HLr.out; omega) hsz5 ?_)
          intro v6 w6 hn6 hg6
          have HB6 : Hid _ := hB5.grown hg6 hsz5 (fun q hq => (ho5.lt q hq).1)
          have HO6 : Hid (w6.ownsRow (w.heap.size + 1) 5 1 v6 (B4 ++ (n.b.take (k + 1)).flatMap putNum).length ((B4 ++ (n.b.take (k + 1)).flatMap putNum).map (Value.int .u8))) := by
            show World.ownsRow _ _ _ _ _ _ _
            rw [HTK.out, List.length_append, List.map_append]
            exact hn6
          clear hn6 hg6 ho5 hB5 hsz5 HSR5 hpl5 HTK
          go_wp2
          go_roundw
          case rel => exact ⟨k + 1, by omega, by go_num, HO6, HB6⟩
          case measure => simp [intOf]; omega
        · obtain rfl : k = n.b.length := by omega
          have z4 : wr.cell? ⟨w.heap.size, 4, none⟩ = some (.slice a n.b.length c) := (HV.out wr HBr.out).cell 4
          have hO := HOr.out
          rw [List.take_length, ← HBB.out] at hO
          have hpos : 0 < (ndB n).length := by rw [HBB.out, List.length_append]; have := HPS.out; omega
          have hcv := conv_row HU.out hpos hO
          have hb := (HR.out wr HBr.out).2
          obtain ⟨q, qc, hqe, _, _⟩ := own_rd hO
          subst hqe
          have HFF : Hid (ndText n = baOf (ndB n)) := HF
          generalize (ndB n).length = LL at *
          clear hO HOr HBr HLr
          go_wp2
          go_ret
          exact ⟨by rw [HFF.out]; rfl, hb⟩
end Go.Proofs.YtaabcfgjmankgaaDoor
