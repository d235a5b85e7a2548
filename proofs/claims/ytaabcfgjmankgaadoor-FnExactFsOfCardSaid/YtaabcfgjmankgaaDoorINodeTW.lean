/-
  Own text: the text of a node, as the program writes it.
-/
import Derived.Test.YtaabcfgjmankgaaDoorBunV
import Derived.Test.YtaabcfgjmankgaaDoorSNodeTW
import Derived.Test.YtaabcfgjmankgaaDoorAppAt
namespace Go.Proofs.YtaabcfgjmankgaaDoor
open Go.RowKit

theorem src_rdI {w : World} {a : Option Addr} {l : List Int} (cap : Nat) (h : Rd .i64 w a l) : Src Tryd.prog 1 34 (.slice a l.length cap) l.length (l.map (Value.int .i64)) w := by
  rcases h with rfl | ⟨b, off, rfl, h1, h2⟩
  · cases a with
    | none => exact Src.ofNil w Tryd.underlying34 cap
    | some x => exact Src.ofSlice w Tryd.underlying34 x 0 cap [] rfl (fun j u h => by simp at h) (fun u hu => by simp at hu)
  · refine Src.ofSlice w Tryd.underlying34 ⟨b, off, none⟩ l.length cap _ (by simp) (fun j u hj => ?_) (fun u hu => by obtain ⟨_, _, rfl⟩ := List.mem_map.1 hu; rfl)
    rw [List.getElem?_map] at hj
    have hjl : j < l.length := by
      rcases Nat.lt_or_ge j l.length with h | h
      · exact h
      · rw [List.getElem?_eq_none h] at hj; simp at hj
    rw [Go.WideShapes.add_plain, h2 j hjl]
    rw [List.getElem?_eq_getElem hjl] at hj
    simp [List.getD, hjl] at hj ⊢
    exact hj

theorem ownsRow_grown {w w' : World} {base : Nat} {e : TypeId} {size : Nat} {v : Value} {n : Nat} {xs : List Value} {row : Option Nat} (h : w.ownsRow base e size v n xs) (hg : w.grownBy w' row) (hne : ∀ g, v.ownBlock = some g → some g ≠ row) : w'.ownsRow base e size v n xs := by
  refine ⟨h.1, ?_⟩
  rcases h.2 with hn | ⟨g, cap, cur, rfl, hb', hgg, rest⟩
  · exact .inl hn
  · refine .inr ⟨g, cap, cur, rfl, hb', ?_, rest⟩
    rw [hg.block g (Array.getElem?_eq_some_iff.1 hgg).1 (hne g rfl)]
    exact hgg
theorem numsN_len (n : NodeD) : (numsN n).length = 3 + n.b.length := by simp [numsN]; omega

set_option maxRecDepth 20000 in
set_option maxHeartbeats 4000000 in
theorem implNodeText (v : Value) (n : NodeD) (w : World) (hl : n.b.length ≤ 1048576) (hr : RdN w v n) :
    Calls Tryd.prog 46 #[v] w fun e w' => e = .returned (.string (ndText n)) ∧ Below w.heap.size w w' := by
  obtain ⟨i0, hi, hz0, hz1, hz2⟩ := info_parts Tryd.infoU8
  obtain ⟨i1, ii, iz0, iz1, iz2⟩ := info_parts Tryd.infoInt
  have hrd := hr
  obtain ⟨a, c, rfl, hcap, hcmx, hr⟩ := hr
  have HR : Hid (∀ W, Below (w.heap.size + 1) (w.alloc (.cells #[.int .i64 n.k, .int .i64 n.g, .int .i64 n.t, .int .i64 n.s, .slice a n.b.length c] 36)) W → Rd .i64 W a n.b ∧ Below w.heap.size w W) := fun W h => ⟨hr.below ((below1 w _).trans (h.mono (by omega))) (Nat.le_refl _), (below1 w _).trans (h.mono (by omega))⟩
  have HV : Hid (∀ W, Below (w.heap.size + 1) (w.alloc (.cells #[.int .i64 n.k, .int .i64 n.g, .int .i64 n.t, .int .i64 n.s, .slice a n.b.length c] 36)) W → Var W w.heap.size #[.int .i64 n.k, .int .i64 n.g, .int .i64 n.t, .int .i64 n.s, .slice a n.b.length c] 36) := fun W h => (Var.made w _ _).below h (by omega)
  have HOK : Hid (∀ Q, ndOk n = Q → Calls Tryd.prog 39 #[.agg #[.int .i64 n.k, .int .i64 n.g, .int .i64 n.t, .int .i64 n.s, .slice a n.b.length c]] (w.alloc (.cells #[.int .i64 n.k, .int .i64 n.g, .int .i64 n.t, .int .i64 n.s, .slice a n.b.length c] 36)) fun e w' => e = .returned (.bool Q) ∧ Below (w.heap.size + 1) (w.alloc (.cells #[.int .i64 n.k, .int .i64 n.g, .int .i64 n.t, .int .i64 n.s, .slice a n.b.length c] 36)) w') := by
    rintro Q rfl
    have := implNodeOk _ n (w.alloc (.cells #[.int .i64 n.k, .int .i64 n.g, .int .i64 n.t, .int .i64 n.s, .slice a n.b.length c] 36)) hl (hrd.below (below1 _ _) (Nat.le_refl _))
    rwa [show (w.alloc (.cells #[.int .i64 n.k, .int .i64 n.g, .int .i64 n.t, .int .i64 n.s, .slice a n.b.length c] 36)).heap.size = w.heap.size + 1 by simp] at this
  clear hr hrd hcap hcmx
  unfold aggN
  cases hq : ndOk n with
  | false =>
    have HF : Hid (ndText n = ⟨#[]⟩) := by show _ = _; unfold ndText; rw [hq]; rfl
    have HT : Hid (Calls Tryd.prog 39 #[.agg #[.int .i64 n.k, .int .i64 n.g, .int .i64 n.t, .int .i64 n.s, .slice a n.b.length c]] (w.alloc (.cells #[.int .i64 n.k, .int .i64 n.g, .int .i64 n.t, .int .i64 n.s, .slice a n.b.length c] 36)) fun e w' => e = .returned (.bool false) ∧ Below (w.heap.size + 1) (w.alloc (.cells #[.int .i64 n.k, .int .i64 n.g, .int .i64 n.t, .int .i64 n.s, .slice a n.b.length c] 36)) w') := HOK.out false hq
    clear HOK hq
    go_enter Tryd.func46, Tryd.ntmps46
    go_wp2_with fail
    refine HT.out.mono ?_
    rintro e w1 ⟨rfl, hb1⟩
    have hb2 := (HR.out w1 hb1).2
    go_wp2
    go_ret
    exact ⟨by rw [HF.out]; rfl, hb2⟩
  | true =>
    have hn := ndOk_iff.1 hq
    have HT : Hid (Calls Tryd.prog 39 #[.agg #[.int .i64 n.k, .int .i64 n.g, .int .i64 n.t, .int .i64 n.s, .slice a n.b.length c]] (w.alloc (.cells #[.int .i64 n.k, .int .i64 n.g, .int .i64 n.t, .int .i64 n.s, .slice a n.b.length c] 36)) fun e w' => e = .returned (.bool true) ∧ Below (w.heap.size + 1) (w.alloc (.cells #[.int .i64 n.k, .int .i64 n.g, .int .i64 n.t, .int .i64 n.s, .slice a n.b.length c] 36)) w') := HOK.out true hq
    have HF : Hid (ndText n = baOf (ndB n)) := by show _ = _; unfold ndText; rw [if_pos hq]
    have HU : Hid (U8 (ndB n)) := ndB_u8 hn
    obtain ⟨hk1, hk2, _⟩ := hn.kind
    have h5 := hn.len
    have hw8 : IntKind.u8.wrap n.k = n.k := by rw [IntKind.wrap_u8]; omega
    clear HOK hq hn
    go_enter Tryd.func46, Tryd.ntmps46
    go_wp2_with fail
    refine HT.out.mono ?_
    rintro e w1 ⟨rfl, hb1⟩
    have y0 : w1.cell? ⟨w.heap.size, 0, none⟩ = some (.int .i64 n.k) := (HV.out w1 hb1).cell 0
    have hs1 : w.heap.size + 1 ≤ w1.heap.size := by have := (HV.out w1 hb1).lt; omega
    have HOW : Hid ((w1.alloc (.cells #[.int .u8 n.k] 5)).ownsRow (w.heap.size + 1) 5 1 (.slice (some ⟨w1.heap.size, 0, none⟩) 1 1) [n.k].length ([n.k].map (Value.int .u8))) := ⟨rfl, .inr ⟨w1.heap.size, 1, #[.int .u8 n.k], rfl, hs1, heap_alloc_new w1 _, Nat.le_refl _, by unfold maxLen; omega, rfl, rfl⟩⟩
    have HBW : Hid (Below (w.heap.size + 1) (w.alloc (.cells #[.int .i64 n.k, .int .i64 n.g, .int .i64 n.t, .int .i64 n.s, .slice a n.b.length c] 36)) (w1.alloc (.cells #[.int .u8 n.k] 5))) := hb1.alloc hs1 _
    have y1 : (w1.alloc (.cells #[.int .u8 n.k] 5)).cell? ⟨w.heap.size, 0, none⟩ = some (.int .i64 n.k) := (HV.out _ HBW.out).cell 0
    clear HT hb1
    by_cases h0 : n.k = 0
    · have HB0 : Hid (ndB n = [n.k]) := by show _ = _; unfold ndB; rw [if_pos h0, h0]
      have hcv := conv_row (l := [n.k]) (by rw [← HB0.out]; exact HU.out) (by simp) HOW.out
      have hb2 := (HR.out _ HBW.out).2
      have b1 : (n.k == 0) = true := by simpa using h0
      have HF2 : Hid (ndText n = baOf [n.k]) := by show _ = _; rw [HF.out, HB0.out]
      clear h0
      go_wp2
      go_ret
      exact ⟨by rw [HF2.out]; rfl, hb2⟩
    · have HB0 : Hid (ndB n = n.k :: (numsN n).flatMap putNum) := by show _ = _; unfold ndB; rw [if_neg h0]
      have b1 : (n.k == 0) = false := by simpa using h0
      clear h0
      have HVW := HV.out _ HBW.out
      have y2 := HVW.cell 1
      have y3 := HVW.cell 2
      have y4 := HVW.cell 3
      have hsz : (w1.alloc (.cells #[.int .u8 n.k] 5)).heap.size = w1.heap.size + 1 := by simp
      have HOI : Hid (((w1.alloc (.cells #[.int .u8 n.k] 5)).alloc (.cells #[.int .i64 n.g, .int .i64 n.t, .int .i64 n.s] 3)).ownsRow (w1.heap.size + 1) 3 1 (.slice (some ⟨w1.heap.size + 1, 0, none⟩) 3 3) [n.g, n.t, n.s].length ([n.g, n.t, n.s].map (Value.int .i64))) := ⟨rfl, .inr ⟨w1.heap.size + 1, 3, #[.int .i64 n.g, .int .i64 n.t, .int .i64 n.s], rfl, Nat.le_refl _, by have := heap_alloc_new (w1.alloc (.cells #[.int .u8 n.k] 5)) (.cells #[.int .i64 n.g, .int .i64 n.t, .int .i64 n.s] 3); rwa [hsz] at this, Nat.le_refl _, by unfold maxLen; omega, rfl, rfl⟩⟩
      have HBI : Hid (Below (w.heap.size + 1) (w.alloc (.cells #[.int .i64 n.k, .int .i64 n.g, .int .i64 n.t, .int .i64 n.s, .slice a n.b.length c] 36)) ((w1.alloc (.cells #[.int .u8 n.k] 5)).alloc (.cells #[.int .i64 n.g, .int .i64 n.t, .int .i64 n.s] 3))) := HBW.out.alloc (by simp; omega) _
      have HOB : Hid (((w1.alloc (.cells #[.int .u8 n.k] 5)).alloc (.cells #[.int .i64 n.g, .int .i64 n.t, .int .i64 n.s] 3)).ownsRow (w.heap.size + 1) 5 1 (.slice (some ⟨w1.heap.size, 0, none⟩) 1 1) [n.k].length ([n.k].map (Value.int .u8))) := ownsRow_below HOW.out ((Below.refl _ _).alloc (Nat.le_refl _) _) (Nat.le_refl _)
      have y5 := (HV.out _ HBI.out).cell 4
      have HSI : Hid (Src Tryd.prog 1 34 (.slice a n.b.length c) n.b.length (n.b.map (Value.int .i64)) ((w1.alloc (.cells #[.int .u8 n.k] 5)).alloc (.cells #[.int .i64 n.g, .int .i64 n.t, .int .i64 n.s] 3))) := src_rdI c (HR.out _ HBI.out).1
      simp at y2 y3 y4 y5
      clear HVW HOW HBW
      go_wp2_with (at_builtin; refine wpList_append_own_src _ rfl (.tmp 22) (.tmp 24) 34 34 rfl (w1.heap.size + 1) 3 i1 (.int .i64 0) 1 8 Tryd.underlying34 ii iz0 iz1 iz2 rfl _ _ _ rfl HOI.out _ _ _ rfl HSI.out (by unfold maxLen; simp; omega) (by simp; omega) (by simp) ?_)
      intro vI W3 hn3 hg3
      have HBW3 : Hid (Below (w.heap.size + 1) (w.alloc (.cells #[.int .i64 n.k, .int .i64 n.g, .int .i64 n.t, .int .i64 n.s, .slice a n.b.length c] 36)) W3) := HBI.out.grown hg3 (by simp; omega) (fun q hq => by simp [Value.ownBlock] at hq; omega)
      have HOW3 : Hid (W3.ownsRow (w.heap.size + 1) 5 1 (.slice (some ⟨w1.heap.size, 0, none⟩) 1 1) [n.k].length ([n.k].map (Value.int .u8))) := ownsRow_grown HOB.out hg3 (fun g hg => by simp [Value.ownBlock] at hg ⊢; omega)
      have hnI : W3.ownsRow (w1.heap.size + 1) 3 1 vI (numsN n).length ((numsN n).map (Value.int .i64)) := by
        rw [numsN_len]
        exact hn3
      obtain ⟨gI, cI, hvI, hgI, hlI, HCI⟩ : ∃ gI cI, vI = .slice (some ⟨gI, 0, none⟩) (numsN n).length cI ∧ w1.heap.size + 1 ≤ gI ∧ gI < W3.heap.size ∧ Hid (∀ j (hj : j < (numsN n).length), W3.cell? ⟨gI, j, none⟩ = some (.int .i64 (numsN n)[j])) := by
        rcases hnI.2 with ⟨_, h0⟩ | ⟨g, cc, cur, rfl, hbg, hgg, _⟩
        · rw [numsN_len] at h0; omega
        · refine ⟨g, cc, rfl, hbg, (Array.getElem?_eq_some_iff.1 hgg).1, fun j hj => ?_⟩
          rw [hnI.cellAt j (by omega)]
          simp [hj]
      subst hvI
      have HL5 : Hid ((numsN n).length ≤ 8) := by show _ ≤ _; rw [numsN_len]; omega
      have hL8 : (numsN n).length ≤ 8 := HL5.out
      clear hnI hn3 hg3 HSI HBI HOI HOB y1 y2 y3 y4 y5 y0 hsz
      generalize hN : numsN n = N at *
      go_wp2
      go_loopw [3, 5, 27] (fun v _ i wr => ∃ k : Nat, k ≤ N.length ∧ i = .int .i64 k ∧ Hid (wr.ownsRow (w.heap.size + 1) 5 1 v ([n.k] ++ (N.take k).flatMap putNum).length (([n.k] ++ (N.take k).flatMap putNum).map (Value.int .u8))) ∧ Hid (v.ownBlock ≠ some gI) ∧ Hid (gI < wr.heap.size) ∧ Hid (∀ j (hj : j < N.length), wr.cell? ⟨gI, j, none⟩ = some (.int .i64 N[j])) ∧ Hid (Below (w.heap.size + 1) (w.alloc (.cells #[.int .i64 n.k, .int .i64 n.g, .int .i64 n.t, .int .i64 n.s, .slice a n.b.length c] 36)) wr)) (fun _ _ i _ => N.length - (intOf i).toNat)
      case atStart => exact ⟨0, Nat.zero_le _, rfl, by rw [List.take_zero, List.flatMap_nil, List.append_nil]; exact HOW3, (by show _ ≠ _; simp [Value.ownBlock]; omega), hlI, HCI, HBW3⟩
      case round =>
        obtain ⟨k, hk, rfl, HOr, HNr, HGr, HCr, HBr⟩ := hrel
        have HLr : Hid (([n.k] ++ (N.take k).flatMap putNum).length ≤ 41) := by
          have h9 : ((N.take k).flatMap putNum).length ≤ (N.take k).length * 5 := by
            generalize N.take k = l
            induction l with
            | nil => simp
            | cons x l ih => simp only [List.flatMap_cons, List.length_append, List.length_cons]; have := putNum_len x; omega
          have h10 : (N.take k).length ≤ 8 := by simp; omega
          show _ ≤ _
          rw [List.length_append]
          simp only [List.length_cons, List.length_nil]
          omega
        by_cases hlt : k < N.length
        · have hxc := HCr.out k hlt
          have HTK : Hid ([n.k] ++ (N.take (k + 1)).flatMap putNum = [n.k] ++ (N.take k).flatMap putNum ++ putNum N[k]) := by
            show _ = _
            rw [List.take_succ_eq_append_getElem hlt, List.flatMap_append, List.append_assoc]
            simp
          have hsw : w.heap.size + 1 ≤ wr.heap.size := by have := (HV.out wr HBr.out).lt; omega
          have j1 : (k : Int) < (N.length : Int) := by omega
          generalize N[k] = y at *
          generalize [n.k] ++ (N.take k).flatMap putNum = B5 at *
          go_wp2_with fail
          refine (implPutNum y wr).mono ?_
          rintro e u5 ⟨x5, rfl, hx5, hb5⟩
          have ho5 := ownsRow_below HOr.out hb5 (Nat.le_refl _)
          have HSR5 : Hid (Src Tryd.prog 1 45 x5 (putNum y).length ((putNum y).map (Value.int .u8)) u5) := src_ownN Tryd.underlying45 hx5 (fun u hu => by obtain ⟨_, _, rfl⟩ := List.mem_map.1 hu; rfl)
          have hB5 := HBr.out.trans (hb5.mono hsw)
          have hpl5 := putNum_len y
          have hsz5 : w.heap.size + 1 ≤ u5.heap.size := by have := hb5.size; omega
          have HG5 : Hid (gI < u5.heap.size) := by have h1 := HGr.out; have h2 := hb5.size; show _ < _; omega
          have HC5 : Hid (∀ j (hj : j < N.length), u5.cell? ⟨gI, j, none⟩ = some (.int .i64 N[j])) := fun j hj => (hb5.cell HGr.out).trans (HCr.out j hj)
          clear hx5 hb5 HOr HBr hsw hxc HCr HGr
          go_wp2_with (at_builtin; refine wpList_append_own_srcAt _ rfl (.tmp 31) (.tmp 33) 45 45 rfl (w.heap.size + 1) 5 i0 (.int .u8 0) 1 1 Tryd.underlying45 hi hz0 hz1 hz2 rfl _ _ _ rfl ho5 _ _ _ rfl HSR5.out (by have := HLr.out; unfold maxLen; omega) (by have := HLr.out; omega) hsz5 ?_)
          intro v6 w6 hn6 hg6 hw6
          have HB6 : Hid _ := hB5.grown hg6 hsz5 (fun q hq => (ho5.lt q hq).1)
          have HO6 : Hid (w6.ownsRow (w.heap.size + 1) 5 1 v6 ([n.k] ++ (N.take (k + 1)).flatMap putNum).length (([n.k] ++ (N.take (k + 1)).flatMap putNum).map (Value.int .u8))) := by
            show World.ownsRow _ _ _ _ _ _ _
            rw [HTK.out, List.length_append, List.map_append]
            exact hn6
          have HN6 : Hid (v6.ownBlock ≠ some gI) := by
            have h1 := HNr.out
            have h2 := HG5.out
            rcases hw6 with h | h
            · show _ ≠ _; rw [h]; exact h1
            · show _ ≠ _; rw [h]; intro h3; injection h3 with h3; omega
          have HG6 : Hid (gI < w6.heap.size) := by have h1 := HG5.out; have h2 := hg6.size; show _ < _; omega
          have HC6 : Hid (∀ j (hj : j < N.length), w6.cell? ⟨gI, j, none⟩ = some (.int .i64 N[j])) := fun j hj => hg6.cell (HC5.out j hj) (fun h => HNr.out h.symm)
          clear hn6 hg6 ho5 hB5 hsz5 HSR5 hpl5 HTK hw6 HC5 HG5 HNr
          go_wp2
          go_roundw
          case rel => exact ⟨k + 1, by omega, by go_num, HO6, HN6, HG6, HC6, HB6⟩
          case measure => simp [intOf]; omega
        · obtain rfl : k = N.length := by omega
          have hO := HOr.out
          have HBB : Hid (ndB n = [n.k] ++ N.flatMap putNum) := HB0
          rw [List.take_length, ← HBB.out] at hO
          have hpos : 0 < (ndB n).length := by rw [HBB.out, List.length_append]; simp; omega
          have hcv := conv_row HU.out hpos hO
          have hb := (HR.out wr HBr.out).2
          obtain ⟨q, qc, hqe, _, _⟩ := own_rd hO
          subst hqe
          have HFF : Hid (ndText n = baOf (ndB n)) := HF
          generalize (ndB n).length = LL at *
          clear hO HOr HBr HLr
          go_wp2
          go_ret
          exact ⟨by rw [HFF.out]; rfl, hb⟩
end Go.Proofs.YtaabcfgjmankgaaDoor
