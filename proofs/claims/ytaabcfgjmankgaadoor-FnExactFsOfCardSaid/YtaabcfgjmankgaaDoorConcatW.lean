/-
  Own text: slices.Grow of nil, slices.Concat of rows of bytes.
-/
import Derived.Test.YtaabcfgjmankgaaDoorRows
import Derived.Test.YtaabcfgjmankgaaDoorAppSrc
import Derived.Test.YtaabcfgjmankgaaDoorNumW
import Derived.Test.YtaabcfgjmankgaaDoorRowC
import Derived.Test.YtaabcfgjmankgaaDoorSNodeTW
import Derived.Lib.AppendZerosOnto
import Derived.Lib.SliceRun
import Derived.Lib.Walk
namespace Go.Proofs.YtaabcfgjmankgaaDoor
open Go.RowKit

set_option maxRecDepth 100000 in
set_option maxHeartbeats 4000000 in
theorem growW (n : Nat) (w : World) (h1 : 0 < n) (h2 : n ≤ 100000) :
    Calls Tryd.prog 64 #[.slice none 0 0, .int .i64 (n : Nat)] w fun e w' => ∃ v, e = .returned v ∧ w'.ownsRow w.heap.size 5 1 v 0 [] ∧ Below w.heap.size w w' := by
  obtain ⟨i0, hi, hz0, hz1, hz2⟩ := info_parts Tryd.infoU8
  have hold : (Builtin.firstCells i0.size 0 (.slice none 0 0)).run Tryd.prog w.drew = .ok ([] : List Value).toArray w.drew := run_firstCells_none w.drew i0.size 0 0 0
  have hrz : ∀ ty, (Builtin.append_ #[45, 3] ty #[.slice none 0 0, .int .i64 (n : Int)]).run Tryd.prog w =
      .ok (.slice (some ⟨w.heap.size, 0, none⟩) n (grownCap w n 0 5)) (w.drew.alloc (.cells (([] : List Value).toArray ++ Builtin.zeroCells (Value.int .u8 0).cells n ++ Builtin.zeroCells (Value.int .u8 0).cells (grownCap w n 0 5 - n)) 5)) := fun ty => by
    have h := Lib.run_append_grow_zeros (P := Tryd.prog) w 45 3 ty 5 i0 (.int .u8 0) .i64 .i64 Tryd.underlying45 Tryd.underlying3 hi hz0 none 0 0 [] hold n h1 (by omega) (by omega) (by omega) (by rw [hz2]; omega) (by rw [Nat.zero_add]; exact growslice_fits (by omega) (by rw [hz2]; omega))
    rw [Nat.zero_add] at h
    exact h
  have hGn : n ≤ grownCap w n 0 5 := grownCap_ge w _ _ _
  have hGm : grownCap w n 0 5 ≤ maxLen := grownCap_le_maxLen w n 0 5 (by unfold maxLen; omega)
  have HO : Hid ((w.drew.alloc (.cells (([] : List Value).toArray ++ Builtin.zeroCells (Value.int .u8 0).cells n ++ Builtin.zeroCells (Value.int .u8 0).cells (grownCap w n 0 5 - n)) 5)).ownsRow w.heap.size 5 1 (.slice (some ⟨w.heap.size, 0, none⟩) 0 (grownCap w n 0 5)) 0 []) := by
    refine ⟨rfl, .inr ⟨w.heap.size, _, _, rfl, Nat.le_refl _, heap_alloc_new w.drew _, Nat.zero_le _, hGm, ?_, ?_⟩⟩
    · simp only [Array.size_append, size_zeroCells, List.size_toArray, List.length_nil]
      simp [Value.cells]
      omega
    · simp
  have HB : Hid (Below w.heap.size w (w.drew.alloc (.cells (([] : List Value).toArray ++ Builtin.zeroCells (Value.int .u8 0).cells n ++ Builtin.zeroCells (Value.int .u8 0).cells (grownCap w n 0 5 - n)) 5))) := (Below.refl _ _).drew.alloc (Nat.le_refl _) _
  have hG63 : grownCap w n 0 5 ≤ 9223372036854775807 := by unfold maxLen at hGm; omega
  have h3 : (0 : Int) < (n : Int) := by omega
  generalize grownCap w n 0 5 = G at *
  generalize w.drew.alloc (.cells (([] : List Value).toArray ++ Builtin.zeroCells (Value.int .u8 0).cells n ++ Builtin.zeroCells (Value.int .u8 0).cells (G - n)) 5) = W at *
  clear hold hGm
  go_enter Tryd.func64, Tryd.ntmps64
  go_wp2_with (at_builtin; refine Lib.wpList_append_run _ rfl _ _ _ _ rfl _ _ rfl rfl _ _ (hrz _) ?_)
  all_goals (go_ret; exact ⟨_, rfl, HO.out, HB.out⟩)

theorem flat_take {ls : List (List Int)} {k : Nat} (h : k < ls.length) : (ls.take (k + 1)).flatten = (ls.take k).flatten ++ ls[k] := by
  rw [List.take_succ_eq_append_getElem h, List.flatten_append]
  simp only [List.flatten_cons, List.flatten_nil, List.append_nil]
theorem flat_le {ls : List (List Int)} (k : Nat) : (ls.take k).flatten.length ≤ ls.flatten.length := by
  have h : ls.flatten = (ls.take k).flatten ++ (ls.drop k).flatten := by rw [← List.flatten_append, List.take_append_drop]
  rw [h, List.length_append]; omega
theorem src_rd8 {w : World} {a : Option Addr} {l : List Int} (cap : Nat) (h : Rd .u8 w a l) : Src Tryd.prog 1 45 (.slice a l.length cap) l.length (l.map (Value.int .u8)) w := by
  rcases h with rfl | ⟨b, off, rfl, h1, h2⟩
  · cases a with
    | none => exact Src.ofNil w Tryd.underlying45 cap
    | some x => exact Src.ofSlice w Tryd.underlying45 x 0 cap [] rfl (fun j u h => by simp at h) (fun u hu => by simp at hu)
  · refine Src.ofSlice w Tryd.underlying45 ⟨b, off, none⟩ l.length cap _ (by simp) (fun j u hj => ?_) (fun u hu => by obtain ⟨_, _, rfl⟩ := List.mem_map.1 hu; rfl)
    rw [List.getElem?_map] at hj
    have hjl : j < l.length := by
      rcases Nat.lt_or_ge j l.length with h | h
      · exact h
      · rw [List.getElem?_eq_none h] at hj; simp at hj
    rw [Go.WideShapes.add_plain, h2 j hjl]
    rw [List.getElem?_eq_getElem hjl] at hj
    simp [List.getD, hjl] at hj ⊢
    exact hj

set_option maxRecDepth 20000 in
set_option maxHeartbeats 4000000 in
theorem concatW (g c : Nat) (ls : List (List Int)) (w : World) (hl : ls.length ≤ 1000) (ht : ls.flatten.length ≤ 100000) (hp : 0 < ls.flatten.length)
    (hc : ∀ k (h : k < ls.length), ∃ a cc, w.cell? ⟨g, k, none⟩ = some (.slice a ls[k].length cc) ∧ g < w.heap.size ∧ Rd .u8 w a ls[k]) :
    Calls Tryd.prog 43 #[.slice (some ⟨g, 0, none⟩) ls.length c] w fun e w' => ∃ v, e = .returned v ∧ w'.ownsRow w.heap.size 5 1 v ls.flatten.length (ls.flatten.map (Value.int .u8)) ∧ Below w.heap.size w w' := by
  obtain ⟨i0, hi, hz0, hz1, hz2⟩ := info_parts Tryd.infoU8
  have HC : Hid (∀ k (h : k < ls.length), ∃ a cc, w.cell? ⟨g, k, none⟩ = some (.slice a ls[k].length cc) ∧ g < w.heap.size ∧ Rd .u8 w a ls[k]) := hc
  have HFL : Hid (∀ k, (ls.take k).flatten.length ≤ ls.flatten.length) := fun k => flat_le k
  clear hc
  go_enter Tryd.func43, Tryd.ntmps43
  go_wp2
  go_loopw [3, 5, 11] (fun s _ i wr => ∃ k t : Nat, k ≤ ls.length ∧ Hid ((ls.take k).flatten.length = t) ∧ s = .int .i64 (t : Nat) ∧ i = .int .i64 (k : Nat) ∧ wr = w) (fun _ _ i _ => ls.length - (intOf i).toNat)
  case atStart => exact ⟨0, 0, Nat.zero_le _, rfl, rfl, rfl, rfl⟩
  case round =>
    obtain ⟨k, t, hk, HT, rfl, rfl, hwr⟩ := hrel
    subst wr
    have htl : t ≤ ls.flatten.length := by rw [← HT.out]; exact HFL.out k
    by_cases hlt : k < ls.length
    · obtain ⟨a, cc, hcell, _, _⟩ := HC.out k hlt
      have HT2 : Hid ((ls.take (k + 1)).flatten.length = t + ls[k].length) := by show _ = _; rw [flat_take hlt, List.length_append, HT.out]
      have htl2 : t + ls[k].length ≤ ls.flatten.length := by rw [← HT2.out]; exact HFL.out (k + 1)
      generalize ls[k].length = m at *
      have hnn : ¬ ((t : Int) + (m : Int) < 0) := by omega
      go_wp2
      go_roundw
      case rel => exact ⟨k + 1, t + m, by omega, HT2, by go_num, by go_num, trivial⟩
      case measure => simp [intOf]; omega
    · obtain rfl : k = ls.length := by omega
      have HTT : Hid (ls.flatten.length = t) := by have := HT.out; rwa [List.take_length] at this
      have hpt : 0 < t := by rw [← HTT.out]; exact hp
      have htt : t ≤ 100000 := by omega
      go_wp2_with fail
      refine (growW t _ hpt htt).mono ?_
      rintro e w1 ⟨v1, rfl, ho1, hb1⟩
      have HO1 : Hid (w1.ownsRow w.heap.size 5 1 v1 (ls.take 0).flatten.length ((ls.take 0).flatten.map (Value.int .u8))) := ho1
      clear ho1
      go_wp2
      go_loopw [6, 8, 27] (fun v _ i wr => ∃ k : Nat, k ≤ ls.length ∧ i = .int .i64 (k : Nat) ∧ Hid (wr.ownsRow w.heap.size 5 1 v (ls.take k).flatten.length ((ls.take k).flatten.map (Value.int .u8))) ∧ Below w.heap.size w wr) (fun _ _ i _ => ls.length - (intOf i).toNat)
      case atStart => exact ⟨0, Nat.zero_le _, rfl, HO1, hb1⟩
      case round =>
        clear HO1 hb1
        obtain ⟨k, hk, rfl, HO, hbel⟩ := hrel
        by_cases hlt : k < ls.length
        · obtain ⟨a, cc, hcell, hg, hrd⟩ := HC.out k hlt
          have hcr := (hbel.cell (p := ⟨g, k, none⟩) hg).trans hcell
          have HTK : Hid ((ls.take (k + 1)).flatten = (ls.take k).flatten ++ ls[k]) := flat_take hlt
          have htl2 : (ls.take k).flatten.length + ls[k].length ≤ ls.flatten.length := by rw [← List.length_append, ← HTK.out]; exact HFL.out (k + 1)
          have HS : Hid (Src Tryd.prog 1 45 (.slice a ls[k].length cc) ls[k].length (ls[k].map (Value.int .u8)) wr) := src_rd8 cc (hrd.below hbel (Nat.le_refl _))
          have ho := HO.out
          have HPUT : Hid (∀ (W : World) (v : Value), W.ownsRow w.heap.size 5 1 v ((ls.take k).flatten.length + ls[k].length) ((ls.take k).flatten.map (Value.int .u8) ++ ls[k].map (Value.int .u8)) → W.ownsRow w.heap.size 5 1 v (ls.take (k + 1)).flatten.length ((ls.take (k + 1)).flatten.map (Value.int .u8))) := by
            intro W v h
            rw [HTK.out, List.length_append, List.map_append]; exact h
          clear hcell hrd HO
          generalize (ls.take k).flatten.map (Value.int .u8) = ps at *
          generalize (ls.take k).flatten.length = pl at *
          generalize ls[k].map (Value.int .u8) = xs at *
          generalize ls[k].length = m at *
          go_wp2_with (at_builtin; refine wpList_append_own_src _ rfl (.tmp 31) (.tmp 32) 45 45 rfl w.heap.size 5 i0 (.int .u8 0) 1 1 Tryd.underlying45 hi hz0 hz1 hz2 rfl _ _ _ rfl ho _ _ _ rfl HS.out (by unfold maxLen; omega) (by omega) hbel.size ?_)
          intro v4 w4 ho4 hg4
          have HO4 : Hid (w4.ownsRow w.heap.size 5 1 v4 (ls.take (k + 1)).flatten.length ((ls.take (k + 1)).flatten.map (Value.int .u8))) := HPUT.out w4 v4 ho4
          have hb4 : Below w.heap.size w w4 := hbel.grown hg4 hbel.size (fun j hj => (ho.lt j hj).1)
          clear ho ho4 hg4 HS HPUT hcr
          go_wp2
          go_roundw
          case rel => exact ⟨k + 1, by omega, by go_num, HO4, hb4⟩
          case measure => simp [intOf]; omega
        · obtain rfl : k = ls.length := by omega
          have hO := HO.out
          rw [List.take_length] at hO
          clear HO
          go_wp2
          go_ret
          exact ⟨_, rfl, hO, hbel⟩
end Go.Proofs.YtaabcfgjmankgaaDoor
