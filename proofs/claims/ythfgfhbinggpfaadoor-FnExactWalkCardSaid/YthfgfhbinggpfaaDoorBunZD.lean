/-
  Own texts, several together.
-/
import Derived.Test.YthfgfhbinggpfaaDoorRows
import Derived.Test.YthfgfhbinggpfaaDoorBunZA
import Derived.Test.YthfgfhbinggpfaaDoorBunZC
import Derived.WalkKit
import Derived.Deep.RegionHeld3
/-
  Own text: whether a number lies between two.
-/
namespace Go.Proofs.YthfgfhbinggpfaaDoor
open Go.RowKit

theorem inW (x lo hi : Int) (w : World) :
    Calls Tryd.prog 40 #[.int .i64 x, .int .i64 lo, .int .i64 hi] w fun e w' => e = .returned (.bool (decide (lo ≤ x) && decide (x ≤ hi))) ∧ w' = w := by
  by_cases h1 : lo ≤ x <;> by_cases h2 : x ≤ hi
  all_goals
    go_enter Tryd.func40, Tryd.ntmps40
    go_wp2
    go_ret
    exact ⟨by simp [h1, h2], rfl⟩

end Go.Proofs.YthfgfhbinggpfaaDoor

/-
  Own text: how often each block is had, as the other program tells it.
-/
namespace Go.Proofs.YthfgfhbinggpfaaDoor
open Go.RowKit

def lesser (x y : Int) : Int := if y ≤ x then y else x
theorem minW (x y : Int) (w : World) :
    Calls Tryd.prog 67 #[.int .i64 x, .int .i64 y] w fun e w' => e = .returned (.int .i64 (lesser x y)) ∧ w' = w := by
  by_cases h : x < y
  · have HL : Hid (lesser x y = x) := if_neg (by omega)
    go_enter Tryd.func67, Tryd.ntmps67
    go_wp2
    go_ret
    exact ⟨by rw [HL.out]; rfl, rfl⟩
  · have HL : Hid (lesser x y = y) := if_pos (by omega)
    go_enter Tryd.func67, Tryd.ntmps67
    go_wp2
    go_ret
    exact ⟨by rw [HL.out]; rfl, rfl⟩
theorem longW (s : Int) (k : Nat) (w : World) (h0 : 0 ≤ s) (h1 : s ≤ 80) (hk : k ≤ 100) :
    Calls Tryd.prog 43 #[.int .i64 s, .int .i64 (k : Nat)] w fun e w' => e = .returned (.int .i64 (longB s k)) ∧ w' = w := by
  have HL : Hid (longB s k = lesser 16 (s - (k : Int) * 16)) := by show _ = _; unfold longB lesser; rw [Int.mul_comm]
  go_enter Tryd.func43, Tryd.ntmps43
  go_wp2_with fail
  refine (minW _ _ _).mono ?_
  rintro e w1 ⟨rfl, hw⟩
  subst w1
  go_wp2
  go_ret
  exact ⟨by rw [HL.out]; rfl, rfl⟩

theorem Tryd.infoIntX : (Tryd.prog.info? 3).map (fun i => (i.zero, i.size, i.bytes)) = some (some (.int .i64 0), 1, 8) := by kernel_rfl
theorem made_ints (n : Nat) : (madeCells #[Value.int .i64 0] n).toList = (List.replicate n (0 : Int)).map (Value.int .i64) := by
  apply List.ext_getElem?
  intro k
  by_cases hk : k < n
  · simp [madeCells, hk, Nat.mod_one]
  · rw [List.getElem?_eq_none (by rw [Array.length_toList, size_madeCells]; omega), List.getElem?_eq_none (by simp; omega)]

/-- What is known while blocks are counted: the branch's variable, the row of counts. -/
structure UseInv (w wr : World) (a b : Option Addr) (ca cb : Nat) (F : FsD) (L : List Int) : Prop where
  var : Var wr w.heap.size #[.slice a F.ns.length ca, .slice b F.ds.length cb] 30
  row : wr.ownsRow (w.heap.size + 1) 3 1 (.slice (some ⟨w.heap.size + 1, 0, none⟩) (F.ds.length + 1) (F.ds.length + 1)) (F.ds.length + 1) ((usedL F.ds.length L).map (Value.int .i64))
  bel : Below w.heap.size w wr
theorem UseInv.put {w wr : World} {a b : Option Addr} {ca cb : Nat} {F : FsD} {L L' : List Int} (h : UseInv w wr a b ca cb F L) (j : Nat) (x : Int) (he : (usedL F.ds.length L).set j x = usedL F.ds.length L') :
    UseInv w (wr.setCell ⟨w.heap.size + 1, j, none⟩ (.int .i64 x)) a b ca cb F L' := by
  have hO : Only (fun k => k = w.heap.size + 1) wr (wr.setCell ⟨w.heap.size + 1, j, none⟩ (.int .i64 x)) := Only.setCell (S := fun k => k = w.heap.size + 1) (Only.refl _ _) (p := ⟨w.heap.size + 1, j, none⟩) rfl _
  refine ⟨h.var.only hO (by omega), ?_, h.bel.trans (hO.below h.bel.size (fun k e => by omega))⟩
  have hst := (h.row.stored j (.int .i64 x)).1
  rw [← List.map_set, he] at hst
  exact hst
theorem UseInv.drew {w wr : World} {a b : Option Addr} {ca cb : Nat} {F : FsD} {L : List Int} (h : UseInv w wr a b ca cb F L) : UseInv w wr.drew a b ca cb F L := ⟨h.var, h.row, h.bel.drew⟩

set_option maxRecDepth 20000 in
set_option maxHeartbeats 4000000 in
theorem usedW (v : Value) (F : FsD) (w : World) (h1 : F.ns.length ≤ 10) (h2 : F.ds.length ≤ 36) (h3 : ∀ n ∈ F.ns, n.b.length ≤ 5) (hr : RdFs w v F) :
    Calls Tryd.prog 42 #[v] w fun e w' => ∃ u, e = .returned u ∧ w'.ownsRow w.heap.size 3 1 u (F.ds.length + 1) ((usedL F.ds.length (allB F.ns)).map (Value.int .i64)) ∧ Below w.heap.size w w' := by
  obtain ⟨i0, hi, hz0, hz1, hz2⟩ := info_parts Tryd.infoIntX
  obtain ⟨a, ca, b, cb, rfl, _, r1, r2⟩ := hr
  clear r2
  have HCS : Hid (∀ k (hk : k < F.ns.length), ∃ g off u, a = some ⟨g, off, none⟩ ∧ g < w.heap.size ∧ RdU w u F.ns[k].b ∧ NodeAt w g (off + k * 5) F.ns[k] u) := fun k hk => r1.at k hk
  have HB5 : Hid (∀ k (hk : k < F.ns.length), F.ns[k].b.length ≤ 5) := fun k hk => h3 _ (List.getElem_mem hk)
  have HIN : Hid (∀ (x hi : Int) Q W, (decide (0 ≤ x) && decide (x ≤ hi)) = Q → Calls Tryd.prog 40 #[.int .i64 x, .int .i64 0, .int .i64 hi] W fun e w' => e = .returned (.bool Q) ∧ w' = W) := by
    rintro x hi Q W rfl
    exact inW x 0 hi W
  have hX : Var (w.alloc (.cells #[.slice a F.ns.length ca, .slice b F.ds.length cb] 30)) w.heap.size #[.slice a F.ns.length ca, .slice b F.ds.length cb] 30 := Var.made _ _ _
  have hb0 : Below w.heap.size w (w.alloc (.cells #[.slice a F.ns.length ca, .slice b F.ds.length cb] 30)) := below1 _ _
  have hs0 : (w.alloc (.cells #[.slice a F.ns.length ca, .slice b F.ds.length cb] 30)).heap.size = w.heap.size + 1 := by simp
  have x1 := hX.cell 1
  simp at x1
  clear r1 h3
  go_enter Tryd.func42, Tryd.ntmps42
  go_wp2_with (at_make; refine wpList_make_full _ rfl _ _ 40 rfl (w.heap.size + 1) 3 i0 (.int .i64 0) 1 Tryd.underlying40 hi hz0 hz1 _ _ _ _ (F.ds.length + 1) rfl rfl rfl rfl (by rw [hz2]; omega) (by unfold maxLen; omega) (by rw [hs0]; exact Nat.le_refl _) ?_)
  intro w1 hown hgrow
  have HU0 : UseInv w w1 a b ca cb F (allB (F.ns.take 0)) := by
    refine ⟨?_, ?_, hb0.grown hgrow (by rw [hs0]; omega) (fun k h => by simp at h)⟩
    · exact hX.only (Only.of_grown hgrow) (fun h => by simp at h)
    · rw [List.take_zero, show allB [] = [] from rfl, usedL_nil, ← made_ints]
      simpa using hown
  clear hown hgrow hX x1 hb0
  go_wp2
  go_loopw [4, 5, 6] (fun i _ _ wr => ∃ k : Nat, k ≤ F.ns.length ∧ i = .int .i64 k ∧ UseInv w wr a b ca cb F (allB (F.ns.take k))) (fun i _ _ _ => F.ns.length - (intOf i).toNat)
  case atStart => exact ⟨0, Nat.zero_le _, rfl, HU0⟩
  case round =>
    clear HU0
    obtain ⟨k, hk, rfl, HU⟩ := hrel
    have x0 := HU.var.cell 0
    simp at x0
    by_cases hlt : k < F.ns.length
    · have HTK : Hid (allB (F.ns.take (k + 1)) = allB (F.ns.take k) ++ F.ns[k].b) := allB_take hlt
      have hb5 := HB5.out k hlt
      obtain ⟨g, off, u, rfl, hg, hru, _, _, _, _, c4⟩ := HCS.out k hlt
      obtain ⟨ua, uc, rfl, _, _, hru⟩ := hru
      have HBS : Hid (∀ j (hj : j < F.ns[k].b.length), ∃ g2 off2, ua = some ⟨g2, off2, none⟩ ∧ g2 < w.heap.size ∧ w.cell? ⟨g2, off2 + j, none⟩ = some (.int .i64 F.ns[k].b[j])) := by
        intro j hj
        obtain ⟨g2, off2, rfl, h1, hc⟩ := hru.cellI j hj
        exact ⟨g2, off2, rfl, h1, hc⟩
      have HU1 : UseInv w wr (some ⟨g, off, none⟩) b ca cb F (allB (F.ns.take k) ++ F.ns[k].b.take 0) := by rw [List.take_zero, List.append_nil]; exact HU
      clear hru HU HCS
      have HLB : Hid (∀ j, (allB (F.ns.take k) ++ F.ns[k].b.take j).length ≤ 1000) := by
        intro j
        have h5 : ∀ l : List NodeD, (∀ n ∈ l, n.b.length ≤ 5) → (allB l).length ≤ 5 * l.length := by
          intro l
          induction l with
          | nil => intro _; simp [allB]
          | cons n l ih =>
            intro h
            have h1 := h n (by simp)
            have h2 := ih fun m hm => h m (by simp [hm])
            simp only [allB, List.flatMap_cons, List.length_append, List.length_cons] at h2 ⊢
            omega
        have h6 := h5 (F.ns.take k) (fun n hn => by
          obtain ⟨i, hi, rfl⟩ := List.getElem_of_mem hn
          rw [List.getElem_take]
          exact HB5.out i (by simp at hi; omega))
        rw [List.length_append, List.length_take]
        simp at h6
        omega
      generalize hB : allB (F.ns.take k) = B at *
      generalize hbb : F.ns[k].b = bb at *
      clear hB hbb
      go_wp2
      go_loopw [5, 6] (fun i _ wr => ∃ j : Nat, j ≤ bb.length ∧ i = .int .i64 j ∧ UseInv w wr (some ⟨g, off, none⟩) b ca cb F (B ++ bb.take j)) (fun i _ _ => bb.length - (intOf i).toNat)
      case atStart => exact ⟨0, Nat.zero_le _, rfl, HU1⟩
      case round =>
        clear HU1 x0
        obtain ⟨j, hj, rfl, HU⟩ := hrel
        have x0 := HU.var.cell 0
        have x1 := HU.var.cell 1
        simp at x0 x1
        have d4 := (HU.bel.cell (p := ⟨g, off + k * 5 + 4, none⟩) hg).trans c4
        have i0 : (0 : Int) ≤ (k : Int) := by omega
        have i1 : (k : Int) < (F.ns.length : Int) := by omega
        by_cases hjt : j < bb.length
        · obtain ⟨g2, off2, rfl, hg2, hcb⟩ := HBS.out j hjt
          have e4 := (HU.bel.cell (p := ⟨g2, off2 + j, none⟩) hg2).trans hcb
          have HBT : Hid (B ++ bb.take (j + 1) = (B ++ bb.take j) ++ [bb[j]]) := by show _ = _; rw [List.take_succ_eq_append_getElem hjt, List.append_assoc]
          clear hcb
          generalize bb[j] = x at *
          by_cases hin : 0 ≤ x ∧ x < (F.ds.length : Int)
          · obtain ⟨hx0, hx1⟩ := hin
            have HI1 := HIN.out x ((F.ds.length : Int) - 1) true wr (by rw [decide_eq_true hx0, decide_eq_true (by omega)]; rfl)
            have HI2 : Hid (Calls Tryd.prog 40 #[.int .i64 x, .int .i64 0, .int .i64 ((F.ds.length : Int) - 1)] wr fun e w' => e = .returned (.bool true) ∧ w' = wr) := HI1
            have hset := usedL_in (m := F.ds.length) (B ++ bb.take j) hx0 hx1
            obtain ⟨m, rfl⟩ := Int.eq_ofNat_of_zero_le hx0
            rw [Int.toNat_natCast] at hset
            have hm : m < F.ds.length := by omega
            have hcm : wr.cell? ⟨w.heap.size + 1, m, none⟩ = some (.int .i64 ((B ++ bb.take j).count (m : Int) : Nat)) := by
              rw [HU.row.cellAt m (by omega), List.getElem?_map, usedL_at _ hm]; rfl
            have hfm := HU.row.frozenAt m
            have HUN := HU.put m _ hset
            rw [← HBT.out] at HUN
            have hcl := count_le (B ++ bb.take j) (m : Int)
            have hl9 : (B ++ bb.take j).length ≤ 1000 := HLB.out j
            generalize (B ++ bb.take j).count (m : Int) = q at *
            have HU2 : Hid (UseInv w (wr.setCell ⟨w.heap.size + 1, m, none⟩ (.int .i64 ((q : Nat) + 1))) (some ⟨g, off, none⟩) b ca cb F (B ++ bb.take (j + 1))) := HUN
            have i2 : (m : Int) < (F.ds.length : Int) + 1 := by omega
            have hq9 : q ≤ 1000 := by omega
            clear HUN HI1 HU hset hcl
            go_wp2_with fail
            refine HI2.out.mono ?_
            rintro e w1 ⟨rfl, hw1⟩
            subst w1
            clear HI2
            go_wp2
            go_roundw
            case rel => exact ⟨j + 1, by omega, by go_num, HU2.out⟩
            case measure => simp [intOf]; omega
          · have HI1 := HIN.out x ((F.ds.length : Int) - 1) false wr (by
              rw [Bool.and_eq_false_iff]
              by_cases h9 : 0 ≤ x
              · right; exact decide_eq_false (by omega)
              · left; exact decide_eq_false h9)
            have HI2 : Hid (Calls Tryd.prog 40 #[.int .i64 x, .int .i64 0, .int .i64 ((F.ds.length : Int) - 1)] wr fun e w' => e = .returned (.bool false) ∧ w' = wr) := HI1
            have hset := usedL_out (m := F.ds.length) (B ++ bb.take j) hin
            have hcm : wr.cell? ⟨w.heap.size + 1, F.ds.length, none⟩ = some (.int .i64 ((B ++ bb.take j).countP (outP F.ds.length) : Nat)) := by
              rw [HU.row.cellAt F.ds.length (by omega), List.getElem?_map, usedL_end]; rfl
            have hfm := HU.row.frozenAt F.ds.length
            have HUN := HU.put F.ds.length _ hset
            rw [← HBT.out] at HUN
            have hcl : (B ++ bb.take j).countP (outP F.ds.length) ≤ (B ++ bb.take j).length := List.countP_le_length
            have hl9 : (B ++ bb.take j).length ≤ 1000 := HLB.out j
            generalize (B ++ bb.take j).countP (outP F.ds.length) = q at *
            have HU2 : Hid (UseInv w (wr.setCell ⟨w.heap.size + 1, F.ds.length, none⟩ (.int .i64 ((q : Nat) + 1))) (some ⟨g, off, none⟩) b ca cb F (B ++ bb.take (j + 1))) := HUN
            have i2 : (F.ds.length : Int) < (F.ds.length : Int) + 1 := by omega
            have hq9 : q ≤ 1000 := by omega
            clear HUN HI1 HU hset hcl hin
            go_wp2_with fail
            refine HI2.out.mono ?_
            rintro e w1 ⟨rfl, hw1⟩
            subst w1
            clear HI2
            go_wp2_with fail
            go_region
            go_wp2
            go_roundw
            case rel =>
              try rw [show wrap64 ((q : Int) + 1) = (q : Int) + 1 by unfold wrap64; omega]
              exact ⟨j + 1, by omega, by go_num, HU2.out.drew⟩
            case measure => simp [intOf]; omega
        · obtain rfl : j = bb.length := by omega
          have HU2 : Hid (UseInv w wr (some ⟨g, off, none⟩) b ca cb F (allB (F.ns.take (k + 1)))) := by show UseInv _ _ _ _ _ _ _ _; rw [HTK.out]; rw [List.take_length] at HU; exact HU
          clear HU
          go_wp2
          go_roundw
          case rel => exact ⟨k + 1, by omega, by go_num, HU2.out⟩
          case measure => simp [intOf]; omega
    · obtain rfl : k = F.ns.length := by omega
      have hrow := HU.row
      have hbel := HU.bel
      rw [List.take_length] at hrow
      clear HU
      go_wp2
      go_ret
      exact ⟨_, rfl, ownsRow_base hrow (by omega), hbel⟩
end Go.Proofs.YthfgfhbinggpfaaDoor

/-
  Own text: what the copies of a branch and the changes of a node want besides: sources of append, cuts, a copy of texts.
-/
namespace Go.Proofs.YthfgfhbinggpfaaDoor
open Go.RowKit

theorem Tryd.infoTxtD : (Tryd.prog.info? 9).map (fun i => (i.zero, i.size, i.bytes)) = some (some (.string ⟨#[]⟩), 1, 16) := by kernel_rfl
theorem ownSliceD {w : World} {base : Nat} {e : TypeId} {size : Nat} {v : Value} {n : Nat} {xs : List Value} (h : w.ownsRow base e size v n xs) : ∃ a c, v = .slice a n c := by
  rcases h.2 with ⟨rfl, h0⟩ | ⟨g, cap, cur, rfl, _⟩
  · exact ⟨none, 0, by rw [h0]⟩
  · exact ⟨_, _, rfl⟩
theorem srcOneD {P : Program} {t e e' : TypeId} (ht : P.underlying t = some (.slice e')) (W : World) (u : Value) (h1 : u.oneCell' = true) : Src P 1 t (.slice (some ⟨W.heap.size, 0, none⟩) 1 1) 1 [u] (W.alloc (.cells #[u] e)) := by
  refine Src.ofSlice _ ht ⟨W.heap.size, 0, none⟩ 1 1 [u] rfl ?_ (fun x hx => by simp at hx; subst hx; exact h1)
  intro j x hj
  obtain ⟨hj1, rfl⟩ := List.getElem?_eq_some_iff.1 hj
  simp at hj1
  subst hj1
  rw [Go.WideShapes.add_plain]
  exact (Var.made W #[u] e).cell 0
theorem srcIntD {w : World} {a : Option Addr} {l : List Int} (cap : Nat) (h : Rd .i64 w a l) : Src Tryd.prog 1 40 (.slice a l.length cap) l.length (l.map (Value.int .i64)) w := by
  rcases h with rfl | ⟨b, off, rfl, h1, h2⟩
  · cases a with
    | none => exact Src.ofNil w Tryd.underlying40 cap
    | some x => exact Src.ofSlice w Tryd.underlying40 x 0 cap [] rfl (fun j u h => by simp at h) (fun u hu => by simp at hu)
  · refine Src.ofSlice w Tryd.underlying40 ⟨b, off, none⟩ l.length cap _ (by simp) (fun j u hj => ?_) (fun u hu => by obtain ⟨_, _, rfl⟩ := List.mem_map.1 hu; rfl)
    rw [List.getElem?_map] at hj
    have hjl : j < l.length := by
      rcases Nat.lt_or_ge j l.length with h | h
      · exact h
      · rw [List.getElem?_eq_none h] at hj; simp at hj
    rw [Go.WideShapes.add_plain, h2 j hjl]
    rw [List.getElem?_eq_getElem hjl] at hj
    simp [List.getD, hjl] at hj ⊢
    exact hj
theorem srcTxtD {w : World} {a : Option Addr} {l : List ByteArray} (cap : Nat) (h : RdS w a l) : Src Tryd.prog 1 23 (.slice a l.length cap) l.length (l.map Value.string) w := by
  rcases h with rfl | ⟨b, off, rfl, hlt, hc⟩
  · cases a with
    | none => exact Src.ofNil w Tryd.underlying23 cap
    | some x => exact Src.ofSlice w Tryd.underlying23 x 0 cap [] rfl (fun j u h => by simp at h) (fun u hu => by simp at hu)
  · refine Src.ofSlice w Tryd.underlying23 ⟨b, off, none⟩ l.length cap _ (by simp) ?_ (fun u hu => by obtain ⟨_, _, rfl⟩ := List.mem_map.1 hu; rfl)
    intro j u hj
    rw [List.getElem?_map] at hj
    obtain ⟨y, hy, rfl⟩ := Option.map_eq_some_iff.1 hj
    obtain ⟨hj', rfl⟩ := List.getElem?_eq_some_iff.1 hy
    rw [Go.WideShapes.add_plain]
    exact hc j hj'

set_option maxRecDepth 20000 in
set_option maxHeartbeats 400000 in
theorem copyTD (a : Option Addr) (cap : Nat) (l : List ByteArray) (w : World) (hl : l.length ≤ 4194305) (hr : RdS w a l) :
    Calls Tryd.prog 57 #[.slice a l.length cap] w fun e w' => ∃ v, e = .returned v ∧ w'.ownsRow w.heap.size 9 1 v l.length (l.map Value.string) ∧ Below w.heap.size w w' := by
  obtain ⟨i0, hi, hz0, hz1, hz2⟩ := info_parts Tryd.infoTxtD
  have ho0 : (w.alloc (.cells #[] 9)).ownsRow w.heap.size 9 1 (.slice (some ⟨w.heap.size, 0, none⟩) 0 0) 0 [] := World.ownsRow_made w #[] 0 (Nat.le_refl _) (Nat.zero_le _) rfl
  have hb0 : Below w.heap.size w (w.alloc (.cells #[] 9)) := (Below.refl _ _).alloc (Nat.le_refl _) _
  have HR : Hid (RdS (w.alloc (.cells #[] 9)) a l) := hr.below hb0 (Nat.le_refl _)
  clear hr
  go_enter Tryd.func57, Tryd.ntmps57
  go_wp2_with (at_builtin; refine wpList_append_own_src _ rfl _ _ 23 23 rfl w.heap.size 9 i0 (.string ⟨#[]⟩) 1 16 Tryd.underlying23 hi hz0 hz1 hz2 rfl _ _ _ rfl ho0 _ l.length (l.map Value.string) rfl (srcTxtD cap HR.out) (by unfold maxLen; omega) (by omega) hb0.size ?_)
  intro v' w2 ho2 hg2
  have hb2 : Below w.heap.size w w2 := hb0.grown hg2 hb0.size (fun k hk => (ho0.lt k hk).1)
  clear hg2
  go_wp2
  go_ret
  exact ⟨_, rfl, by simpa using ho2, hb2⟩
end Go.Proofs.YthfgfhbinggpfaaDoor

/-
  Own text: operations of a region that draws, taken or passed over one by one.
-/
namespace Go.Proofs.YthfgfhbinggpfaaDoor
open Go.RowKit

section
variable {P : Program} {md : Region.Mode} {ops : Array Oper} {Q : Exit → Act → World → Prop} {S : World → Prop} {i d : Nat} {oi : Oper} {fuel : Nat} {listed : Array Bool} {a : Act} {w : World}
/-- An operation that yields v in whatever world, taken first. -/
theorem held_take {v : Value} (hi : ops[i]? = some oi) (hd : oi.dst = some d)
    (hs : Region.noSelect ops = true) (hf : Region.free md ops listed i = true) (hr : (Region.ready md ops listed).contains i = true)
    (hw : Region.wanted oi (yielded ops a.tmps) = true) (hv : ∀ w, S w → (execOp a.eval oi).run P w = .ok (.value v) w) (hS : S w)
    (h : wpAnyH P md ops (NoPanic Q) S fuel (listed.setIfInBounds i true) (a.put (some d) v) w) : wpAnyH P md ops (NoPanic Q) S (fuel + 1) listed a w :=
  wpAnyH_take hi hs hf hr (fun _ _ _ h => h.elim) (.inl ⟨hw, hv⟩) hS (by rw [hd]; exact h)
/-- An operation whose guard says no is passed over. -/
theorem held_skip (hi : ops[i]? = some oi) (hd : oi.dst = some d)
    (hs : Region.noSelect ops = true) (hf : Region.free md ops listed i = true) (hr : (Region.ready md ops listed).contains i = true)
    (hn : Region.wanted oi (yielded ops a.tmps) = false) (hS : S w)
    (h : wpAnyH P md ops (NoPanic Q) S fuel (listed.setIfInBounds i true) (a.put (some d) undef) w) : wpAnyH P md ops (NoPanic Q) S (fuel + 1) listed a w :=
  wpAnyH_take hi hs hf hr (fun _ _ _ h => h.elim) (.inr ⟨hn, rfl⟩) hS (by rw [hd]; exact h)
end

end Go.Proofs.YthfgfhbinggpfaaDoor
