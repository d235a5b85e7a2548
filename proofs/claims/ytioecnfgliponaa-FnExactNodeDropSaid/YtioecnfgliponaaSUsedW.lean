/-
  Own text: how often each block is had, as the other program tells it.
-/
import Derived.Test.YtioecnfgliponaaFsL
import Derived.Test.YtioecnfgliponaaInW
namespace Go.Proofs.Ytioecnfgliponaa
open Go.RowKit

def lesser (x y : Int) : Int := if y ≤ x then y else x
theorem minW (x y : Int) (w : World) :
    Calls Try.prog 56 #[.int .i64 x, .int .i64 y] w fun e w' => e = .returned (.int .i64 (lesser x y)) ∧ w' = w := by
  by_cases h : x < y
  · have HL : Hid (lesser x y = x) := if_neg (by omega)
    go_enter Try.func56, Try.ntmps56
    go_wp2
    go_ret
    exact ⟨by rw [HL.out]; rfl, rfl⟩
  · have HL : Hid (lesser x y = y) := if_pos (by omega)
    go_enter Try.func56, Try.ntmps56
    go_wp2
    go_ret
    exact ⟨by rw [HL.out]; rfl, rfl⟩
theorem longW (s : Int) (k : Nat) (w : World) (h0 : 0 ≤ s) (h1 : s ≤ 80) (hk : k ≤ 100) :
    Calls Try.prog 33 #[.int .i64 s, .int .i64 (k : Nat)] w fun e w' => e = .returned (.int .i64 (longB s k)) ∧ w' = w := by
  have HL : Hid (longB s k = lesser 16 (s - (k : Int) * 16)) := by show _ = _; unfold longB lesser; rw [Int.mul_comm]
  go_enter Try.func33, Try.ntmps33
  go_wp2_with fail
  refine (minW _ _ _).mono ?_
  rintro e w1 ⟨rfl, hw⟩
  subst w1
  go_wp2
  go_ret
  exact ⟨by rw [HL.out]; rfl, rfl⟩

theorem Try.infoIntX : (Try.prog.info? 3).map (fun i => (i.zero, i.size, i.bytes)) = some (some (.int .i64 0), 1, 8) := by kernel_rfl
theorem made_ints (n : Nat) : (madeCells #[Value.int .i64 0] n).toList = (List.replicate n (0 : Int)).map (Value.int .i64) := by
  apply List.ext_getElem?
  intro k
  by_cases hk : k < n
  · simp [madeCells, hk, Nat.mod_one]
  · rw [List.getElem?_eq_none (by rw [Array.length_toList, size_madeCells]; omega), List.getElem?_eq_none (by simp; omega)]

/-- What is known while blocks are counted: the branch's variable, the row of counts. -/
structure UseInv (w wr : World) (a b : Option Addr) (ca cb : Nat) (F : FsD) (L : List Int) : Prop where
  var : Var wr w.heap.size #[.slice a F.ns.length ca, .slice b F.ds.length cb] 31
  row : wr.ownsRow (w.heap.size + 1) 3 1 (.slice (some ⟨w.heap.size + 1, 0, none⟩) (F.ds.length + 1) (F.ds.length + 1)) (F.ds.length + 1) ((usedL F.ds.length L).map (Value.int .i64))
  bel : Below w.heap.size w wr
theorem UseInv.put {w wr : World} {a b : Option Addr} {ca cb : Nat} {F : FsD} {L L' : List Int} (h : UseInv w wr a b ca cb F L) (j : Nat) (x : Int) (he : (usedL F.ds.length L).set j x = usedL F.ds.length L') :
    UseInv w (wr.setCell ⟨w.heap.size + 1, j, none⟩ (.int .i64 x)) a b ca cb F L' := by
  have hO : Only (fun k => k = w.heap.size + 1) wr (wr.setCell ⟨w.heap.size + 1, j, none⟩ (.int .i64 x)) := Only.setCell (S := fun k => k = w.heap.size + 1) (Only.refl _ _) (p := ⟨w.heap.size + 1, j, none⟩) rfl _
  refine ⟨h.var.only hO (by omega), ?_, h.bel.trans (hO.below h.bel.size (fun k e => by omega))⟩
  have hst := (h.row.stored j (.int .i64 x)).1
  rw [← List.map_set, he] at hst
  exact hst
theorem UseInv.drew {w wr : World} {a b : Option Addr} {ca cb : Nat} {F : FsD} {L : List Int} (h : UseInv w wr a b ca cb F L) : UseInv w wr.drew a b ca cb F L := ⟨h.var, h.row, h.bel.drew⟩

set_option maxRecDepth 20000 in
set_option maxHeartbeats 4000000 in
theorem usedW (v : Value) (F : FsD) (w : World) (h1 : F.ns.length ≤ 10) (h2 : F.ds.length ≤ 36) (h3 : ∀ n ∈ F.ns, n.b.length ≤ 5) (hr : RdFs w v F) :
    Calls Try.prog 31 #[v] w fun e w' => ∃ u, e = .returned u ∧ w'.ownsRow w.heap.size 3 1 u (F.ds.length + 1) ((usedL F.ds.length (allB F.ns)).map (Value.int .i64)) ∧ Below w.heap.size w w' := by
  obtain ⟨i0, hi, hz0, hz1, hz2⟩ := info_parts Try.infoIntX
  obtain ⟨a, ca, b, cb, rfl, _, r1, r2⟩ := hr
  clear r2
  have HCS : Hid (∀ k (hk : k < F.ns.length), ∃ g off u, a = some ⟨g, off, none⟩ ∧ g < w.heap.size ∧ RdU w u F.ns[k].b ∧ NodeAt w g (off + k * 5) F.ns[k] u) := fun k hk => r1.at k hk
  have HB5 : Hid (∀ k (hk : k < F.ns.length), F.ns[k].b.length ≤ 5) := fun k hk => h3 _ (List.getElem_mem hk)
  have HIN : Hid (∀ (x hi : Int) Q W, (decide (0 ≤ x) && decide (x ≤ hi)) = Q → Calls Try.prog 42 #[.int .i64 x, .int .i64 0, .int .i64 hi] W fun e w' => e = .returned (.bool Q) ∧ w' = W) := by
    rintro x hi Q W rfl
    exact inW x 0 hi W
  have hX : Var (w.alloc (.cells #[.slice a F.ns.length ca, .slice b F.ds.length cb] 31)) w.heap.size #[.slice a F.ns.length ca, .slice b F.ds.length cb] 31 := Var.made _ _ _
  have hb0 : Below w.heap.size w (w.alloc (.cells #[.slice a F.ns.length ca, .slice b F.ds.length cb] 31)) := below1 _ _
  have hs0 : (w.alloc (.cells #[.slice a F.ns.length ca, .slice b F.ds.length cb] 31)).heap.size = w.heap.size + 1 := by simp
  have x1 := hX.cell 1
  simp at x1
  clear r1 h3
  go_enter Try.func31, Try.ntmps31
  go_wp2_with (at_make; refine wpList_make_full _ rfl _ _ 53 rfl (w.heap.size + 1) 3 i0 (.int .i64 0) 1 Try.underlying53 hi hz0 hz1 _ _ _ _ (F.ds.length + 1) rfl rfl rfl rfl (by rw [hz2]; omega) (by unfold maxLen; omega) (by rw [hs0]; exact Nat.le_refl _) ?_)
  intro w1 hown hgrow
  have HU0 : UseInv w w1 a b ca cb F (allB (F.ns.take 0)) := by
    refine ⟨?_, ?_, hb0.grown hgrow (by rw [hs0]; omega) (fun k h => by simp at h)⟩
    · exact hX.only (Only.of_grown hgrow) (fun h => by simp at h)
    · rw [List.take_zero, show allB [] = [] from rfl, usedL_nil, ← made_ints]
      simpa using hown
  clear hown hgrow hX x1 hb0
  go_wp2
  go_loopw [4, 5, 6] (fun i _ _ wr => ∃ k : Nat, k ≤ F.ns.length ∧ i = .int .i64 k ∧ UseInv w wr a b ca cb F (allB (F.ns.take k))) (fun i _ _ _ => F.ns.length - (intOf i).toNat)
  case atStart => exact ⟨0, Nat.zero_le _, rfl, HU0⟩
  case round =>
    clear HU0
    obtain ⟨k, hk, rfl, HU⟩ := hrel
    have x0 := HU.var.cell 0
    simp at x0
    by_cases hlt : k < F.ns.length
    · have HTK : Hid (allB (F.ns.take (k + 1)) = allB (F.ns.take k) ++ F.ns[k].b) := allB_take hlt
      have hb5 := HB5.out k hlt
      obtain ⟨g, off, u, rfl, hg, hru, _, _, _, _, c4⟩ := HCS.out k hlt
      obtain ⟨ua, uc, rfl, _, _, hru⟩ := hru
      have HBS : Hid (∀ j (hj : j < F.ns[k].b.length), ∃ g2 off2, ua = some ⟨g2, off2, none⟩ ∧ g2 < w.heap.size ∧ w.cell? ⟨g2, off2 + j, none⟩ = some (.int .i64 F.ns[k].b[j])) := by
        intro j hj
        obtain ⟨g2, off2, rfl, h1, hc⟩ := hru.cellI j hj
        exact ⟨g2, off2, rfl, h1, hc⟩
      have HU1 : UseInv w wr (some ⟨g, off, none⟩) b ca cb F (allB (F.ns.take k) ++ F.ns[k].b.take 0) := by rw [List.take_zero, List.append_nil]; exact HU
      clear hru HU HCS
      have HLB : Hid (∀ j, (allB (F.ns.take k) ++ F.ns[k].b.take j).length ≤ 1000) := by
        intro j
        have h5 : ∀ l : List NodeD, (∀ n ∈ l, n.b.length ≤ 5) → (allB l).length ≤ 5 * l.length := by
          intro l
          induction l with
          | nil => intro _; simp [allB]
          | cons n l ih =>
            intro h
            have h1 := h n (by simp)
            have h2 := ih fun m hm => h m (by simp [hm])
            simp only [allB, List.flatMap_cons, List.length_append, List.length_cons] at h2 ⊢
            omega
        have h6 := h5 (F.ns.take k) (fun n hn => by
          obtain ⟨i, hi, rfl⟩ := List.getElem_of_mem hn
          rw [List.getElem_take]
          exact HB5.out i (by simp at hi; omega))
        rw [List.length_append, List.length_take]
        simp at h6
        omega
      generalize hB : allB (F.ns.take k) = B at *
      generalize hbb : F.ns[k].b = bb at *
      clear hB hbb
      go_wp2
      go_loopw [5, 6] (fun i _ wr => ∃ j : Nat, j ≤ bb.length ∧ i = .int .i64 j ∧ UseInv w wr (some ⟨g, off, none⟩) b ca cb F (B ++ bb.take j)) (fun i _ _ => bb.length - (intOf i).toNat)
      case atStart => exact ⟨0, Nat.zero_le _, rfl, HU1⟩
      case round =>
        clear HU1 x0
        obtain ⟨j, hj, rfl, HU⟩ := hrel
        have x0 := HU.var.cell 0
        have x1 := HU.var.cell 1
        simp at x0 x1
        have d4 := (HU.bel.cell (p := ⟨g, off + k * 5 + 4, none⟩) hg).trans c4
        have i0 : (0 : Int) ≤ (k : Int) := by omega
        have i1 : (k : Int) < (F.ns.length : Int) := by omega
        by_cases hjt : j < bb.length
        · obtain ⟨g2, off2, rfl, hg2, hcb⟩ := HBS.out j hjt
          have e4 := (HU.bel.cell (p := ⟨g2, off2 + j, none⟩) hg2).trans hcb
          have HBT : Hid (B ++ bb.take (j + 1) = (B ++ bb.take j) ++ [bb[j]]) := by show _ = _; rw [List.take_succ_eq_append_getElem hjt, List.append_assoc]
          clear hcb
          generalize bb[j] = x at *
          by_cases hin : 0 ≤ x ∧ x < (F.ds.length : Int)
          · obtain ⟨hx0, hx1⟩ := hin
            have HI1 := HIN.out x ((F.ds.length : Int) - 1) true wr (by rw [decide_eq_true hx0, decide_eq_true (by omega)]; rfl)
            have HI2 : Hid (Calls Try.prog 42 #[.int .i64 x, .int .i64 0, .int .i64 ((F.ds.length : Int) - 1)] wr fun e w' => e = .returned (.bool true) ∧ w' = wr) := HI1
            have hset := usedL_in (m := F.ds.length) (B ++ bb.take j) hx0 hx1
            obtain ⟨m, rfl⟩ := Int.eq_ofNat_of_zero_le hx0
            rw [Int.toNat_natCast] at hset
            have hm : m < F.ds.length := by omega
            have hcm : wr.cell? ⟨w.heap.size + 1, m, none⟩ = some (.int .i64 ((B ++ bb.take j).count (m : Int) : Nat)) := by
              rw [HU.row.cellAt m (by omega), List.getElem?_map, usedL_at _ hm]; rfl
            have hfm := HU.row.frozenAt m
            have HUN := HU.put m _ hset
            rw [← HBT.out] at HUN
            have hcl := count_le (B ++ bb.take j) (m : Int)
            have hl9 : (B ++ bb.take j).length ≤ 1000 := HLB.out j
            generalize (B ++ bb.take j).count (m : Int) = q at *
            have HU2 : Hid (UseInv w (wr.setCell ⟨w.heap.size + 1, m, none⟩ (.int .i64 ((q : Nat) + 1))) (some ⟨g, off, none⟩) b ca cb F (B ++ bb.take (j + 1))) := HUN
            have i2 : (m : Int) < (F.ds.length : Int) + 1 := by omega
            have hq9 : q ≤ 1000 := by omega
            clear HUN HI1 HU hset hcl
            go_wp2_with fail
            refine HI2.out.mono ?_
            rintro e w1 ⟨rfl, hw1⟩
            subst w1
            clear HI2
            go_wp2
            go_roundw
            case rel => exact ⟨j + 1, by omega, by go_num, HU2.out⟩
            case measure => simp [intOf]; omega
          · have HI1 := HIN.out x ((F.ds.length : Int) - 1) false wr (by
              rw [Bool.and_eq_false_iff]
              by_cases h9 : 0 ≤ x
              · right; exact decide_eq_false (by omega)
              · left; exact decide_eq_false h9)
            have HI2 : Hid (Calls Try.prog 42 #[.int .i64 x, .int .i64 0, .int .i64 ((F.ds.length : Int) - 1)] wr fun e w' => e = .returned (.bool false) ∧ w' = wr) := HI1
            have hset := usedL_out (m := F.ds.length) (B ++ bb.take j) hin
            have hcm : wr.cell? ⟨w.heap.size + 1, F.ds.length, none⟩ = some (.int .i64 ((B ++ bb.take j).countP (outP F.ds.length) : Nat)) := by
              rw [HU.row.cellAt F.ds.length (by omega), List.getElem?_map, usedL_end]; rfl
            have hfm := HU.row.frozenAt F.ds.length
            have HUN := HU.put F.ds.length _ hset
            rw [← HBT.out] at HUN
            have hcl : (B ++ bb.take j).countP (outP F.ds.length) ≤ (B ++ bb.take j).length := List.countP_le_length
            have hl9 : (B ++ bb.take j).length ≤ 1000 := HLB.out j
            generalize (B ++ bb.take j).countP (outP F.ds.length) = q at *
            have HU2 : Hid (UseInv w (wr.setCell ⟨w.heap.size + 1, F.ds.length, none⟩ (.int .i64 ((q : Nat) + 1))) (some ⟨g, off, none⟩) b ca cb F (B ++ bb.take (j + 1))) := HUN
            have i2 : (F.ds.length : Int) < (F.ds.length : Int) + 1 := by omega
            have hq9 : q ≤ 1000 := by omega
            clear HUN HI1 HU hset hcl hin
            go_wp2_with fail
            refine HI2.out.mono ?_
            rintro e w1 ⟨rfl, hw1⟩
            subst w1
            clear HI2
            go_wp2_with fail
            go_region
            go_wp2
            go_roundw
            case rel =>
              try rw [show wrap64 ((q : Int) + 1) = (q : Int) + 1 by unfold wrap64; omega]
              exact ⟨j + 1, by omega, by go_num, HU2.out.drew⟩
            case measure => simp [intOf]; omega
        · obtain rfl : j = bb.length := by omega
          have HU2 : Hid (UseInv w wr (some ⟨g, off, none⟩) b ca cb F (allB (F.ns.take (k + 1)))) := by show UseInv _ _ _ _ _ _ _ _; rw [HTK.out]; rw [List.take_length] at HU; exact HU
          clear HU
          go_wp2
          go_roundw
          case rel => exact ⟨k + 1, by omega, by go_num, HU2.out⟩
          case measure => simp [intOf]; omega
    · obtain rfl : k = F.ns.length := by omega
      have hrow := HU.row
      have hbel := HU.bel
      rw [List.take_length] at hrow
      clear HU
      go_wp2
      go_ret
      exact ⟨_, rfl, ownsRow_base hrow (by omega), hbel⟩
end Go.Proofs.Ytioecnfgliponaa
