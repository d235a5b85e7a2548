/-
  Own text: the laws' helpers over rows of yes and no: a copy, alike, marked; what the frame tells of such a row that came in.
-/
import Derived.Test.YtddjgfkklgjagaaSFallW
import Derived.Deep.Grids
namespace Go.Proofs.Ytddjgfkklgjagaa
open Go.RowKit

theorem Try.infoBool : (Try.prog.info? 4).map (fun i => (i.zero, i.size, i.bytes)) = some (some (.bool false), 1, 1) := by kernel_rfl
theorem RdF.cellB {w : World} {a : Option Addr} {l : List Bool} (h : RdF encB 1 w a l) (k : Nat) (hk : k < l.length) : ∃ x off, a = some ⟨x, off, none⟩ ∧ x < w.heap.size ∧ w.cell? ⟨x, off + k, none⟩ = some (.bool l[k]) := by
  obtain ⟨x, off, h1, h2, h3⟩ := h.at k hk
  have := h3 0 (by omega)
  rw [Nat.mul_one, Nat.add_zero] at this
  exact ⟨x, off, h1, h2, this⟩
theorem flatB (l : List Bool) : l.flatMap encB = l.map Value.bool := by
  induction l with
  | nil => rfl
  | cons b l ih => rw [List.flatMap_cons, ih]; rfl

set_option maxRecDepth 20000 in
set_option maxHeartbeats 400000 in
theorem toBools (a : Option Addr) (cap : Nat) (l : List Bool) (w : World) (hl : l.length ≤ 1048576) (hr : RdF encB 1 w a l) :
    Calls Try.prog 34 #[.slice a l.length cap] w fun e w' => ∃ v, e = .returned v ∧ w'.ownsRow w.heap.size 4 1 v l.length (l.flatMap encB) ∧ Below w.heap.size w w' := by
  obtain ⟨i0, hi, hz0, hz1, hz2⟩ := info_parts Try.infoBool
  have HCS : Hid (∀ k (hk : k < l.length), ∃ x off, a = some ⟨x, off, none⟩ ∧ x < w.heap.size ∧ w.cell? ⟨x, off + k, none⟩ = some (.bool l[k])) := fun k hk => hr.cellB k hk
  clear hr
  rw [flatB]
  go_enter Try.func34, Try.ntmps34
  go_wp2_with (at_make; refine wpList_make_full _ rfl _ _ 30 rfl w.heap.size 4 i0 (.bool false) 1 Try.underlying30 hi hz0 hz1 _ _ _ _ l.length rfl rfl rfl rfl (by rw [hz2]; omega) (by unfold maxLen; omega) (Nat.le_refl _) ?_)
  intro w1 hown hgrow
  have hown1 : w1.ownsRow w.heap.size 4 1 (.slice (some ⟨w.heap.size, 0, none⟩) l.length l.length) l.length ((fillF false l 0).map Value.bool) := by
    rw [fillF_zero, ← flatB, ← made_flat encB_len false #[.bool false] rfl (by omega), Nat.mul_one]
    exact hown
  clear hown
  go_wp2
  go_loopw [4] (fun i wr => ∃ k : Nat, k ≤ l.length ∧ i = .int .i64 k ∧ wr.ownsRow w.heap.size 4 1 (.slice (some ⟨w.heap.size, 0, none⟩) l.length l.length) l.length ((fillF false l k).map Value.bool) ∧ Below w.heap.size w wr) (fun i _ => l.length - (intOf i).toNat)
  case atStart => exact ⟨0, Nat.zero_le _, rfl, hown1, (Below.refl _ _).grown hgrow (Nat.le_refl _) (fun k h => by simp at h)⟩
  case round =>
    obtain ⟨k, hk, rfl, ho, hbel⟩ := hrel
    by_cases hlt : k < l.length
    · obtain ⟨b, off, rfl, hblt, hcell⟩ := HCS.out k hlt
      have hcr : wr.cell? ⟨b, off + k, none⟩ = some (.bool l[k]) := (hbel.cell hblt).trans hcell
      have hfz := ho.frozenAt k
      have hce : wr.cell? ⟨w.heap.size, k, none⟩ = some (.bool ((fillF false l k).getD k false)) := by
        rw [ho.cellAt k (by omega)]
        have := fillF_len false l k hk
        simp [List.getD, show k < (fillF false l k).length by omega]
      generalize (fillF false l k).getD k false = old at hce
      have hst := (ho.stored k (.bool l[k])).1
      rw [← List.map_set, fillF_set _ l k hlt] at hst
      clear hown1 hgrow hcell
      generalize l[k] = y at *
      go_wp2
      go_roundw
      case rel => exact ⟨k + 1, by omega, by go_num, hst, hbel.setCell (Nat.le_refl _) _⟩
      case measure => simp [intOf]; omega
    · obtain rfl : k = l.length := by omega
      go_wp2
      go_ret
      rw [fillF_all] at ho
      exact ⟨_, rfl, ho, hbel⟩

set_option maxRecDepth 20000 in
set_option maxHeartbeats 400000 in
theorem eqBools (a c : Option Addr) (ca cc : Nat) (l : List Bool) (w : World) (hl : l.length ≤ 4194304) (hr : RdF encB 1 w a l) (hs : RdF encB 1 w c l) :
    Calls Try.prog 35 #[.slice a l.length ca, .slice c l.length cc] w fun e w' => e = .returned (.bool true) ∧ Below w.heap.size w w' := by
  have HCS : Hid (∀ k (hk : k < l.length), ∃ x off, a = some ⟨x, off, none⟩ ∧ x < w.heap.size ∧ w.cell? ⟨x, off + k, none⟩ = some (.bool l[k])) := fun k hk => hr.cellB k hk
  have HDS : Hid (∀ k (hk : k < l.length), ∃ x off, c = some ⟨x, off, none⟩ ∧ x < w.heap.size ∧ w.cell? ⟨x, off + k, none⟩ = some (.bool l[k])) := fun k hk => hs.cellB k hk
  clear hr hs
  go_enter Try.func35, Try.ntmps35
  go_wp2
  go_loopw [5] (fun i wr => ∃ k : Nat, k ≤ l.length ∧ i = .int .i64 k ∧ Below w.heap.size w wr) (fun i _ => l.length - (intOf i).toNat)
  case atStart => exact ⟨0, Nat.zero_le _, rfl, Below.refl _ _⟩
  case round =>
    obtain ⟨k, hk, rfl, hbel⟩ := hrel
    by_cases hlt : k < l.length
    · obtain ⟨b, off, rfl, hblt, hcell⟩ := HCS.out k hlt
      obtain ⟨d, off2, rfl, hdlt, hcell2⟩ := HDS.out k hlt
      have hcr : wr.cell? ⟨b, off + k, none⟩ = some (.bool l[k]) := (hbel.cell hblt).trans hcell
      have hdr : wr.cell? ⟨d, off2 + k, none⟩ = some (.bool l[k]) := (hbel.cell hdlt).trans hcell2
      generalize l[k] = z at *
      clear hcell hcell2
      go_wp2
      go_region
      all_goals (go_wp2)
      all_goals go_roundw
      case rel => exact ⟨k + 1, by omega, by go_num, hbel.drew⟩
      case measure => simp [intOf]; omega
    · go_wp2
      go_ret
      exact ⟨rfl, hbel⟩

set_option maxRecDepth 20000 in
set_option maxHeartbeats 400000 in
theorem markBools (v : Value) (n k base : Nat) (l : List Bool) (w : World) (hn : n ≤ 536870912) (hk : k ≤ 2147483648) (hl : l.length = n) (hown : w.ownsRow base 4 1 v n (l.flatMap encB)) :
    Calls Try.prog 36 #[v, .int .i64 k] w fun e w' => e = .returned (.int .i64 ((k + n : Nat) : Int)) ∧ Only (blk v) w w' := by
  rw [flatB] at hown
  rcases hown.2 with ⟨rfl, rfl⟩ | ⟨g, cap, cur, rfl, hbg, hrest⟩
  · go_enter Try.func36, Try.ntmps36
    go_wp2
    go_loop [1, 5] (fun x i => x = .int .i64 k ∧ i = .int .i64 0) (fun _ _ => 0)
    case atStart => exact ⟨rfl, rfl⟩
    case round =>
      obtain ⟨rfl, rfl⟩ := hrel
      go_wp2
      go_ret
      exact ⟨by simp, Only.refl _ _⟩
  · clear hrest
    subst hl
    go_enter Try.func36, Try.ntmps36
    go_wp2
    go_loopw [1, 5] (fun x i wr => ∃ (j : Nat) (m : List Bool), j ≤ l.length ∧ x = .int .i64 ((k + j : Nat) : Int) ∧ i = .int .i64 j ∧ m.length = l.length ∧ wr.ownsRow base 4 1 (.slice (some ⟨g, 0, none⟩) l.length cap) l.length (m.map Value.bool) ∧ Only (blk (.slice (some ⟨g, 0, none⟩) l.length cap)) w wr) (fun _ i _ => l.length - (intOf i).toNat)
    case atStart => exact ⟨0, l, Nat.zero_le _, by simp, rfl, rfl, hown, Only.refl _ _⟩
    case round =>
      obtain ⟨j, m, hj, rfl, rfl, hml, ho, hbel⟩ := hrel
      by_cases hlt : j < l.length
      · clear hown
        have hfz := ho.frozenAt j
        have hce : wr.cell? ⟨g, j, none⟩ = some (.bool (m.getD j false)) := by
          rw [ho.cellAt j (by omega)]
          simp [List.getD, show j < m.length by omega]
        generalize m.getD j false = old at hce
        have HST : Hid (∀ q : Bool, (wr.setCell ⟨g, j, none⟩ (.bool q)).ownsRow base 4 1 (.slice (some ⟨g, 0, none⟩) l.length cap) l.length ((m.set j q).map Value.bool)) := by
          intro q
          have := (ho.stored j (.bool q)).1
          rwa [← List.map_set] at this
        have HB2 : Hid (∀ q : Value, Only (blk (.slice (some ⟨g, 0, none⟩) l.length cap)) w (wr.setCell ⟨g, j, none⟩ q)) := fun q => hbel.setCell (p := ⟨g, j, none⟩) rfl q
        clear ho hbel
        go_wp2
        go_roundw
        case rel => exact ⟨j + 1, m.set j _, by omega, by go_num, by go_num, by simp [hml], HST.out _, HB2.out _⟩
        case measure => simp [intOf]; omega
      · obtain rfl : j = l.length := by omega
        go_wp2
        go_ret
        exact ⟨by simp, hbel⟩

theorem rdB {w : World} {base : Nat} {a : Option Addr} {cap : Nat} {l : List Bool} (h : w.ownsRow base 4 1 (.slice a l.length cap) l.length (l.flatMap encB)) : RdF encB 1 w a l := by
  obtain ⟨a', c', e, _, hr⟩ := own_rdF encB_len h rfl
  cases e
  exact hr
theorem OwnD.notRow {w : World} {lo lo' : Nat} {v u : Value} {d : DiskD} {e : TypeId} {size n : Nat} {xs : List Value} (h : OwnD w lo v d) (hr : w.ownsRow lo' e size u n xs) (h1 : 9 ≠ e) (h2 : 42 ≠ e) : ∀ j, blkD v j → ¬ u.ownBlock = some j := by
  obtain ⟨v1, v2, rfl, o1, o2⟩ := h
  rintro j ⟨x, y, e', hk⟩ hu
  cases e'
  rcases hk with hk | hk
  · exact own_apart o1 hr h1 j hk hu
  · exact own_apart o2 hr h2 j hk hu
theorem cnt_le {d : DiskD} (h : szD d ≤ 1048576) : 1 + cntD d ≤ 2147483648 := by
  have h1 := szT_len d.1
  have h2 := szP_len d.2
  unfold szD at h
  unfold cntD
  omega

section
open Go.ChangeShapes Go.WideShapes Go.ChangeAt
variable {H : Type} {enc : TypeId × Value → H} {w : World} {held : Bool}
theorem open_Bools {r : Reach} {b0 : Nat} {v : Value} {d : DataW H} {p : List MemPlace} (hv : Value.okWide Try.prog w r b0 30 v) (h : DataW.Trod enc Try.prog w 0 (fun _ => true) held 30 v d p) :
    ∃ (a : Option Addr) (cap : Nat) (l : List Bool), v = .slice a l.length cap ∧ l.length ≤ maxLen ∧ RdF encB 1 w a l := by
  obtain ⟨a0, len0, cap0, rfl⟩ := okWide_slice Try.underlying30 hv
  obtain ⟨fuel, hf⟩ := h
  rcases Go.Deep.open_bools Try.underlying30 Try.underlying4 (by kernel_rfl) hf with ⟨hcs, _⟩ | ⟨x, l, c, B, hcs, _, hl, hm, _, hcell⟩
  · simp [Value.cells] at hcs
    obtain ⟨rfl, rfl, rfl⟩ := hcs
    exact ⟨none, 0, [], rfl, Nat.zero_le _, .inl rfl⟩
  · simp [Value.cells] at hcs
    obtain ⟨rfl, rfl, rfl⟩ := hcs
    refine ⟨some x, cap0, (List.range len0).map B, by simp, by simp; omega, ?_⟩
    by_cases h0 : len0 = 0
    · left; simp [h0]
    · right
      obtain ⟨b, off, spot⟩ := x
      have hc0 := hcell 0 (by omega)
      have hspot : spot = none := by simpa [Addr.add] using World.cell?_spot hc0
      subst hspot
      refine ⟨b, off, rfl, World.block_lt_of_cell? w _ hc0, fun i hi j hj => ?_⟩
      simp at hi
      obtain rfl : j = 0 := by omega
      have := hcell i (by omega)
      rw [Go.WideShapes.add_plain] at this
      rw [Nat.mul_one, Nat.add_zero, this]
      simp [encB]
end
end Go.Proofs.Ytddjgfkklgjagaa
