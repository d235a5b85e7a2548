/-
  Own text: the laws' helpers over rows of texts that came in: how great they are, and a copy.
-/
import Derived.Test.YtkligbeneiidaaaPathOfW
namespace Go.Proofs.Ytkligbeneiidaaa
open Go.RowKit

theorem szL_take {l : List ByteArray} {k : Nat} (h : k < l.length) : szL (l.take (k + 1)) = szL (l.take k) + 1 + (l[k]).size := by
  unfold szL
  rw [join_take h, List.length_append, List.length_cons, bt_len]
  omega
theorem szL_all (l : List ByteArray) : szL (l.take l.length) = szL l := by rw [List.take_length]

set_option maxRecDepth 20000 in
set_option maxHeartbeats 400000 in
theorem szS (a : Option Addr) (cap : Nat) (l : List ByteArray) (w : World) (hl : l.length ≤ maxLen) (hz : ∀ s ∈ l, s.size ≤ maxLen) (hr : RdS w a l) :
    Calls Try.prog 34 #[.slice a l.length cap, .int .i64 1048576] w fun e w' => ∃ r : Int, e = .returned (.int .i64 r) ∧ (0 ≤ r → szL l ≤ 1048576) ∧ -1 ≤ r ∧ r ≤ 1048576 ∧ w' = w := by
  have HCS : Hid (∀ k (hk : k < l.length), ∃ b off, a = some ⟨b, off, none⟩ ∧ b < w.heap.size ∧ w.cell? ⟨b, off + k, none⟩ = some (.string l[k])) := fun k hk => hr.cellS k hk
  have HZ : Hid (∀ s ∈ l, s.size ≤ maxLen) := hz
  have hm : l.length ≤ 9223372036854775807 := by unfold maxLen at hl; omega
  clear hr hz hl
  by_cases hbig : 1048576 < l.length
  · have hbig' : (1048576 : Int) < (l.length : Int) := by omega
    have hneg : (1048576 : Int) - (l.length : Int) < 0 := by omega
    go_enter Try.func34, Try.ntmps34
    go_wp2
    go_ret
    exact ⟨-1, rfl, fun h => by omega, by omega, by omega, rfl⟩
  · have hneg : ¬ (1048576 : Int) - (l.length : Int) < 0 := by omega
    go_enter Try.func34, Try.ntmps34
    go_wp2
    go_loopw [1, 5] (fun x i wr => ∃ (m : Int) (k : Nat), x = .int .i64 m ∧ 0 ≤ m ∧ m ≤ 1048576 ∧ k ≤ l.length ∧ i = .int .i64 k ∧ wr = w ∧ Hid (m + ((l.length : Int) - k) + (szL (l.take k) : Int) = 1048576)) (fun _ i _ => l.length - (intOf i).toNat)
    case atStart => exact ⟨1048576 - (l.length : Int), 0, by go_num, by omega, by omega, Nat.zero_le _, rfl, rfl, by show _ = _; simp [szL, joinL]⟩
    case round =>
      obtain ⟨m, k, rfl, hm0, hm1, hk, rfl, hwr, HA⟩ := hrel
      subst hwr
      by_cases hlt : k < l.length
      · obtain ⟨b, off, rfl, hblt, hcell⟩ := HCS.out k hlt
        have HS : Hid (szL (l.take (k + 1)) = szL (l.take k) + 1 + (l[k]).size) := szL_take hlt
        have hyz : (l[k]).size ≤ 9223372036854775807 := by have := HZ.out l[k] (List.getElem_mem hlt); unfold maxLen at this; omega
        generalize l[k] = y at *
        by_cases hm2 : m - (y.size : Int) < 0
        · go_wp2
          go_ret
          exact ⟨-1, rfl, fun h => by omega, by omega, by omega, rfl⟩
        · go_wp2
          go_roundw
          case rel => exact ⟨m - (y.size : Int), k + 1, by go_num, by omega, by omega, by omega, by go_num, by trivial, by show _ = _; rw [HS.out]; have := HA.out; omega⟩
          case measure => simp [intOf]; omega
      · obtain rfl : k = l.length := by omega
        have HE : Hid (szL l ≤ 1048576) := by have := HA.out; rw [szL_all] at this; show _ ≤ _; omega
        go_wp2
        go_ret
        exact ⟨m, rfl, fun _ => HE.out, by omega, by omega, rfl⟩

theorem made_str (n : Nat) : (madeCells #[Value.string ⟨#[]⟩] n).toList = (List.replicate n (⟨#[]⟩ : ByteArray)).map Value.string := by
  apply List.ext_getElem
  · simp [size_madeCells]
  · intro i h1 h2
    simp [madeCells, Nat.mod_one]

/-- The first k of l, then empty texts. -/
def fillS (l : List ByteArray) (k : Nat) : List ByteArray := l.take k ++ List.replicate (l.length - k) ⟨#[]⟩
theorem fillS_set (l : List ByteArray) (k : Nat) (h : k < l.length) : (fillS l k).set k l[k] = fillS l (k + 1) := by
  unfold fillS
  apply List.ext_getElem
  · simp; omega
  · intro i h1 h2
    simp only [List.getElem_set, List.getElem_append, List.length_take, List.getElem_take, List.getElem_replicate]
    by_cases hi : k = i
    · subst hi
      simp
      omega
    · by_cases h3 : i < k
      · simp [hi, show i < min k l.length by omega, show i < min (k + 1) l.length by omega]
      · simp [hi, show ¬ i < min k l.length by omega, show ¬ i < min (k + 1) l.length by omega]
theorem fillS_len (l : List ByteArray) (k : Nat) (h : k ≤ l.length) : (fillS l k).length = l.length := by unfold fillS; simp; omega
theorem fillS_all (l : List ByteArray) : fillS l l.length = l := by simp [fillS]
theorem fillS_zero (l : List ByteArray) : fillS l 0 = List.replicate l.length ⟨#[]⟩ := by simp [fillS]
theorem own_rdS_at {w : World} {base : Nat} {e : TypeId} {g n cap : Nat} {l : List ByteArray} (h : w.ownsRow base e 1 (.slice (some ⟨g, 0, none⟩) n cap) n (l.map Value.string)) : RdS w (some ⟨g, 0, none⟩) l := by
  obtain ⟨a, c, hv, _, hr⟩ := own_rdS h
  cases hv
  exact hr

set_option maxRecDepth 20000 in
set_option maxHeartbeats 400000 in
theorem toS (a : Option Addr) (cap : Nat) (l : List ByteArray) (w : World) (hl : l.length ≤ 1048576) (hr : RdS w a l) :
    Calls Try.prog 36 #[.slice a l.length cap] w fun e w' => ∃ g, e = .returned (.slice (some ⟨g, 0, none⟩) l.length l.length) ∧ w.heap.size ≤ g ∧ RdS w' (some ⟨g, 0, none⟩) l ∧ Below w.heap.size w w' := by
  obtain ⟨i0, hi, hz0, hz1, hz2⟩ := info_parts Try.infoStr
  have HCS : Hid (∀ k (hk : k < l.length), ∃ b off, a = some ⟨b, off, none⟩ ∧ b < w.heap.size ∧ w.cell? ⟨b, off + k, none⟩ = some (.string l[k])) := fun k hk => hr.cellS k hk
  clear hr
  go_enter Try.func36, Try.ntmps36
  go_wp2_with (at_make; refine wpList_make_full _ rfl _ _ 29 rfl w.heap.size 9 i0 (.string ⟨#[]⟩) 1 Try.underlying29 hi hz0 hz1 _ _ _ _ l.length rfl rfl rfl rfl (by rw [hz2]; omega) (by unfold maxLen; omega) (Nat.le_refl _) ?_)
  intro w1 hown hgrow
  have hown1 : w1.ownsRow w.heap.size 9 1 (.slice (some ⟨w.heap.size, 0, none⟩) l.length l.length) l.length ((fillS l 0).map Value.string) := by
    rw [fillS_zero, ← made_str]
    exact hown
  clear hown
  go_wp2
  go_loopw [4] (fun i wr => ∃ k : Nat, k ≤ l.length ∧ i = .int .i64 k ∧ wr.ownsRow w.heap.size 9 1 (.slice (some ⟨w.heap.size, 0, none⟩) l.length l.length) l.length ((fillS l k).map Value.string) ∧ Below w.heap.size w wr) (fun i _ => l.length - (intOf i).toNat)
  case atStart => exact ⟨0, Nat.zero_le _, rfl, hown1, (Below.refl _ _).grown hgrow (Nat.le_refl _) (fun k h => by simp at h)⟩
  case round =>
    obtain ⟨k, hk, rfl, ho, hbel⟩ := hrel
    by_cases hlt : k < l.length
    · obtain ⟨b, off, rfl, hblt, hcell⟩ := HCS.out k hlt
      have hcr : wr.cell? ⟨b, off + k, none⟩ = some (.string l[k]) := (hbel.cell hblt).trans hcell
      have hfz := ho.frozenAt k
      have hce : wr.cell? ⟨w.heap.size, k, none⟩ = some (.string ((fillS l k).getD k ⟨#[]⟩)) := by
        rw [ho.cellAt k (by omega)]
        have := fillS_len l k hk
        simp [List.getD, show k < (fillS l k).length by omega]
      generalize (fillS l k).getD k ⟨#[]⟩ = old at hce
      have hst := (ho.stored k (.string l[k])).1
      rw [← List.map_set, fillS_set l k hlt] at hst
      clear hown1 hgrow hcell
      generalize l[k] = y at *
      go_wp2
      go_roundw
      case rel => exact ⟨k + 1, by omega, by go_num, hst, hbel.setCell (Nat.le_refl _) _⟩
      case measure => simp [intOf]; omega
    · obtain rfl : k = l.length := by omega
      go_wp2
      go_ret
      rw [fillS_all] at ho
      exact ⟨w.heap.size, rfl, Nat.le_refl _, own_rdS_at ho, hbel⟩

/-- What the row's frame tells of a slice of texts that came in, as 'RdS'. -/
theorem rdS_of_row {w : World} {a : Option Addr} {len cap : Nat} {zs : List ByteArray}
    (h : (a = none ∧ len = 0 ∧ cap = 0 ∧ zs = []) ∨ ∃ x, a = some x ∧ len ≤ cap ∧ cap ≤ maxLen ∧ zs.length = cap ∧ (∀ i, i < zs.length → w.cell? (x.add i) = some (.string (zs.getD i ByteArray.empty))) ∧ ∀ s ∈ zs, s.size ≤ maxLen) :
    ∃ l : List ByteArray, l.length = len ∧ len ≤ maxLen ∧ (∀ s ∈ l, s.size ≤ maxLen) ∧ RdS w a l := by
  rcases h with ⟨_, rfl, _, _⟩ | ⟨x, rfl, hl, hm, hz, hc, hw⟩
  · exact ⟨[], rfl, Nat.zero_le _, by intro n hn; simp at hn, .inl rfl⟩
  · refine ⟨zs.take len, by simp; omega, by omega, fun s hs => hw s (List.mem_of_mem_take hs), ?_⟩
    by_cases h0 : len = 0
    · left; simp [h0]
    · right
      obtain ⟨b, off, spot⟩ := x
      have hc0 := hc 0 (by omega)
      have hspot : spot = none := by simpa [Addr.add] using World.cell?_spot hc0
      subst hspot
      refine ⟨b, off, rfl, World.block_lt_of_cell? w _ hc0, fun i hi => ?_⟩
      simp at hi
      have := hc i (by omega)
      rw [Go.WideShapes.add_plain] at this
      rw [this]
      simp [List.getD, show i < zs.length by omega]
end Go.Proofs.Ytkligbeneiidaaa
