/-
  Own text: the first empty text of a row; the first free node of a row.
-/
import Derived.Test.YtbameedfnicnhaaSDataW
namespace Go.Proofs.Ytbameedfnicnhaa
open Go.RowKit

theorem emptyB {d : ByteArray} (h : d.size = 0) : d = ⟨#[]⟩ := by
  obtain ⟨⟨l⟩⟩ := d
  congr 1
  congr 1
  exact List.eq_nil_of_length_eq_zero h
theorem fullB {d : ByteArray} (h : d.size ≠ 0) : d.toList.isEmpty = false := by
  obtain ⟨⟨l⟩⟩ := d
  cases l with
  | nil => exact absurd rfl h
  | cons x l => simp [ByteArray.toList_eq]

set_option maxRecDepth 20000 in
set_option maxHeartbeats 1000000 in
theorem indexE (a : Option Addr) (c : Nat) (ds : List ByteArray) (w : World) (hl : ds.length ≤ 4194304) (hr : RdS w a ds) :
    Calls Try.prog 76 #[.slice a ds.length c, .string ⟨#[]⟩] w fun e w' => e = .returned (.int .i64 (firstE ds)) ∧ w' = w := by
  have HDS : Hid (∀ m (hm : m < ds.length), ∃ g off, a = some ⟨g, off, none⟩ ∧ g < w.heap.size ∧ w.cell? ⟨g, off + m, none⟩ = some (.string ds[m])) := fun m hm => hr.cellT m hm
  have HAT : Hid (∀ k (hk : k < ds.length), (ds[k]).size = 0 → (∀ j (hj : j < ds.length), j < k → (ds[j]).size ≠ 0) → firstE ds = (k : Int)) := fun k hk h0 h => firstE_at hk h0 h
  have HNO : Hid ((∀ j (hj : j < ds.length), (ds[j]).size ≠ 0) → firstE ds = -1) := fun h => firstE_none h
  clear hr
  go_enter Try.func76, Try.ntmps76
  go_wp2
  go_loop [8] (fun i => ∃ k : Nat, k ≤ ds.length ∧ i = .int .i64 k ∧ Hid (∀ j (hj : j < ds.length), j < k → (ds[j]).size ≠ 0)) (fun i => ds.length - (intOf i).toNat)
  case atStart => exact ⟨0, Nat.zero_le _, rfl, fun j _ h => by omega⟩
  case round =>
    obtain ⟨k, hk, rfl, HL⟩ := hrel
    by_cases hlt : k < ds.length
    · obtain ⟨g, off, rfl, hg, hc⟩ := HDS.out k hlt
      by_cases h0 : ds[k].size = 0
      · have HF : Hid (firstE ds = (k : Int)) := HAT.out k hlt h0 HL.out
        rw [emptyB h0] at hc
        clear h0
        go_wp2
        go_ret
        exact ⟨by rw [HF.out]; rfl, rfl⟩
      · have HL2 : Hid (∀ j (hj : j < ds.length), j < k + 1 → (ds[j]).size ≠ 0) := fun j hj hjk => by
          by_cases e : j = k
          · subst e; exact h0
          · exact HL.out j hj (by omega)
        have hne := fullB h0
        clear h0 HL
        generalize ds[k] = d at *
        go_wp2
        go_round
        case rel => exact ⟨k + 1, by omega, by go_num, HL2⟩
        case measure => simp [intOf]; omega
    · obtain rfl : k = ds.length := by omega
      have HF : Hid (firstE ds = -1) := HNO.out fun j hj => HL.out j hj hj
      go_wp2
      go_ret
      exact ⟨by rw [HF.out]; rfl, rfl⟩

set_option maxRecDepth 20000 in
theorem freeNodeW (n : NodeD) (u : Value) (w : World) :
    Calls Try.prog 54 #[aggN n u] w fun e w' => e = .returned (.bool (decide (n.k = 0))) ∧ Below w.heap.size w w' := by
  unfold aggN
  have hv := (Var.made w #[.int .i64 n.k, .int .i64 n.g, .int .i64 n.t, .int .i64 n.s, u] 39).cell 0
  have hb := below1 w (.cells #[.int .i64 n.k, .int .i64 n.g, .int .i64 n.t, .int .i64 n.s, u] 39)
  simp at hv
  go_enter Try.func54, Try.ntmps54
  go_wp2
  go_ret
  refine ⟨?_, hb⟩
  congr 2

def freeI1 (ns : List NodeD) : Int := if ns.findIdx (·.k == 0) < ns.length then (ns.findIdx (·.k == 0) : Nat) else -1
theorem freeI1_at {ns : List NodeD} {k : Nat} (hk : k < ns.length) (h0 : (ns[k]).k = 0) (h : ∀ j (hj : j < ns.length), j < k → (ns[j]).k ≠ 0) : freeI1 ns = k := by
  have e : ns.findIdx (·.k == 0) = k := by
    rw [List.findIdx_eq hk]
    refine ⟨by simp [h0], fun j hj => ?_⟩
    simpa using h j (by omega) hj
  unfold freeI1
  rw [e, if_pos hk]
theorem freeI1_none {ns : List NodeD} (h : ∀ j (hj : j < ns.length), (ns[j]).k ≠ 0) : freeI1 ns = -1 := by
  unfold freeI1
  rw [if_neg]
  intro hlt
  have := List.findIdx_getElem (p := fun x : NodeD => x.k == 0) (xs := ns) (w := hlt)
  exact h _ hlt (by simpa using this)

set_option maxRecDepth 20000 in
set_option maxHeartbeats 1000000 in
theorem indexFree (a : Option Addr) (c : Nat) (ns : List NodeD) (w : World) (hl : ns.length ≤ 4194304) (hr : RdNs w a ns) :
    Calls Try.prog 53 #[.slice a ns.length c, .func (.func 54) #[] #[]] w fun e w' => e = .returned (.int .i64 (freeI1 ns)) ∧ Below w.heap.size w w' := by
  have HNS : Hid (∀ W, Below w.heap.size w W → RdNs W a ns) := fun W h => hr.below h (Nat.le_refl _)
  have HAT : Hid (∀ k (hk : k < ns.length), (ns[k]).k = 0 → (∀ j (hj : j < ns.length), j < k → (ns[j]).k ≠ 0) → freeI1 ns = (k : Int)) := fun k hk h0 h => freeI1_at hk h0 h
  have HNO : Hid ((∀ j (hj : j < ns.length), (ns[j]).k ≠ 0) → freeI1 ns = -1) := fun h => freeI1_none h
  clear hr
  go_enter Try.func53, Try.ntmps53
  go_wp2
  go_loopw [8] (fun i wr => ∃ k : Nat, k ≤ ns.length ∧ i = .int .i64 k ∧ Hid (∀ j (hj : j < ns.length), j < k → (ns[j]).k ≠ 0) ∧ Below w.heap.size w wr) (fun i _ => ns.length - (intOf i).toNat)
  case atStart => exact ⟨0, Nat.zero_le _, rfl, fun j _ h => by omega, Below.refl _ _⟩
  case round =>
    obtain ⟨k, hk, rfl, HL, hB⟩ := hrel
    by_cases hlt : k < ns.length
    · obtain ⟨g, off, u, rfl, hblt, _, c0, c1, c2, c3, c4⟩ := (HNS.out wr hB).at k hlt
      by_cases h0 : (ns[k]).k = 0
      · have HF : Hid (freeI1 ns = (k : Int)) := HAT.out k hlt h0 HL.out
        have HK : Hid (decide ((ns[k]).k = 0) = true) := decide_eq_true h0
        clear h0
        generalize ns[k] = n at *
        go_wp2_with fail
        refine (freeNodeW n u _).mono ?_
        rintro e w1 ⟨rfl, hb1⟩
        have hB1 := hB.trans (hb1.mono hB.size)
        rw [HK.out]
        go_wp2
        go_ret
        exact ⟨by rw [HF.out]; rfl, hB1⟩
      · have HL2 : Hid (∀ j (hj : j < ns.length), j < k + 1 → (ns[j]).k ≠ 0) := fun j hj hjk => by
          by_cases e : j = k
          · subst e; exact h0
          · exact HL.out j hj (by omega)
        have HK : Hid (decide ((ns[k]).k = 0) = false) := decide_eq_false h0
        clear h0 HL
        generalize ns[k] = n at *
        go_wp2_with fail
        refine (freeNodeW n u _).mono ?_
        rintro e w1 ⟨rfl, hb1⟩
        have hB1 := hB.trans (hb1.mono hB.size)
        rw [HK.out]
        go_wp2
        go_roundw
        case rel => exact ⟨k + 1, by omega, by go_num, HL2, hB1⟩
        case measure => simp [intOf]; omega
    · obtain rfl : k = ns.length := by omega
      have HF : Hid (freeI1 ns = -1) := HNO.out fun j hj => HL.out j hj hj
      go_wp2
      go_ret
      exact ⟨by rw [HF.out]; rfl, hB⟩
end Go.Proofs.Ytbameedfnicnhaa
