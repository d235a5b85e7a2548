/-
  Own texts, several together.
-/
import Derived.Test.YthfgfhbinggpfaaDoorShelf
import Derived.WalkKit
import Derived.ProofKit
import Derived.Test.YthfgfhbinggpfaaDoorBunZF
import Derived.BigQuiet
/-
  Own text: strings.Clone answers the same text.
-/
namespace Go.Proofs.YthfgfhbinggpfaaDoor
open Go.RowKit

theorem cloneT (s : ByteArray) (w : World) (hs : s.size ≤ 281474976710656) :
    Calls Tryd.prog 101 #[.string s] w fun e w' => e = .returned (.string s) ∧ Below w.heap.size w w' := by
  go_enter Tryd.func101, Tryd.ntmps101
  go_wp2_with (go_at_call 107; refine (Tryd.stringslite_Clone s _ hs).mono ?_; rintro e w' ⟨rfl, hb⟩)
  go_ret
  exact ⟨rfl, hb⟩
end Go.Proofs.YthfgfhbinggpfaaDoor

/-
  Own text: an entry's name, a copy of it, the two closures that look for a place, slices.IndexFunc over entries.
-/
namespace Go.Proofs.YthfgfhbinggpfaaDoor
open Go.RowKit

theorem Tryd.methName (s : ByteArray) (n : Int) : ∀ w, (method 74 74 (.agg #[.string s, .int .i64 n]) "loop.example/g00483/impl.name").run Tryd.prog w = .ok (123, .agg #[.string s, .int .i64 n]) w := fun _ => by kernel_rfl

set_option maxRecDepth 20000 in
theorem entNameW (s : ByteArray) (n : Int) (w : World) :
    Calls Tryd.prog 123 #[.agg #[.string s, .int .i64 n]] w fun e w' => e = .returned (.string s) ∧ Below w.heap.size w w' := by
  have hv := (Var.made w #[.string s, .int .i64 n] 74).cell 0
  have hb := below1 w (.cells #[.string s, .int .i64 n] 74)
  simp at hv
  go_enter Tryd.func123, Tryd.ntmps123
  go_wp2
  go_ret
  exact ⟨rfl, hb⟩

set_option maxRecDepth 20000 in
theorem findC (P : Nat) (x : ByteArray) (s : ByteArray) (n : Int) (w : World) (hP : P < w.heap.size) (hp : w.cell? ⟨P, 0, none⟩ = some (.string x)) :
    Calls Tryd.prog 83 #[.agg #[.string s, .int .i64 n], .pointer (some ⟨P, 0, none⟩)] w fun e w' => e = .returned (.bool (decide (s = x))) ∧ Below w.heap.size w w' := by
  have hv := (Var.made w #[.string s, .int .i64 n] 74).cell 0
  have hv1 := (Var.made w #[.string s, .int .i64 n] 74).cell 1
  simp at hv hv1
  have hc : (w.alloc (.cells #[.string s, .int .i64 n] 74)).cell? ⟨P, 0, none⟩ = some (.string x) := ((below1 w _).cell hP).trans hp
  have hm := Tryd.methName s n
  have hbA := below1 w (.cells #[.string s, .int .i64 n] 74)
  have hP1 : P < (w.alloc (.cells #[.string s, .int .i64 n] 74)).heap.size := by have := hbA.size; omega
  go_enter Tryd.func83, Tryd.ntmps83
  go_wp2
  go_region_with (go_at_call 123; refine (entNameW s n _).mono ?_; rintro e w2 ⟨rfl, hb2⟩; have hd : w2.cell? ⟨P, 0, none⟩ = some (.string x) := (hb2.cell (by exact hP1)).trans hc)
  all_goals
    have hb3 : Below w.heap.size w w2 := hbA.drew.trans (hb2.mono (by exact hbA.size))
    go_wp2
    go_ret
    refine ⟨?_, hb3⟩
    rw [← strEq]
    rfl

/-- The first entry for which the closure says yes. -/
def idxF (l : List EntD) (p : EntD → Bool) : Int := if l.findIdx p < l.length then (l.findIdx p : Nat) else -1
theorem idxF_at {l : List EntD} {p : EntD → Bool} {k : Nat} (hk : k < l.length) (h0 : p l[k] = true) (h : ∀ j (hj : j < l.length), j < k → p l[j] = false) : idxF l p = k := by
  have e : l.findIdx p = k := by
    rw [List.findIdx_eq hk]
    exact ⟨h0, fun j hj => h j (by omega) hj⟩
  unfold idxF
  rw [e, if_pos hk]
theorem idxF_none {l : List EntD} {p : EntD → Bool} (h : ∀ j (hj : j < l.length), p l[j] = false) : idxF l p = -1 := by
  unfold idxF
  rw [if_neg]
  intro hlt
  have := List.findIdx_getElem (p := p) (xs := l) (w := hlt)
  rw [h _ hlt] at this
  cases this

set_option maxRecDepth 20000 in
set_option maxHeartbeats 1000000 in
theorem indexFind (C : Value) (p : EntD → Bool) (a : Option Addr) (c : Nat) (l : List EntD) (w : World) (hl : l.length ≤ 4194304) (hr : RdF encN 2 w a l)
    (HC : Hid (∀ s n W, Below w.heap.size w W → Calls Tryd.prog 83 #[.agg #[.string s, .int .i64 n], C] W fun e w' => e = .returned (.bool (p (s, n))) ∧ Below W.heap.size W w')) :
    Calls Tryd.prog 82 #[.slice a l.length c, .func (.func 83) #[] #[C]] w fun e w' => e = .returned (.int .i64 (idxF l p)) ∧ Below w.heap.size w w' := by
  have HCS : Hid (∀ k (hk : k < l.length), ∃ b off, a = some ⟨b, off, none⟩ ∧ b < w.heap.size ∧ ∀ j, j < 2 → w.cell? ⟨b, off + k * 2 + j, none⟩ = (encN l[k])[j]?) := fun k hk => hr.at k hk
  have HAT : Hid (∀ k (hk : k < l.length), p l[k] = true → (∀ j (hj : j < l.length), j < k → p l[j] = false) → idxF l p = (k : Int)) := fun k hk h0 h => idxF_at hk h0 h
  have HNO : Hid ((∀ j (hj : j < l.length), p l[j] = false) → idxF l p = -1) := fun h => idxF_none h
  clear hr
  go_enter Tryd.func82, Tryd.ntmps82
  go_wp2
  go_loopw [8] (fun i wr => ∃ k : Nat, k ≤ l.length ∧ i = .int .i64 k ∧ Hid (∀ j (hj : j < l.length), j < k → p l[j] = false) ∧ Below w.heap.size w wr) (fun i _ => l.length - (intOf i).toNat)
  case atStart => exact ⟨0, Nat.zero_le _, rfl, fun j _ h => by omega, Below.refl _ _⟩
  case round =>
    obtain ⟨k, hk, rfl, HL, hB⟩ := hrel
    by_cases hlt : k < l.length
    · obtain ⟨b, off, rfl, hblt, hcell⟩ := HCS.out k hlt
      have hc0 : wr.cell? ⟨b, off + k * 2, none⟩ = some (.string l[k].1) := (hB.cell hblt).trans (hcell 0 (by omega))
      have hc1 : wr.cell? ⟨b, off + k * 2 + 1, none⟩ = some (.int .i64 l[k].2) := (hB.cell hblt).trans (hcell 1 (by omega))
      clear hcell
      by_cases h0 : p l[k] = true
      · have HF : Hid (idxF l p = (k : Int)) := HAT.out k hlt h0 HL.out
        have HK : Hid (p (l[k].1, l[k].2) = true) := h0
        clear h0
        generalize (l[k]).1 = s at *
        generalize (l[k]).2 = n at *
        go_wp2_with fail
        refine (HC.out s n _ hB).mono ?_
        rintro e w1 ⟨rfl, hb1⟩
        have hB1 := hB.trans (hb1.mono hB.size)
        rw [HK.out]
        go_wp2
        go_ret
        exact ⟨by rw [HF.out]; rfl, hB1⟩
      · have HL2 : Hid (∀ j (hj : j < l.length), j < k + 1 → p l[j] = false) := fun j hj hjk => by
          by_cases e : j = k
          · subst e; simpa using h0
          · exact HL.out j hj (by omega)
        have HK : Hid (p (l[k].1, l[k].2) = false) := by show _ = _; simpa using h0
        clear h0 HL
        generalize (l[k]).1 = s at *
        generalize (l[k]).2 = n at *
        go_wp2_with fail
        refine (HC.out s n _ hB).mono ?_
        rintro e w1 ⟨rfl, hb1⟩
        have hB1 := hB.trans (hb1.mono hB.size)
        rw [HK.out]
        go_wp2
        go_roundw
        case rel => exact ⟨k + 1, by omega, by go_num, HL2, hB1⟩
        case measure => simp [intOf]; omega
    · obtain rfl : k = l.length := by omega
      have HF : Hid (idxF l p = -1) := HNO.out fun j hj => HL.out j hj hj
      go_wp2
      go_ret
      exact ⟨by rw [HF.out]; rfl, hB⟩
end Go.Proofs.YthfgfhbinggpfaaDoor
