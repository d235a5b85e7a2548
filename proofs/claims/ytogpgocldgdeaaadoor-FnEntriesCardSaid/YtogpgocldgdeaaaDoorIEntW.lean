/-
  Own text: an entry's name, a copy of it, the two closures that look for a place, slices.IndexFunc over entries.
-/
import Derived.Test.YtogpgocldgdeaaaDoorBunP
import Derived.Test.YtogpgocldgdeaaaDoorCloneW
import Derived.BigQuiet
namespace Go.Proofs.YtogpgocldgdeaaaDoor
open Go.RowKit

theorem Tryd.methName (s : ByteArray) (n : Int) : ∀ w, (method 32 32 (.agg #[.string s, .int .i64 n]) "loop.example/g00483/impl.name").run Tryd.prog w = .ok (79, .agg #[.string s, .int .i64 n]) w := fun _ => by kernel_rfl

set_option maxRecDepth 20000 in
theorem entNameW (s : ByteArray) (n : Int) (w : World) :
    Calls Tryd.prog 79 #[.agg #[.string s, .int .i64 n]] w fun e w' => e = .returned (.string s) ∧ Below w.heap.size w w' := by
  have hv := (Var.made w #[.string s, .int .i64 n] 32).cell 0
  have hb := below1 w (.cells #[.string s, .int .i64 n] 32)
  simp at hv
  go_enter Tryd.func79, Tryd.ntmps79
  go_wp2
  go_ret
  exact ⟨rfl, hb⟩

set_option maxRecDepth 20000 in
theorem findC (P : Nat) (x : ByteArray) (s : ByteArray) (n : Int) (w : World) (hP : P < w.heap.size) (hp : w.cell? ⟨P, 0, none⟩ = some (.string x)) :
    Calls Tryd.prog 49 #[.agg #[.string s, .int .i64 n], .pointer (some ⟨P, 0, none⟩)] w fun e w' => e = .returned (.bool (decide (s = x))) ∧ Below w.heap.size w w' := by
  have hv := (Var.made w #[.string s, .int .i64 n] 32).cell 0
  have hv1 := (Var.made w #[.string s, .int .i64 n] 32).cell 1
  simp at hv hv1
  have hc : (w.alloc (.cells #[.string s, .int .i64 n] 32)).cell? ⟨P, 0, none⟩ = some (.string x) := ((below1 w _).cell hP).trans hp
  have hm := Tryd.methName s n
  have hbA := below1 w (.cells #[.string s, .int .i64 n] 32)
  have hP1 : P < (w.alloc (.cells #[.string s, .int .i64 n] 32)).heap.size := by have := hbA.size; omega
  go_enter Tryd.func49, Tryd.ntmps49
  go_wp2
  go_region_with (go_at_call 79; refine (entNameW s n _).mono ?_; rintro e w2 ⟨rfl, hb2⟩; have hd : w2.cell? ⟨P, 0, none⟩ = some (.string x) := (hb2.cell (by exact hP1)).trans hc)
  all_goals
    have hb3 : Below w.heap.size w w2 := hbA.drew.trans (hb2.mono (by exact hbA.size))
    go_wp2
    go_ret
    refine ⟨?_, hb3⟩
    rw [← strEq]
    rfl

set_option maxRecDepth 20000 in
set_option maxHeartbeats 1000000 in
theorem withC (P : Nat) (x : ByteArray) (m : Int) (s : ByteArray) (n : Int) (w : World) (hP : P < w.heap.size) (hp0 : w.cell? ⟨P, 0, none⟩ = some (.string x)) (hp1 : w.cell? ⟨P, 1, none⟩ = some (.int .i64 m)) :
    Calls Tryd.prog 44 #[.agg #[.string s, .int .i64 n], .pointer (some ⟨P, 0, none⟩)] w fun e w' => e = .returned (.bool (ltB x s)) ∧ Below w.heap.size w w' := by
  have hv := Var.made w #[.string s, .int .i64 n] 32
  have hbA := below1 w (.cells #[.string s, .int .i64 n] 32)
  have hc0 : (w.alloc (.cells #[.string s, .int .i64 n] 32)).cell? ⟨P, 0, none⟩ = some (.string x) := (hbA.cell hP).trans hp0
  have hc1 : (w.alloc (.cells #[.string s, .int .i64 n] 32)).cell? ⟨P, 1, none⟩ = some (.int .i64 m) := (hbA.cell hP).trans hp1
  have HN : Hid (∀ y k W, Below (w.heap.size + 1) (w.alloc (.cells #[.string s, .int .i64 n] 32)) W → Calls Tryd.prog 79 #[.agg #[.string y, .int .i64 k]] W fun e w' => e = .returned (.string y) ∧ Below (w.heap.size + 1) (w.alloc (.cells #[.string s, .int .i64 n] 32)) w' ∧ w'.cell? ⟨P, 0, none⟩ = some (.string x) ∧ w'.cell? ⟨P, 1, none⟩ = some (.int .i64 m) ∧ w'.cell? ⟨w.heap.size, 0, none⟩ = some (.string s) ∧ w'.cell? ⟨w.heap.size, 1, none⟩ = some (.int .i64 n)) := by
    intro y k W h
    refine (entNameW y k W).mono ?_
    rintro e w' ⟨rfl, hb⟩
    have hz : w.heap.size + 1 ≤ W.heap.size := by have := h.size; simp at this; omega
    have h2 := h.trans (hb.mono hz)
    refine ⟨rfl, h2, (h2.cell (by show P < _; omega)).trans hc0, (h2.cell (by show P < _; omega)).trans hc1, (h2.cell (by show _ < _; simp)).trans (hv.cell 0), (h2.cell (by show _ < _; simp)).trans (hv.cell 1)⟩
  have HB0 : Hid (Below (w.heap.size + 1) (w.alloc (.cells #[.string s, .int .i64 n] 32)) (w.alloc (.cells #[.string s, .int .i64 n] 32)).drew) := (Below.refl _ _).drew
  have HBE : Hid (∀ W, Below (w.heap.size + 1) (w.alloc (.cells #[.string s, .int .i64 n] 32)) W → Below w.heap.size w W) := fun W h => hbA.trans (h.mono (by omega))
  have HLT : Hid (ltB x s = Op.bytesLess x.toList s.toList) := rfl
  have hm := Tryd.methName s n
  have hm2 := Tryd.methName x m
  clear hv hbA
  go_enter Tryd.func44, Tryd.ntmps44
  go_wp2
  go_region_with (go_at_call 79; (first
    | (refine (HN.out x m _ hb2).mono ?_; rintro e w3 ⟨rfl, hb3, d0, d1, d2, d3⟩)
    | (refine (HN.out s n _ hb2).mono ?_; rintro e w3 ⟨rfl, hb3, d0, d1, d2, d3⟩)
    | (refine (HN.out x m _ HB0.out).mono ?_; rintro e w2 ⟨rfl, hb2, d0, d1, d2, d3⟩)
    | (refine (HN.out s n _ HB0.out).mono ?_; rintro e w2 ⟨rfl, hb2, d0, d1, d2, d3⟩)))
  all_goals
    have hb4 := HBE.out _ hb3
    clear hb2 hb3
    go_wp2
    go_ret
    exact ⟨by rw [HLT.out]; rfl, hb4⟩

/-- The first entry for which the closure says yes. -/
def idxF (l : List EntD) (p : EntD → Bool) : Int := if l.findIdx p < l.length then (l.findIdx p : Nat) else -1
theorem idxF_at {l : List EntD} {p : EntD → Bool} {k : Nat} (hk : k < l.length) (h0 : p l[k] = true) (h : ∀ j (hj : j < l.length), j < k → p l[j] = false) : idxF l p = k := by
  have e : l.findIdx p = k := by
    rw [List.findIdx_eq hk]
    exact ⟨h0, fun j hj => h j (by omega) hj⟩
  unfold idxF
  rw [e, if_pos hk]
theorem idxF_none {l : List EntD} {p : EntD → Bool} (h : ∀ j (hj : j < l.length), p l[j] = false) : idxF l p = -1 := by
  unfold idxF
  rw [if_neg]
  intro hlt
  have := List.findIdx_getElem (p := p) (xs := l) (w := hlt)
  rw [h _ hlt] at this
  cases this

set_option maxRecDepth 20000 in
set_option maxHeartbeats 1000000 in
theorem indexFind (C : Value) (p : EntD → Bool) (a : Option Addr) (c : Nat) (l : List EntD) (w : World) (hl : l.length ≤ 4194304) (hr : RdF encN 2 w a l)
    (HC : Hid (∀ s n W, Below w.heap.size w W → Calls Tryd.prog 49 #[.agg #[.string s, .int .i64 n], C] W fun e w' => e = .returned (.bool (p (s, n))) ∧ Below W.heap.size W w')) :
    Calls Tryd.prog 43 #[.slice a l.length c, .func (.func 49) #[] #[C]] w fun e w' => e = .returned (.int .i64 (idxF l p)) ∧ Below w.heap.size w w' := by
  have HCS : Hid (∀ k (hk : k < l.length), ∃ b off, a = some ⟨b, off, none⟩ ∧ b < w.heap.size ∧ ∀ j, j < 2 → w.cell? ⟨b, off + k * 2 + j, none⟩ = (encN l[k])[j]?) := fun k hk => hr.at k hk
  have HAT : Hid (∀ k (hk : k < l.length), p l[k] = true → (∀ j (hj : j < l.length), j < k → p l[j] = false) → idxF l p = (k : Int)) := fun k hk h0 h => idxF_at hk h0 h
  have HNO : Hid ((∀ j (hj : j < l.length), p l[j] = false) → idxF l p = -1) := fun h => idxF_none h
  clear hr
  go_enter Tryd.func43, Tryd.ntmps43
  go_wp2
  go_loopw [8] (fun i wr => ∃ k : Nat, k ≤ l.length ∧ i = .int .i64 k ∧ Hid (∀ j (hj : j < l.length), j < k → p l[j] = false) ∧ Below w.heap.size w wr) (fun i _ => l.length - (intOf i).toNat)
  case atStart => exact ⟨0, Nat.zero_le _, rfl, fun j _ h => by omega, Below.refl _ _⟩
  case round =>
    obtain ⟨k, hk, rfl, HL, hB⟩ := hrel
    by_cases hlt : k < l.length
    · obtain ⟨b, off, rfl, hblt, hcell⟩ := HCS.out k hlt
      have hc0 : wr.cell? ⟨b, off + k * 2, none⟩ = some (.string l[k].1) := (hB.cell hblt).trans (hcell 0 (by omega))
      have hc1 : wr.cell? ⟨b, off + k * 2 + 1, none⟩ = some (.int .i64 l[k].2) := (hB.cell hblt).trans (hcell 1 (by omega))
      clear hcell
      by_cases h0 : p l[k] = true
      · have HF : Hid (idxF l p = (k : Int)) := HAT.out k hlt h0 HL.out
        have HK : Hid (p (l[k].1, l[k].2) = true) := h0
        clear h0
        generalize (l[k]).1 = s at *
        generalize (l[k]).2 = n at *
        go_wp2_with fail
        refine (HC.out s n _ hB).mono ?_
        rintro e w1 ⟨rfl, hb1⟩
        have hB1 := hB.trans (hb1.mono hB.size)
        rw [HK.out]
        go_wp2
        go_ret
        exact ⟨by rw [HF.out]; rfl, hB1⟩
      · have HL2 : Hid (∀ j (hj : j < l.length), j < k + 1 → p l[j] = false) := fun j hj hjk => by
          by_cases e : j = k
          · subst e; simpa using h0
          · exact HL.out j hj (by omega)
        have HK : Hid (p (l[k].1, l[k].2) = false) := by show _ = _; simpa using h0
        clear h0 HL
        generalize (l[k]).1 = s at *
        generalize (l[k]).2 = n at *
        go_wp2_with fail
        refine (HC.out s n _ hB).mono ?_
        rintro e w1 ⟨rfl, hb1⟩
        have hB1 := hB.trans (hb1.mono hB.size)
        rw [HK.out]
        go_wp2
        go_roundw
        case rel => exact ⟨k + 1, by omega, by go_num, HL2, hB1⟩
        case measure => simp [intOf]; omega
    · obtain rfl : k = l.length := by omega
      have HF : Hid (idxF l p = -1) := HNO.out fun j hj => HL.out j hj hj
      go_wp2
      go_ret
      exact ⟨by rw [HF.out]; rfl, hB⟩
set_option maxRecDepth 20000 in
set_option maxHeartbeats 1000000 in
theorem indexWith (C : Value) (p : EntD → Bool) (a : Option Addr) (c : Nat) (l : List EntD) (w : World) (hl : l.length ≤ 4194304) (hr : RdF encN 2 w a l)
    (HC : Hid (∀ s n W, Below w.heap.size w W → Calls Tryd.prog 44 #[.agg #[.string s, .int .i64 n], C] W fun e w' => e = .returned (.bool (p (s, n))) ∧ Below W.heap.size W w')) :
    Calls Tryd.prog 43 #[.slice a l.length c, .func (.func 44) #[] #[C]] w fun e w' => e = .returned (.int .i64 (idxF l p)) ∧ Below w.heap.size w w' := by
  have HCS : Hid (∀ k (hk : k < l.length), ∃ b off, a = some ⟨b, off, none⟩ ∧ b < w.heap.size ∧ ∀ j, j < 2 → w.cell? ⟨b, off + k * 2 + j, none⟩ = (encN l[k])[j]?) := fun k hk => hr.at k hk
  have HAT : Hid (∀ k (hk : k < l.length), p l[k] = true → (∀ j (hj : j < l.length), j < k → p l[j] = false) → idxF l p = (k : Int)) := fun k hk h0 h => idxF_at hk h0 h
  have HNO : Hid ((∀ j (hj : j < l.length), p l[j] = false) → idxF l p = -1) := fun h => idxF_none h
  clear hr
  go_enter Tryd.func43, Tryd.ntmps43
  go_wp2
  go_loopw [8] (fun i wr => ∃ k : Nat, k ≤ l.length ∧ i = .int .i64 k ∧ Hid (∀ j (hj : j < l.length), j < k → p l[j] = false) ∧ Below w.heap.size w wr) (fun i _ => l.length - (intOf i).toNat)
  case atStart => exact ⟨0, Nat.zero_le _, rfl, fun j _ h => by omega, Below.refl _ _⟩
  case round =>
    obtain ⟨k, hk, rfl, HL, hB⟩ := hrel
    by_cases hlt : k < l.length
    · obtain ⟨b, off, rfl, hblt, hcell⟩ := HCS.out k hlt
      have hc0 : wr.cell? ⟨b, off + k * 2, none⟩ = some (.string l[k].1) := (hB.cell hblt).trans (hcell 0 (by omega))
      have hc1 : wr.cell? ⟨b, off + k * 2 + 1, none⟩ = some (.int .i64 l[k].2) := (hB.cell hblt).trans (hcell 1 (by omega))
      clear hcell
      by_cases h0 : p l[k] = true
      · have HF : Hid (idxF l p = (k : Int)) := HAT.out k hlt h0 HL.out
        have HK : Hid (p (l[k].1, l[k].2) = true) := h0
        clear h0
        generalize (l[k]).1 = s at *
        generalize (l[k]).2 = n at *
        go_wp2_with fail
        refine (HC.out s n _ hB).mono ?_
        rintro e w1 ⟨rfl, hb1⟩
        have hB1 := hB.trans (hb1.mono hB.size)
        rw [HK.out]
        go_wp2
        go_ret
        exact ⟨by rw [HF.out]; rfl, hB1⟩
      · have HL2 : Hid (∀ j (hj : j < l.length), j < k + 1 → p l[j] = false) := fun j hj hjk => by
          by_cases e : j = k
          · subst e; simpa using h0
          · exact HL.out j hj (by omega)
        have HK : Hid (p (l[k].1, l[k].2) = false) := by show _ = _; simpa using h0
        clear h0 HL
        generalize (l[k]).1 = s at *
        generalize (l[k]).2 = n at *
        go_wp2_with fail
        refine (HC.out s n _ hB).mono ?_
        rintro e w1 ⟨rfl, hb1⟩
        have hB1 := hB.trans (hb1.mono hB.size)
        rw [HK.out]
        go_wp2
        go_roundw
        case rel => exact ⟨k + 1, by omega, by go_num, HL2, hB1⟩
        case measure => simp [intOf]; omega
    · obtain rfl : k = l.length := by omega
      have HF : Hid (idxF l p = -1) := HNO.out fun j hj => HL.out j hj hj
      go_wp2
      go_ret
      exact ⟨by rw [HF.out]; rfl, hB⟩
end Go.Proofs.YtogpgocldgdeaaaDoor
