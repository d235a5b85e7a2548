/-
  Own text: whether names stand in order, whether nodes are right and no two alike, by the program.
-/
import Derived.Test.YthfgfhbinggpfaaDoorSEokW
import Derived.Test.YthfgfhbinggpfaaDoorBunZN
namespace Go.Proofs.YthfgfhbinggpfaaDoor
open Go.RowKit

/-- The names up to place i are in order. -/
def OrdP (l : List EntD) (i : Nat) : Prop := ∀ k (hk : k < l.length), k < i → 0 < k → ∀ (h : k - 1 < l.length), ltB (l[k - 1]).1 (l[k]).1 = true
noncomputable def ordOk (l : List EntD) : Bool := @decide (OrdP l l.length) (Classical.propDecidable _)
theorem ordOk_yes {l : List EntD} (h : OrdP l l.length) : ordOk l = true := by unfold ordOk; exact @decide_eq_true _ (Classical.propDecidable _) h
theorem ordOk_no {l : List EntD} (h : ¬ OrdP l l.length) : ordOk l = false := by unfold ordOk; exact @decide_eq_false _ (Classical.propDecidable _) h
def NdsP (l : List EntD) (i : Nat) : Prop := ∀ k (hk : k < l.length), k < i → (1 ≤ (l[k]).2 ∧ (l[k]).2 ≤ 9) ∧ ∀ j (hj : j < l.length), j < k → (l[j]).2 ≠ (l[k]).2
noncomputable def ndsOk (l : List EntD) : Bool := @decide (NdsP l l.length) (Classical.propDecidable _)
theorem ndsOk_yes {l : List EntD} (h : NdsP l l.length) : ndsOk l = true := by unfold ndsOk; exact @decide_eq_true _ (Classical.propDecidable _) h
theorem ndsOk_no {l : List EntD} (h : ¬ NdsP l l.length) : ndsOk l = false := by unfold ndsOk; exact @decide_eq_false _ (Classical.propDecidable _) h

set_option maxRecDepth 20000 in
set_option maxHeartbeats 2000000 in
theorem implInOrder (a : Option Addr) (c : Nat) (l : List EntD) (w : World) (hl : l.length ≤ 4194304) (hr : RdF encN 2 w a l) :
    Calls Tryd.prog 94 #[.slice a l.length c] w fun e w' => e = .returned (.bool (ordOk l)) ∧ Below w.heap.size w w' := by
  have HCS : Hid (∀ k (hk : k < l.length), ∃ b off, a = some ⟨b, off, none⟩ ∧ b < w.heap.size ∧ ∀ j, j < 2 → w.cell? ⟨b, off + k * 2 + j, none⟩ = (encN l[k])[j]?) := fun k hk => hr.at k hk
  have HYES : Hid (OrdP l l.length → ordOk l = true) := ordOk_yes
  have HNO : Hid (∀ k (hk : k < l.length) (h : k - 1 < l.length), 0 < k → ltB (l[k - 1]).1 (l[k]).1 = false → ordOk l = false) := fun k hk h h0 hf => ordOk_no fun hp => by have := hp k hk hk h0 h; rw [hf] at this; cases this
  clear hr
  go_enter Tryd.func94, Tryd.ntmps94
  go_wp2
  go_loopw [3] (fun i wr => ∃ k : Nat, 0 < k ∧ i = .int .i64 k ∧ (k ≤ l.length ∨ k = 1) ∧ Hid (OrdP l k) ∧ Below w.heap.size w wr) (fun i _ => l.length - (intOf i).toNat)
  case atStart => exact ⟨1, by omega, rfl, .inr rfl, fun k _ h1 h2 => by omega, Below.refl _ _⟩
  case round =>
    obtain ⟨k, hk0, rfl, hkl, HP, hB⟩ := hrel
    by_cases hlt : k < l.length
    · have hm : k - 1 < l.length := by omega
      obtain ⟨b, off, rfl, hblt, hcell⟩ := HCS.out k hlt
      obtain ⟨b', off', hbo, _, hcellp⟩ := HCS.out (k - 1) hm
      injection hbo with hbo
      injection hbo with e1 e2 _
      subst e1 e2
      have hcs : Hid (∀ W, Below w.heap.size w W → W.cell? ⟨b, off + k * 2, none⟩ = some (.string l[k].1) ∧ W.cell? ⟨b, off + k * 2 + 1, none⟩ = some (.int .i64 l[k].2) ∧ W.cell? ⟨b, off + (k - 1) * 2, none⟩ = some (.string l[k - 1].1) ∧ W.cell? ⟨b, off + (k - 1) * 2 + 1, none⟩ = some (.int .i64 l[k - 1].2)) := fun W h => ⟨(h.cell hblt).trans (hcell 0 (by omega)), (h.cell hblt).trans (hcell 1 (by omega)), (h.cell hblt).trans (hcellp 0 (by omega)), (h.cell hblt).trans (hcellp 1 (by omega))⟩
      have hkI : (0 : Int) < (k : Int) := by omega
      have hkT : ((k : Int) - 1).toNat = k - 1 := by omega
      have hkW : IntKind.i64.wrap ((k : Int) - 1) = (k : Int) - 1 := by rw [IntKind.wrap_i64]; omega
      have hkA : (0 : Int) ≤ (k : Int) - 1 := by omega
      have hkB : (k : Int) - 1 < (l.length : Int) := by omega
      have HNX : Hid (ltB l[k - 1].1 l[k].1 = true → OrdP l (k + 1)) := fun h i hi hik h0 hi2 => by
        by_cases e : i = k
        · subst e; exact h
        · exact HP.out i hi (by omega) h0 hi2
      have HBAD : Hid (ltB l[k - 1].1 l[k].1 = false → ordOk l = false) := fun h => HNO.out k hlt hm hk0 h
      obtain ⟨q, hq⟩ : ∃ q, ltB l[k - 1].1 l[k].1 = q := ⟨_, rfl⟩
      have hqq : Op.bytesLess (l[k - 1]).1.toList (l[k]).1.toList = q := hq
      rw [hq] at HNX HBAD
      clear hcell hcellp hq HP
      generalize (l[k]).1 = s1 at *
      generalize (l[k]).2 = n1 at *
      generalize (l[k - 1]).1 = s0 at *
      generalize (l[k - 1]).2 = n0 at *
      have hmm1 := Tryd.methName s1 n1
      have hmm0 := Tryd.methName s0 n0
      have HN : Hid (∀ y k' W, Below w.heap.size w W → Calls Tryd.prog 123 #[.agg #[.string y, .int .i64 k']] W fun e w' => e = .returned (.string y) ∧ Below w.heap.size w w' ∧ w'.cell? ⟨b, off + k * 2, none⟩ = some (.string s1) ∧ w'.cell? ⟨b, off + k * 2 + 1, none⟩ = some (.int .i64 n1) ∧ w'.cell? ⟨b, off + (k - 1) * 2, none⟩ = some (.string s0) ∧ w'.cell? ⟨b, off + (k - 1) * 2 + 1, none⟩ = some (.int .i64 n0)) := by
        intro y k' W h
        refine (entNameW y k' W).mono ?_
        rintro e w' ⟨rfl, hb⟩
        have h2 := h.trans (hb.mono h.size)
        exact ⟨rfl, h2, hcs.out _ h2⟩
      obtain ⟨d0, d1, d2, d3⟩ := hcs.out wr hB
      have HB0 : Hid (Below w.heap.size w wr.drew) := hB.drew
      clear hcs
      by_cases hqt : q = true
      · subst hqt
        have HNX2 := HNX.out rfl
        have HNX3 : Hid (OrdP l (k + 1)) := HNX2
        clear HNX2 HNX HBAD
        go_wp2
        go_region_with (go_at_call 123; (first
          | (refine (HN.out s0 n0 _ hb2).mono ?_; rintro e w3 ⟨rfl, hb3, d0, d1, d2, d3⟩)
          | (refine (HN.out s1 n1 _ hb2).mono ?_; rintro e w3 ⟨rfl, hb3, d0, d1, d2, d3⟩)
          | (refine (HN.out s0 n0 _ HB0.out).mono ?_; rintro e w2 ⟨rfl, hb2, d0, d1, d2, d3⟩)
          | (refine (HN.out s1 n1 _ HB0.out).mono ?_; rintro e w2 ⟨rfl, hb2, d0, d1, d2, d3⟩)))
        all_goals
          clear hb2
          go_wp2
          go_roundw
          case rel => exact ⟨k + 1, by omega, by go_num, .inl (by omega), HNX3, hb3⟩
          case measure => simp [intOf]; omega
      · obtain rfl : q = false := by simpa using hqt
        have HBAD2 : Hid (ordOk l = false) := HBAD.out rfl
        clear HNX HBAD hqt
        go_wp2
        go_region_with (go_at_call 123; (first
          | (refine (HN.out s0 n0 _ hb2).mono ?_; rintro e w3 ⟨rfl, hb3, d0, d1, d2, d3⟩)
          | (refine (HN.out s1 n1 _ hb2).mono ?_; rintro e w3 ⟨rfl, hb3, d0, d1, d2, d3⟩)
          | (refine (HN.out s0 n0 _ HB0.out).mono ?_; rintro e w2 ⟨rfl, hb2, d0, d1, d2, d3⟩)
          | (refine (HN.out s1 n1 _ HB0.out).mono ?_; rintro e w2 ⟨rfl, hb2, d0, d1, d2, d3⟩)))
        all_goals
          clear hb2
          go_wp2
          go_ret
          exact ⟨by rw [HBAD2.out]; rfl, hb3⟩
    · have HF : Hid (ordOk l = true) := HYES.out fun i hi hik h0 h => HP.out i hi (by omega) h0 h
      go_wp2
      go_ret
      exact ⟨by rw [HF.out]; rfl, hB⟩

/-- Which numbers are had by one of the entries. -/
def tk (l : List EntD) (x : Nat) : Bool := l.any fun e => e.2 == (x : Int)
def tkV (l : List EntD) : Array Value := ((List.range 10).map fun x => Value.bool (tk l x)).toArray
theorem tkV_at (l : List EntD) {x : Nat} (h : x < 10) : (tkV l)[x]? = some (.bool (tk l x)) := by
  unfold tkV
  simp [h]
theorem tk_app (l : List EntD) (e : EntD) (x : Nat) : tk (l ++ [e]) x = (tk l x || (e.2 == (x : Int))) := by unfold tk; simp
theorem tkV_set (l : List EntD) (e : EntD) {x : Nat} (_ : x < 10) (he : e.2 = (x : Int)) : (tkV l).setIfInBounds x (.bool true) = tkV (l ++ [e]) := by
  unfold tkV
  rw [List.setIfInBounds_toArray]
  congr 1
  apply List.ext_getElem
  · simp
  · intro i h1 h2
    simp at h1 h2
    rw [List.getElem_set]
    simp only [List.getElem_map, List.getElem_range]
    rw [tk_app, he]
    by_cases hi : x = i
    · subst hi; simp
    · rw [if_neg hi]
      have : ((x : Int) == (i : Int)) = false := by simp; omega
      rw [this, Bool.or_false]
theorem tk_take {l : List EntD} {k x : Nat} (hk : k ≤ l.length) : tk (l.take k) x = true ↔ ∃ j, ∃ hj : j < l.length, j < k ∧ (l[j]).2 = (x : Int) := by
  unfold tk
  rw [List.any_eq_true]
  constructor
  · rintro ⟨e, he, hx⟩
    obtain ⟨j, hj, rfl⟩ := List.getElem_of_mem he
    rw [List.length_take] at hj
    refine ⟨j, by omega, by omega, ?_⟩
    rw [List.getElem_take] at hx
    simpa using hx
  · rintro ⟨j, hj, hjk, hx⟩
    refine ⟨l[j], ?_, by simpa using hx⟩
    rw [List.mem_iff_getElem]
    exact ⟨j, by rw [List.length_take]; omega, by rw [List.getElem_take]⟩

set_option maxRecDepth 20000 in
set_option maxHeartbeats 2000000 in
theorem implNodesOk (a : Option Addr) (c : Nat) (l : List EntD) (w : World) (hl : l.length ≤ 4194304) (hr : RdF encN 2 w a l) :
    Calls Tryd.prog 95 #[.slice a l.length c] w fun e w' => e = .returned (.bool (ndsOk l)) ∧ Below w.heap.size w w' := by
  have HCS : Hid (∀ k (hk : k < l.length), ∃ b off, a = some ⟨b, off, none⟩ ∧ b < w.heap.size ∧ ∀ j, j < 2 → w.cell? ⟨b, off + k * 2 + j, none⟩ = (encN l[k])[j]?) := fun k hk => hr.at k hk
  have HYES : Hid (NdsP l l.length → ndsOk l = true) := ndsOk_yes
  have HLO : Hid (∀ k (hk : k < l.length), ¬ (1 ≤ (l[k]).2 ∧ (l[k]).2 ≤ 9) → ndsOk l = false) := fun k hk h => ndsOk_no fun hp => h (hp k hk hk).1
  have HDB : Hid (∀ k (hk : k < l.length) (x : Nat), (l[k]).2 = (x : Int) → tk (l.take k) x = true → ndsOk l = false) := fun k hk x hx h => ndsOk_no fun hp => by
    obtain ⟨j, hj, hjk, hj2⟩ := (tk_take (by omega)).1 h
    exact (hp k hk hk).2 j hj hjk (hj2.trans hx.symm)
  have HNX : Hid (∀ k (hk : k < l.length) (x : Nat), (l[k]).2 = (x : Int) → 1 ≤ x → x ≤ 9 → tk (l.take k) x = false → NdsP l k → NdsP l (k + 1)) := by
    intro k hk x hx h1 h9 h hp i hi hik
    by_cases e : i = k
    · subst e
      refine ⟨by omega, fun j hj hji he => ?_⟩
      have : tk (l.take i) x = true := (tk_take (by omega)).2 ⟨j, hj, hji, he.trans hx⟩
      rw [h] at this
      cases this
    · exact hp i hi (by omega)
  have HTK : Hid (∀ k (hk : k < l.length), l.take (k + 1) = l.take k ++ [l[k]]) := fun k hk => List.take_succ_eq_append_getElem hk
  have HV0 : Hid (Var (w.alloc (.cells #[.bool false, .bool false, .bool false, .bool false, .bool false, .bool false, .bool false, .bool false, .bool false, .bool false] 48)) w.heap.size (tkV (l.take 0)) 48) := Var.made _ _ _
  have hb0 := below1 w (.cells #[.bool false, .bool false, .bool false, .bool false, .bool false, .bool false, .bool false, .bool false, .bool false, .bool false] 48)
  clear hr
  go_enter Tryd.func95, Tryd.ntmps95
  go_wp2
  go_loopw [8] (fun i wr => ∃ k : Nat, k ≤ l.length ∧ i = .int .i64 k ∧ Hid (NdsP l k) ∧ Hid (Var wr w.heap.size (tkV (l.take k)) 48) ∧ Below w.heap.size w wr) (fun i _ => l.length - (intOf i).toNat)
  case atStart => exact ⟨0, Nat.zero_le _, rfl, (fun k _ h => by omega), HV0, hb0⟩
  case round =>
    clear HV0 hb0
    obtain ⟨k, hk, rfl, HP, HV, hB⟩ := hrel
    by_cases hlt : k < l.length
    · obtain ⟨b, off, rfl, hblt, hcell⟩ := HCS.out k hlt
      have hc0 : wr.cell? ⟨b, off + k * 2, none⟩ = some (.string l[k].1) := (hB.cell hblt).trans (hcell 0 (by omega))
      have hc1 : wr.cell? ⟨b, off + k * 2 + 1, none⟩ = some (.int .i64 l[k].2) := (hB.cell hblt).trans (hcell 1 (by omega))
      have hB2 : Below w.heap.size w (wr.alloc (.cells #[.string l[k].1, .int .i64 l[k].2] 74)) := hB.alloc hB.size _
      by_cases hr : 1 ≤ (l[k]).2 ∧ (l[k]).2 ≤ 9
      · obtain ⟨x, hx⟩ : ∃ x : Nat, (l[k]).2 = (x : Int) := ⟨(l[k]).2.toNat, by omega⟩
        have hx1 : 1 ≤ x := by omega
        have hx9 : x ≤ 9 := by omega
        have HVA : Hid (Var (wr.alloc (.cells #[.string l[k].1, .int .i64 l[k].2] 74)) w.heap.size (tkV (l.take k)) 48) := HV.out.alloc _
        have hfr := HVA.out.frozen x
        have hct := (HVA.out.cell x).trans (tkV_at (l.take k) (x := x) (by omega))
        have h1 := HDB.out k hlt x hx
        have h2 := HNX.out k hlt x hx hx1 hx9
        have h3 : Hid (Var ((wr.alloc (.cells #[.string l[k].1, .int .i64 l[k].2] 74)).setCell ⟨w.heap.size, x, none⟩ (.bool true)) w.heap.size (tkV (l.take (k + 1))) 48) := by
          have := HVA.out.set x (.bool true)
          rw [tkV_set (l.take k) l[k] (by omega) hx, ← HTK.out k hlt] at this
          exact this
        have hb3 : Below w.heap.size w ((wr.alloc (.cells #[.string l[k].1, .int .i64 l[k].2] 74)).setCell ⟨w.heap.size, x, none⟩ (.bool true)) := hB2.setCell (Nat.le_refl _) _
        cases htk : tk (l.take k) x with
        | true =>
          have HE : Hid (ndsOk l = false) := h1 htk
          rw [htk] at hct
          rw [hx] at hc1 hct hB2
          clear h1 h2 h3 hb3 htk hcell HV HVA HP hfr hr hx
          generalize (l[k]).1 = s at *
          go_wp2
          go_ret
          exact ⟨by rw [HE.out]; rfl, hB2⟩
        | false =>
          have HE : Hid (NdsP l (k + 1)) := h2 htk HP.out
          rw [htk] at hct
          rw [hx] at hc1 hct h3 hfr hb3
          clear h1 h2 htk hcell HV HVA HP hr hx hB2
          generalize (l[k]).1 = s at *
          go_wp2
          go_roundw
          case rel => exact ⟨k + 1, by omega, by go_num, HE, h3, hb3⟩
          case measure => simp [intOf]; omega
      · have HE : Hid (ndsOk l = false) := HLO.out k hlt hr
        by_cases hlo : (l[k]).2 ≤ 0
        · clear hr hcell HV HP
          generalize (l[k]).1 = s at *
          generalize (l[k]).2 = n at *
          go_wp2
          go_ret
          exact ⟨by rw [HE.out]; rfl, hB2⟩
        · have hhi : 10 ≤ (l[k]).2 := by omega
          clear hr hcell HV HP
          generalize (l[k]).1 = s at *
          generalize (l[k]).2 = n at *
          go_wp2
          go_ret
          exact ⟨by rw [HE.out]; rfl, hB2⟩
    · obtain rfl : k = l.length := by omega
      have HF : Hid (ndsOk l = true) := HYES.out HP.out
      go_wp2
      go_ret
      exact ⟨by rw [HF.out]; rfl, hB⟩
end Go.Proofs.YthfgfhbinggpfaaDoor
