/-
  Own texts, several together.
-/
import Derived.Test.YtogpgocldgdeaaaDoorSEokW
import Derived.Test.YtogpgocldgdeaaaDoorIEntW
import Derived.Test.YtogpgocldgdeaaaDoorBunP
/-
  Own text: whether names stand in order, whether nodes are right and no two alike, by the program.
-/
namespace Go.Proofs.YtogpgocldgdeaaaDoor
open Go.RowKit

/-- The names up to place i are in order. -/
def OrdP (l : List EntD) (i : Nat) : Prop := ∀ k (hk : k < l.length), k < i → 0 < k → ∀ (h : k - 1 < l.length), ltB (l[k - 1]).1 (l[k]).1 = true
noncomputable def ordOk (l : List EntD) : Bool := @decide (OrdP l l.length) (Classical.propDecidable _)
theorem ordOk_yes {l : List EntD} (h : OrdP l l.length) : ordOk l = true := by unfold ordOk; exact @decide_eq_true _ (Classical.propDecidable _) h
theorem ordOk_no {l : List EntD} (h : ¬ OrdP l l.length) : ordOk l = false := by unfold ordOk; exact @decide_eq_false _ (Classical.propDecidable _) h
def NdsP (l : List EntD) (i : Nat) : Prop := ∀ k (hk : k < l.length), k < i → (1 ≤ (l[k]).2 ∧ (l[k]).2 ≤ 9) ∧ ∀ j (hj : j < l.length), j < k → (l[j]).2 ≠ (l[k]).2
noncomputable def ndsOk (l : List EntD) : Bool := @decide (NdsP l l.length) (Classical.propDecidable _)
theorem ndsOk_yes {l : List EntD} (h : NdsP l l.length) : ndsOk l = true := by unfold ndsOk; exact @decide_eq_true _ (Classical.propDecidable _) h
theorem ndsOk_no {l : List EntD} (h : ¬ NdsP l l.length) : ndsOk l = false := by unfold ndsOk; exact @decide_eq_false _ (Classical.propDecidable _) h

set_option maxRecDepth 20000 in
set_option maxHeartbeats 2000000 in
theorem implInOrder (a : Option Addr) (c : Nat) (l : List EntD) (w : World) (hl : l.length ≤ 4194304) (hr : RdF encN 2 w a l) :
    Calls Tryd.prog 29 #[.slice a l.length c] w fun e w' => e = .returned (.bool (ordOk l)) ∧ Below w.heap.size w w' := by
  have HCS : Hid (∀ k (hk : k < l.length), ∃ b off, a = some ⟨b, off, none⟩ ∧ b < w.heap.size ∧ ∀ j, j < 2 → w.cell? ⟨b, off + k * 2 + j, none⟩ = (encN l[k])[j]?) := fun k hk => hr.at k hk
  have HYES : Hid (OrdP l l.length → ordOk l = true) := ordOk_yes
  have HNO : Hid (∀ k (hk : k < l.length) (h : k - 1 < l.length), 0 < k → ltB (l[k - 1]).1 (l[k]).1 = false → ordOk l = false) := fun k hk h h0 hf => ordOk_no fun hp => by have := hp k hk hk h0 h; rw [hf] at this; cases this
  clear hr
  go_enter Tryd.func29, Tryd.ntmps29
  go_wp2
  go_loopw [3] (fun i wr => ∃ k : Nat, 0 < k ∧ i = .int .i64 k ∧ (k ≤ l.length ∨ k = 1) ∧ Hid (OrdP l k) ∧ Below w.heap.size w wr) (fun i _ => l.length - (intOf i).toNat)
  case atStart => exact ⟨1, by omega, rfl, .inr rfl, fun k _ h1 h2 => by omega, Below.refl _ _⟩
  case round =>
    obtain ⟨k, hk0, rfl, hkl, HP, hB⟩ := hrel
    by_cases hlt : k < l.length
    · have hm : k - 1 < l.length := by omega
      obtain ⟨b, off, rfl, hblt, hcell⟩ := HCS.out k hlt
      obtain ⟨b', off', hbo, _, hcellp⟩ := HCS.out (k - 1) hm
      injection hbo with hbo
      injection hbo with e1 e2 _
      subst e1 e2
      have hcs : Hid (∀ W, Below w.heap.size w W → W.cell? ⟨b, off + k * 2, none⟩ = some (.string l[k].1) ∧ W.cell? ⟨b, off + k * 2 + 1, none⟩ = some (.int .i64 l[k].2) ∧ W.cell? ⟨b, off + (k - 1) * 2, none⟩ = some (.string l[k - 1].1) ∧ W.cell? ⟨b, off + (k - 1) * 2 + 1, none⟩ = some (.int .i64 l[k - 1].2)) := fun W h => ⟨(h.cell hblt).trans (hcell 0 (by omega)), (h.cell hblt).trans (hcell 1 (by omega)), (h.cell hblt).trans (hcellp 0 (by omega)), (h.cell hblt).trans (hcellp 1 (by omega))⟩
      have hkI : (0 : Int) < (k : Int) := by omega
      have hkT : ((k : Int) - 1).toNat = k - 1 := by omega
      have hkW : IntKind.i64.wrap ((k : Int) - 1) = (k : Int) - 1 := by rw [IntKind.wrap_i64]; omega
      have hkA : (0 : Int) ≤ (k : Int) - 1 := by omega
      have hkB : (k : Int) - 1 < (l.length : Int) := by omega
      have HNX : Hid (ltB l[k - 1].1 l[k].1 = true → OrdP l (k + 1)) := fun h i hi hik h0 hi2 => by
        by_cases e : i = k
        · subst e; exact h
        · exact HP.out i hi (by omega) h0 hi2
      have HBAD : Hid (ltB l[k - 1].1 l[k].1 = false → ordOk l = false) := fun h => HNO.out k hlt hm hk0 h
      obtain ⟨q, hq⟩ : ∃ q, ltB l[k - 1].1 l[k].1 = q := ⟨_, rfl⟩
      have hqq : Op.bytesLess (l[k - 1]).1.toList (l[k]).1.toList = q := hq
      rw [hq] at HNX HBAD
      clear hcell hcellp hq HP
      generalize (l[k]).1 = s1 at *
      generalize (l[k]).2 = n1 at *
      generalize (l[k - 1]).1 = s0 at *
      generalize (l[k - 1]).2 = n0 at *
      have hmm1 := Tryd.methName s1 n1
      have hmm0 := Tryd.methName s0 n0
      have HN : Hid (∀ y k' W, Below w.heap.size w W → Calls Tryd.prog 79 #[.agg #[.string y, .int .i64 k']] W fun e w' => e = .returned (.string y) ∧ Below w.heap.size w w' ∧ w'.cell? ⟨b, off + k * 2, none⟩ = some (.string s1) ∧ w'.cell? ⟨b, off + k * 2 + 1, none⟩ = some (.int .i64 n1) ∧ w'.cell? ⟨b, off + (k - 1) * 2, none⟩ = some (.string s0) ∧ w'.cell? ⟨b, off + (k - 1) * 2 + 1, none⟩ = some (.int .i64 n0)) := by
        intro y k' W h
        refine (entNameW y k' W).mono ?_
        rintro e w' ⟨rfl, hb⟩
        have h2 := h.trans (hb.mono h.size)
        exact ⟨rfl, h2, hcs.out _ h2⟩
      obtain ⟨d0, d1, d2, d3⟩ := hcs.out wr hB
      have HB0 : Hid (Below w.heap.size w wr.drew) := hB.drew
      clear hcs
      by_cases hqt : q = true
      · subst hqt
        have HNX2 := HNX.out rfl
        have HNX3 : Hid (OrdP l (k + 1)) := HNX2
        clear HNX2 HNX HBAD
        go_wp2
        go_region_with (go_at_call 79; (first
          | (refine (HN.out s0 n0 _ hb2).mono ?_; rintro e w3 ⟨rfl, hb3, d0, d1, d2, d3⟩)
          | (refine (HN.out s1 n1 _ hb2).mono ?_; rintro e w3 ⟨rfl, hb3, d0, d1, d2, d3⟩)
          | (refine (HN.out s0 n0 _ HB0.out).mono ?_; rintro e w2 ⟨rfl, hb2, d0, d1, d2, d3⟩)
          | (refine (HN.out s1 n1 _ HB0.out).mono ?_; rintro e w2 ⟨rfl, hb2, d0, d1, d2, d3⟩)))
        all_goals
          clear hb2
          go_wp2
          go_roundw
          case rel => exact ⟨k + 1, by omega, by go_num, .inl (by omega), HNX3, hb3⟩
          case measure => simp [intOf]; omega
      · obtain rfl : q = false := by simpa using hqt
        have HBAD2 : Hid (ordOk l = false) := HBAD.out rfl
        clear HNX HBAD hqt
        go_wp2
        go_region_with (go_at_call 79; (first
          | (refine (HN.out s0 n0 _ hb2).mono ?_; rintro e w3 ⟨rfl, hb3, d0, d1, d2, d3⟩)
          | (refine (HN.out s1 n1 _ hb2).mono ?_; rintro e w3 ⟨rfl, hb3, d0, d1, d2, d3⟩)
          | (refine (HN.out s0 n0 _ HB0.out).mono ?_; rintro e w2 ⟨rfl, hb2, d0, d1, d2, d3⟩)
          | (refine (HN.out s1 n1 _ HB0.out).mono ?_; rintro e w2 ⟨rfl, hb2, d0, d1, d2, d3⟩)))
        all_goals
          clear hb2
          go_wp2
          go_ret
          exact ⟨by rw [HBAD2.out]; rfl, hb3⟩
    · have HF : Hid (ordOk l = true) := HYES.out fun i hi hik h0 h => HP.out i hi (by omega) h0 h
      go_wp2
      go_ret
      exact ⟨by rw [HF.out]; rfl, hB⟩

/-- Which numbers are had by one of the entries. -/
def tk (l : List EntD) (x : Nat) : Bool := l.any fun e => e.2 == (x : Int)
def tkV (l : List EntD) : Array Value := ((List.range 10).map fun x => Value.bool (tk l x)).toArray
theorem tkV_at (l : List EntD) {x : Nat} (h : x < 10) : (tkV l)[x]? = some (.bool (tk l x)) := by
  unfold tkV
  simp [h]
theorem tk_app (l : List EntD) (e : EntD) (x : Nat) : tk (l ++ [e]) x = (tk l x || (e.2 == (x : Int))) := by unfold tk; simp
theorem tkV_set (l : List EntD) (e : EntD) {x : Nat} (_ : x < 10) (he : e.2 = (x : Int)) : (tkV l).setIfInBounds x (.bool true) = tkV (l ++ [e]) := by
  unfold tkV
  rw [List.setIfInBounds_toArray]
  congr 1
  apply List.ext_getElem
  · simp
  · intro i h1 h2
    simp at h1 h2
    rw [List.getElem_set]
    simp only [List.getElem_map, List.getElem_range]
    rw [tk_app, he]
    by_cases hi : x = i
    · subst hi; simp
    · rw [if_neg hi]
      have : ((x : Int) == (i : Int)) = false := by simp; omega
      rw [this, Bool.or_false]
theorem tk_take {l : List EntD} {k x : Nat} (hk : k ≤ l.length) : tk (l.take k) x = true ↔ ∃ j, ∃ hj : j < l.length, j < k ∧ (l[j]).2 = (x : Int) := by
  unfold tk
  rw [List.any_eq_true]
  constructor
  · rintro ⟨e, he, hx⟩
    obtain ⟨j, hj, rfl⟩ := List.getElem_of_mem he
    rw [List.length_take] at hj
    refine ⟨j, by omega, by omega, ?_⟩
    rw [List.getElem_take] at hx
    simpa using hx
  · rintro ⟨j, hj, hjk, hx⟩
    refine ⟨l[j], ?_, by simpa using hx⟩
    rw [List.mem_iff_getElem]
    exact ⟨j, by rw [List.length_take]; omega, by rw [List.getElem_take]⟩

set_option maxRecDepth 20000 in
set_option maxHeartbeats 2000000 in
theorem implNodesOk (a : Option Addr) (c : Nat) (l : List EntD) (w : World) (hl : l.length ≤ 4194304) (hr : RdF encN 2 w a l) :
    Calls Tryd.prog 30 #[.slice a l.length c] w fun e w' => e = .returned (.bool (ndsOk l)) ∧ Below w.heap.size w w' := by
  have HCS : Hid (∀ k (hk : k < l.length), ∃ b off, a = some ⟨b, off, none⟩ ∧ b < w.heap.size ∧ ∀ j, j < 2 → w.cell? ⟨b, off + k * 2 + j, none⟩ = (encN l[k])[j]?) := fun k hk => hr.at k hk
  have HYES : Hid (NdsP l l.length → ndsOk l = true) := ndsOk_yes
  have HLO : Hid (∀ k (hk : k < l.length), ¬ (1 ≤ (l[k]).2 ∧ (l[k]).2 ≤ 9) → ndsOk l = false) := fun k hk h => ndsOk_no fun hp => h (hp k hk hk).1
  have HDB : Hid (∀ k (hk : k < l.length) (x : Nat), (l[k]).2 = (x : Int) → tk (l.take k) x = true → ndsOk l = false) := fun k hk x hx h => ndsOk_no fun hp => by
    obtain ⟨j, hj, hjk, hj2⟩ := (tk_take (by omega)).1 h
    exact (hp k hk hk).2 j hj hjk (hj2.trans hx.symm)
  have HNX : Hid (∀ k (hk : k < l.length) (x : Nat), (l[k]).2 = (x : Int) → 1 ≤ x → x ≤ 9 → tk (l.take k) x = false → NdsP l k → NdsP l (k + 1)) := by
    intro k hk x hx h1 h9 h hp i hi hik
    by_cases e : i = k
    · subst e
      refine ⟨by omega, fun j hj hji he => ?_⟩
      have : tk (l.take i) x = true := (tk_take (by omega)).2 ⟨j, hj, hji, he.trans hx⟩
      rw [h] at this
      cases this
    · exact hp i hi (by omega)
  have HTK : Hid (∀ k (hk : k < l.length), l.take (k + 1) = l.take k ++ [l[k]]) := fun k hk => List.take_succ_eq_append_getElem hk
  have HV0 : Hid (Var (w.alloc (.cells #[.bool false, .bool false, .bool false, .bool false, .bool false, .bool false, .bool false, .bool false, .bool false, .bool false] 73)) w.heap.size (tkV (l.take 0)) 73) := Var.made _ _ _
  have hb0 := below1 w (.cells #[.bool false, .bool false, .bool false, .bool false, .bool false, .bool false, .bool false, .bool false, .bool false, .bool false] 73)
  clear hr
  go_enter Tryd.func30, Tryd.ntmps30
  go_wp2
  go_loopw [8] (fun i wr => ∃ k : Nat, k ≤ l.length ∧ i = .int .i64 k ∧ Hid (NdsP l k) ∧ Hid (Var wr w.heap.size (tkV (l.take k)) 73) ∧ Below w.heap.size w wr) (fun i _ => l.length - (intOf i).toNat)
  case atStart => exact ⟨0, Nat.zero_le _, rfl, (fun k _ h => by omega), HV0, hb0⟩
  case round =>
    clear HV0 hb0
    obtain ⟨k, hk, rfl, HP, HV, hB⟩ := hrel
    by_cases hlt : k < l.length
    · obtain ⟨b, off, rfl, hblt, hcell⟩ := HCS.out k hlt
      have hc0 : wr.cell? ⟨b, off + k * 2, none⟩ = some (.string l[k].1) := (hB.cell hblt).trans (hcell 0 (by omega))
      have hc1 : wr.cell? ⟨b, off + k * 2 + 1, none⟩ = some (.int .i64 l[k].2) := (hB.cell hblt).trans (hcell 1 (by omega))
      have hB2 : Below w.heap.size w (wr.alloc (.cells #[.string l[k].1, .int .i64 l[k].2] 32)) := hB.alloc hB.size _
      by_cases hr : 1 ≤ (l[k]).2 ∧ (l[k]).2 ≤ 9
      · obtain ⟨x, hx⟩ : ∃ x : Nat, (l[k]).2 = (x : Int) := ⟨(l[k]).2.toNat, by omega⟩
        have hx1 : 1 ≤ x := by omega
        have hx9 : x ≤ 9 := by omega
        have HVA : Hid (Var (wr.alloc (.cells #[.string l[k].1, .int .i64 l[k].2] 32)) w.heap.size (tkV (l.take k)) 73) := HV.out.alloc _
        have hfr := HVA.out.frozen x
        have hct := (HVA.out.cell x).trans (tkV_at (l.take k) (x := x) (by omega))
        have h1 := HDB.out k hlt x hx
        have h2 := HNX.out k hlt x hx hx1 hx9
        have h3 : Hid (Var ((wr.alloc (.cells #[.string l[k].1, .int .i64 l[k].2] 32)).setCell ⟨w.heap.size, x, none⟩ (.bool true)) w.heap.size (tkV (l.take (k + 1))) 73) := by
          have := HVA.out.set x (.bool true)
          rw [tkV_set (l.take k) l[k] (by omega) hx, ← HTK.out k hlt] at this
          exact this
        have hb3 : Below w.heap.size w ((wr.alloc (.cells #[.string l[k].1, .int .i64 l[k].2] 32)).setCell ⟨w.heap.size, x, none⟩ (.bool true)) := hB2.setCell (Nat.le_refl _) _
        cases htk : tk (l.take k) x with
        | true =>
          have HE : Hid (ndsOk l = false) := h1 htk
          rw [htk] at hct
          rw [hx] at hc1 hct hB2
          clear h1 h2 h3 hb3 htk hcell HV HVA HP hfr hr hx
          generalize (l[k]).1 = s at *
          go_wp2
          go_ret
          exact ⟨by rw [HE.out]; rfl, hB2⟩
        | false =>
          have HE : Hid (NdsP l (k + 1)) := h2 htk HP.out
          rw [htk] at hct
          rw [hx] at hc1 hct h3 hfr hb3
          clear h1 h2 htk hcell HV HVA HP hr hx hB2
          generalize (l[k]).1 = s at *
          go_wp2
          go_roundw
          case rel => exact ⟨k + 1, by omega, by go_num, HE, h3, hb3⟩
          case measure => simp [intOf]; omega
      · have HE : Hid (ndsOk l = false) := HLO.out k hlt hr
        by_cases hlo : (l[k]).2 ≤ 0
        · clear hr hcell HV HP
          generalize (l[k]).1 = s at *
          generalize (l[k]).2 = n at *
          go_wp2
          go_ret
          exact ⟨by rw [HE.out]; rfl, hB2⟩
        · have hhi : 10 ≤ (l[k]).2 := by omega
          clear hr hcell HV HP
          generalize (l[k]).1 = s at *
          generalize (l[k]).2 = n at *
          go_wp2
          go_ret
          exact ⟨by rw [HE.out]; rfl, hB2⟩
    · obtain rfl : k = l.length := by omega
      have HF : Hid (ndsOk l = true) := HYES.out HP.out
      go_wp2
      go_ret
      exact ⟨by rw [HF.out]; rfl, hB⟩
end Go.Proofs.YtogpgocldgdeaaaDoor

/-
  Own text: the text of entries, as the program writes it.
-/
namespace Go.Proofs.YtogpgocldgdeaaaDoor
open Go.RowKit

set_option maxRecDepth 20000 in
set_option maxHeartbeats 2000000 in
theorem implDirText (a : Option Addr) (c : Nat) (l : List EntD) (w : World) (hl : SmE l) (hr : RdF encN 2 w a l) :
    Calls Tryd.prog 13 #[.slice a l.length c] w fun e w' => e = .returned (.string (enTextS l)) ∧ Below w.heap.size w w' := by
  obtain ⟨i0, hi, hz0, hz1, hz2⟩ := info_parts Tryd.infoU8T
  have hll := szEn_len l
  have hl1 := hl.1
  have HCS : Hid (∀ k (hk : k < l.length), ∃ b off, a = some ⟨b, off, none⟩ ∧ b < w.heap.size ∧ ∀ j, j < 2 → w.cell? ⟨b, off + k * 2 + j, none⟩ = (encN l[k])[j]?) := fun k hk => hr.at k hk
  have HLEN : Hid (∀ k, (enText (l.take k)).length ≤ 30000000) := fun k => by have h1 := enText_len (l.take k); have h2 := szEn_takeLe l k; omega
  have HSZ : Hid (∀ e ∈ l, e.1.size ≤ 1048576) := hl.2
  have HO0 : Hid (w.ownsRow w.heap.size 5 1 (.slice none 0 0) (enText (l.take 0)).length ((enText (l.take 0)).map (Value.int .u8))) := World.ownsRow_nil _ _ _ _
  have hb0 : Below w.heap.size w w := Below.refl _ _
  clear hr
  go_enter Tryd.func13, Tryd.ntmps13
  go_wp2
  go_loopw [3, 8] (fun v i wr => ∃ (k : Nat) (v' : Value), v' = v ∧ k ≤ l.length ∧ i = .int .i64 k ∧ Hid (wr.ownsRow w.heap.size 5 1 v' (enText (l.take k)).length ((enText (l.take k)).map (Value.int .u8))) ∧ Below w.heap.size w wr) (fun _ i _ => l.length - (intOf i).toNat)
  case atStart => exact ⟨0, _, rfl, Nat.zero_le _, rfl, HO0, hb0⟩
  case round =>
    clear HO0 hb0
    obtain ⟨k, v', rfl, hk, rfl, HO, hbel⟩ := hrel
    by_cases hlt : k < l.length
    · obtain ⟨b, off, rfl, hblt, hcell⟩ := HCS.out k hlt
      have hc0 : wr.cell? ⟨b, off + k * 2, none⟩ = some (.string l[k].1) := (hbel.cell hblt).trans (hcell 0 (by omega))
      have hc1 : wr.cell? ⟨b, off + k * 2 + 1, none⟩ = some (.int .i64 l[k].2) := (hbel.cell hblt).trans (hcell 1 (by omega))
      have HV : Hid (Var (wr.alloc (.cells #[.string l[k].1, .int .i64 l[k].2] 32)) wr.heap.size #[.string l[k].1, .int .i64 l[k].2] 32) := Var.made _ _ _
      have HBV : Hid (Below w.heap.size w (wr.alloc (.cells #[.string l[k].1, .int .i64 l[k].2] 32))) := hbel.alloc hbel.size _
      have HTK : Hid (enText (l.take (k + 1)) = enText (l.take k) ++ putText (l[k]).1 ++ putNum (l[k]).2) := enText_take hlt
      have hes := HSZ.out _ (List.getElem_mem hlt)
      have hL := HLEN.out k
      have hT5 := putText_len (l[k]).1
      have hN5 := putNum_len (l[k]).2
      clear hcell
      generalize (l[k]).1 = t at *
      generalize (l[k]).2 = n at *
      obtain ⟨B, hB⟩ : ∃ B, enText (l.take k) = B := ⟨_, rfl⟩
      rw [hB] at HO HTK hL
      clear hB
      obtain ⟨av, cv, rfl⟩ : ∃ av cv, v' = .slice av B.length cv := by
        rcases HO.out.2 with ⟨rfl, h0⟩ | ⟨g, cap, cur, rfl, _⟩
        · exact ⟨none, 0, by rw [h0]⟩
        · exact ⟨_, _, rfl⟩
      have HAP0 : ∀ j, (Value.slice av B.length cv).ownBlock = some j → j ≠ wr.heap.size := fun j hj => by have := (HO.out.lt j hj).2; omega
      go_wp2_with fail
      refine (implPutText t _ hes).mono ?_
      rintro e w1 ⟨v1, rfl, ho1, hb1⟩
      have hO1 := ownsRow_below (ownsRow_below HO.out (below1 wr _) (Nat.le_refl _)) hb1 (Nat.le_refl _)
      have hbel1 := HBV.out.trans (hb1.mono HBV.out.size)
      have HV1 : Hid (Var w1 wr.heap.size #[.string t, .int .i64 n] 32) := HV.out.new hb1
      have hwr := hbel.size
      have HS1 : Hid (Src Tryd.prog 1 22 v1 (putText t).length ((putText t).map (Value.int .u8)) w1) := src_own8 Tryd.underlying22 ho1 (oneU8 _)
      have HO1 : Hid (w1.ownsRow w.heap.size 5 1 (.slice av B.length cv) B.length (B.map (Value.int .u8))) := hO1
      obtain ⟨a1, c1, rfl⟩ : ∃ a1 c1, v1 = .slice a1 (putText t).length c1 := by
        rcases ho1.2 with ⟨rfl, h0⟩ | ⟨g, cap, cur, rfl, _⟩
        · exact ⟨none, 0, by rw [h0]⟩
        · exact ⟨_, _, rfl⟩
      clear ho1 hb1 hO1 HO hc0 hc1 HV HBV hbel
      have HAP : Hid (∀ j, (Value.slice av B.length cv).ownBlock = some j → j ≠ wr.heap.size) := HAP0
      clear HAP0
      generalize putText t = PT at *
      go_wp2_with (at_builtin; refine wpList_append_own_src _ rfl (.tmp 12) (.tmp 15) 22 22 rfl w.heap.size 5 i0 (.int .u8 0) 1 1 Tryd.underlying22 hi hz0 hz1 hz2 rfl _ _ _ rfl HO1.out _ PT.length (PT.map (Value.int .u8)) rfl HS1.out (by unfold maxLen; omega) (by omega) hbel1.size ?_)
      intro v2 w2 ho2 hg2
      have hbel2 : Below w.heap.size w w2 := hbel1.grown hg2 hbel1.size (fun q hq => (HO1.out.lt q hq).1)
      have HO2 : Hid (w2.ownsRow w.heap.size 5 1 v2 (B ++ PT).length ((B ++ PT).map (Value.int .u8))) := by show World.ownsRow _ _ _ _ _ _ _; rw [List.length_append, List.map_append]; exact ho2
      obtain ⟨a2, c2, rfl⟩ : ∃ a2 c2, v2 = .slice a2 (B ++ PT).length c2 := by
        rcases HO2.out.2 with ⟨rfl, h0⟩ | ⟨g, cap, cur, rfl, _⟩
        · exact ⟨none, 0, by rw [h0]⟩
        · exact ⟨_, _, rfl⟩
      have hBP : (B ++ PT).length ≤ 41000000 := by rw [List.length_append]; omega
      have HV2 : Hid (Var w2 wr.heap.size #[.string t, .int .i64 n] 32) := HV1.out.only (Only.of_grown hg2) (fun h => HAP.out _ h rfl)
      clear ho2 hg2 HO1 HS1 hbel1 HV1 HAP
      generalize B ++ PT = B2 at *
      have hc1 : w2.cell? ⟨wr.heap.size, 1, none⟩ = some (.int .i64 n) := (HV2.out).cell 1
      go_wp2_with fail
      refine (implPutNum n _).mono ?_
      rintro e w3 ⟨v3, rfl, ho3, hb3⟩
      have hO3 := ownsRow_below HO2.out hb3 (Nat.le_refl _)
      have hbel3 := hbel2.trans (hb3.mono hbel2.size)
      have HS3 : Hid (Src Tryd.prog 1 22 v3 (putNum n).length ((putNum n).map (Value.int .u8)) w3) := src_own8 Tryd.underlying22 ho3 (oneU8 _)
      have HO3 : Hid (w3.ownsRow w.heap.size 5 1 (.slice a2 B2.length c2) B2.length (B2.map (Value.int .u8))) := hO3
      obtain ⟨a3, c3, rfl⟩ : ∃ a3 c3, v3 = .slice a3 (putNum n).length c3 := by
        rcases ho3.2 with ⟨rfl, h0⟩ | ⟨g, cap, cur, rfl, _⟩
        · exact ⟨none, 0, by rw [h0]⟩
        · exact ⟨_, _, rfl⟩
      clear ho3 hb3 hO3 HO2 hc1
      generalize putNum n = PN at *
      go_wp2_with (at_builtin; refine wpList_append_own_src _ rfl (.tmp 17) (.tmp 20) 22 22 rfl w.heap.size 5 i0 (.int .u8 0) 1 1 Tryd.underlying22 hi hz0 hz1 hz2 rfl _ _ _ rfl HO3.out _ PN.length (PN.map (Value.int .u8)) rfl HS3.out (by unfold maxLen; omega) (by omega) hbel3.size ?_)
      intro v4 w4 ho4 hg4
      have hbel4 : Below w.heap.size w w4 := hbel3.grown hg4 hbel3.size (fun q hq => (HO3.out.lt q hq).1)
      have HO4 : Hid (w4.ownsRow w.heap.size 5 1 v4 (enText (l.take (k + 1))).length ((enText (l.take (k + 1))).map (Value.int .u8))) := by show World.ownsRow _ _ _ _ _ _ _; rw [HTK.out, List.length_append, List.map_append]; exact ho4
      clear ho4 hg4 HO3 HS3 hbel3
      go_wp2
      go_roundw
      case rel => exact ⟨k + 1, _, rfl, by omega, by go_num, HO4, hbel4⟩
      case measure => simp [intOf]; omega
    · obtain rfl : k = l.length := by omega
      have hO := HO.out
      rw [List.take_length] at hO
      have hcv := conv_own8 (enText_u8 l) hO
      have HTS : Hid (enTextS l = baOf (enText l)) := rfl
      generalize enText l = X at *
      go_wp2
      go_ret
      exact ⟨by rw [HTS.out]; rfl, hbel⟩
end Go.Proofs.YtogpgocldgdeaaaDoor

/-
  Own text: whether entries are right, by the program.
-/
namespace Go.Proofs.YtogpgocldgdeaaaDoor
open Go.RowKit

def NamP (l : List EntD) (i : Nat) : Prop := ∀ k (hk : k < l.length), k < i → enName (l[k]).1 = true
theorem enP_iff (l : List EntD) : EnP l ↔ NamP l l.length ∧ OrdP l l.length ∧ NdsP l l.length ∧ (enText l).length ≤ 80 := by
  constructor
  · rintro ⟨h, h8⟩
    exact ⟨fun k hk hi => (h k hk hi).1.1, fun k hk hi h0 h1 => (h k hk hi).2.1 h0 h1, fun k hk hi => ⟨(h k hk hi).1.2, (h k hk hi).2.2⟩, h8⟩
  · rintro ⟨h1, h2, h3, h8⟩
    exact ⟨fun k hk hi => ⟨⟨h1 k hk hi, (h3 k hk hi).1⟩, fun h0 h => h2 k hk hi h0 h, (h3 k hk hi).2⟩, h8⟩

set_option maxRecDepth 20000 in
set_option maxHeartbeats 2000000 in
theorem implEntriesOk (a : Option Addr) (c : Nat) (l : List EntD) (w : World) (hl : SmE l) (hr : RdF encN 2 w a l) :
    Calls Tryd.prog 10 #[.slice a l.length c] w fun e w' => e = .returned (.bool (enOk l)) ∧ Below w.heap.size w w' := by
  have hll := szEn_len l
  have hl1 := hl.1
  have HCS : Hid (∀ k (hk : k < l.length), ∃ b off, a = some ⟨b, off, none⟩ ∧ b < w.heap.size ∧ ∀ j, j < 2 → w.cell? ⟨b, off + k * 2 + j, none⟩ = (encN l[k])[j]?) := fun k hk => hr.at k hk
  have HRD : Hid (∀ W, Below w.heap.size w W → RdF encN 2 W a l) := fun W h => hr.below h (Nat.le_refl _)
  have HBAD : Hid (∀ k (hk : k < l.length), enName (l[k]).1 = false → enOk l = false) := fun k hk h => enOk_no fun h2 => by have := ((enP_iff l).1 h2).1 k hk hk; rw [h] at this; cases this
  have HO : Hid (ordOk l = false → enOk l = false) := fun h => enOk_no fun h2 => by have := ordOk_yes ((enP_iff l).1 h2).2.1; rw [h] at this; cases this
  have HN : Hid (ndsOk l = false → enOk l = false) := fun h => enOk_no fun h2 => by have := ndsOk_yes ((enP_iff l).1 h2).2.2.1; rw [h] at this; cases this
  have HFIN : Hid (NamP l l.length → ordOk l = true → ndsOk l = true → enOk l = decide (((enTextS l).size : Int) ≤ 80)) := fun h1 h2 h3 => by
    have h2' : OrdP l l.length := by unfold ordOk at h2; exact @of_decide_eq_true _ (Classical.propDecidable _) h2
    have h3' : NdsP l l.length := by unfold ndsOk at h3; exact @of_decide_eq_true _ (Classical.propDecidable _) h3
    have e : (enTextS l).size = (enText l).length := by simp [enTextS, baOf, ByteArray.size]
    rw [e]
    by_cases h8 : (enText l).length ≤ 80
    · rw [enOk_yes ((enP_iff l).2 ⟨h1, h2', h3', h8⟩), decide_eq_true (by omega)]
    · rw [enOk_no fun hp => h8 hp.2, decide_eq_false (by omega)]
  have HTL : Hid ((enTextS l).size ≤ 30000000) := by show _ ≤ _; have h1 := enText_len l; simp [enTextS, baOf, ByteArray.size]; omega
  clear hr
  go_enter Tryd.func10, Tryd.ntmps10
  go_wp2
  go_loopw [7] (fun i wr => ∃ k : Nat, k ≤ l.length ∧ i = .int .i64 k ∧ Hid (NamP l k) ∧ Below w.heap.size w wr) (fun i _ => l.length - (intOf i).toNat)
  case atStart => exact ⟨0, Nat.zero_le _, rfl, (fun k _ h => by omega), Below.refl _ _⟩
  case round =>
    obtain ⟨k, hk, rfl, HP, hB⟩ := hrel
    by_cases hlt : k < l.length
    · obtain ⟨b, off, rfl, hblt, hcell⟩ := HCS.out k hlt
      have hc0 : wr.cell? ⟨b, off + k * 2, none⟩ = some (.string l[k].1) := (hB.cell hblt).trans (hcell 0 (by omega))
      have hc1 : wr.cell? ⟨b, off + k * 2 + 1, none⟩ = some (.int .i64 l[k].2) := (hB.cell hblt).trans (hcell 1 (by omega))
      have hB2 : Below w.heap.size w (wr.alloc (.cells #[.string l[k].1, .int .i64 l[k].2] 32)) := hB.alloc hB.size _
      have HNX : Hid (enName (l[k]).1 = true → NamP l (k + 1)) := fun h i hi hik => by
        by_cases e : i = k
        · subst e; exact h
        · exact HP.out i hi (by omega)
      have HB1 := HBAD.out k hlt
      have HE1 : Hid (bt (l[k]).1 = [126] → enName (l[k]).1 = true) := fun h => by unfold enName; rw [@decide_eq_true _ (Classical.propDecidable _) h]; rfl
      have HE2 : Hid (¬ bt (l[k]).1 = [126] → enName (l[k]).1 = nmOk (bt (l[k]).1)) := fun h => by unfold enName; rw [@decide_eq_false _ (Classical.propDecidable _) h]; rfl
      by_cases hh : bt (l[k]).1 = [126]
      · have ht := lit_same hh
        have HP2 : Hid (NamP l (k + 1)) := HNX.out (HE1.out hh)
        clear hh HNX HB1 HE1 HE2 hcell HP
        generalize (l[k]).1 = s at *
        generalize (l[k]).2 = n at *
        go_wp2
        go_roundw
        case rel => exact ⟨k + 1, by omega, by go_num, HP2, hB2⟩
        case measure => simp [intOf]; omega
      · have ht := lit_other hh
        have he := HE2.out hh
        obtain ⟨q, hq⟩ : ∃ q, enName (l[k]).1 = q := ⟨_, rfl⟩
        have hq2 : nmOk (bt (l[k]).1) = q := by rw [← he, hq]
        have HNM : Hid (∀ W, Calls Tryd.prog 28 #[.string (l[k]).1] W fun e w' => e = .returned (.bool q) ∧ Below W.heap.size W w') := fun W => by rw [← hq2]; exact implName _ W
        cases q with
        | true =>
          have HP2 : Hid (NamP l (k + 1)) := HNX.out hq
          clear hh HNX HB1 HE1 HE2 hcell HP hq hq2 he
          generalize (l[k]).1 = s at *
          generalize (l[k]).2 = n at *
          go_wp2_with fail
          refine (HNM.out _).mono ?_
          rintro e w3 ⟨rfl, hb3⟩
          have hB3 := hB2.trans (hb3.mono hB2.size)
          go_wp2
          go_roundw
          case rel => exact ⟨k + 1, by omega, by go_num, HP2, hB3⟩
          case measure => simp [intOf]; omega
        | false =>
          have HE : Hid (enOk l = false) := HB1 hq
          clear hh HNX HB1 HE1 HE2 hcell HP hq hq2 he
          generalize (l[k]).1 = s at *
          generalize (l[k]).2 = n at *
          go_wp2_with fail
          refine (HNM.out _).mono ?_
          rintro e w3 ⟨rfl, hb3⟩
          have hB3 := hB2.trans (hb3.mono hB2.size)
          go_wp2
          go_ret
          exact ⟨by rw [HE.out]; rfl, hB3⟩
    · obtain rfl : k = l.length := by omega
      have HI : Hid (∀ W, Below w.heap.size w W → Calls Tryd.prog 29 #[.slice a l.length c] W fun e w' => e = .returned (.bool (ordOk l)) ∧ Below W.heap.size W w') := fun W h => implInOrder a c l W (by omega) (HRD.out W h)
      have HJ : Hid (∀ W, Below w.heap.size w W → Calls Tryd.prog 30 #[.slice a l.length c] W fun e w' => e = .returned (.bool (ndsOk l)) ∧ Below W.heap.size W w') := fun W h => implNodesOk a c l W (by omega) (HRD.out W h)
      have HT : Hid (∀ W, Below w.heap.size w W → Calls Tryd.prog 13 #[.slice a l.length c] W fun e w' => e = .returned (.string (enTextS l)) ∧ Below W.heap.size W w') := fun W h => implDirText a c l W hl (HRD.out W h)
      have HF := HFIN.out HP.out
      have HO2 := HO.out
      have HN2 := HN.out
      have hT := HTL.out
      clear HCS HRD HBAD HO HN HFIN HTL HP
      cases hq : ordOk l with
      | false =>
        have HE : Hid (enOk l = false) := HO2 hq
        rw [hq] at HI
        clear hq HF HO2 HN2 HJ HT hT
        go_wp2_with fail
        refine (HI.out _ hB).mono ?_
        rintro e w3 ⟨rfl, hb3⟩
        have hB3 := hB.trans (hb3.mono hB.size)
        go_wp2
        go_ret
        exact ⟨by rw [HE.out]; rfl, hB3⟩
      | true =>
        cases hq2 : ndsOk l with
        | false =>
          have HE : Hid (enOk l = false) := HN2 hq2
          rw [hq] at HI
          rw [hq2] at HJ
          clear hq hq2 HF HO2 HN2 HT hT
          go_wp2_with fail
          refine (HI.out _ hB).mono ?_
          rintro e w3 ⟨rfl, hb3⟩
          have hB3 := hB.trans (hb3.mono hB.size)
          go_wp2_with fail
          refine (HJ.out _ hB3).mono ?_
          rintro e w4 ⟨rfl, hb4⟩
          have hB4 := hB3.trans (hb4.mono hB3.size)
          go_wp2
          go_ret
          exact ⟨by rw [HE.out]; rfl, hB4⟩
        | true =>
          have HE : Hid (enOk l = decide (((enTextS l).size : Int) ≤ 80)) := HF hq hq2
          rw [hq] at HI
          rw [hq2] at HJ
          clear hq hq2 HF HO2 HN2
          generalize enTextS l = T at *
          go_wp2_with fail
          refine (HI.out _ hB).mono ?_
          rintro e w3 ⟨rfl, hb3⟩
          have hB3 := hB.trans (hb3.mono hB.size)
          go_wp2_with fail
          refine (HJ.out _ hB3).mono ?_
          rintro e w4 ⟨rfl, hb4⟩
          have hB4 := hB3.trans (hb4.mono hB3.size)
          go_wp2_with fail
          refine (HT.out _ hB4).mono ?_
          rintro e w5 ⟨rfl, hb5⟩
          have hB5 := hB4.trans (hb5.mono hB4.size)
          go_wp2
          go_ret
          exact ⟨by rw [HE.out]; rfl, hB5⟩
end Go.Proofs.YtogpgocldgdeaaaDoor
