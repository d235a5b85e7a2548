/-
  Own texts, several together.
-/
import Derived.Test.YthfgfhbinggpfaaDoorBunZJ
import Derived.BigQuiet
import Derived.ArgAppend
/-
  Own text: one place is held against the path that is searched.
-/
namespace Go.Proofs.YthfgfhbinggpfaaDoor
open Go.RowKit

def plV (p : PlD) : Value := .agg #[.string p.1, .int .i64 p.2.1, .int .i64 p.2.2]

set_option maxRecDepth 20000 in
set_option maxHeartbeats 2000000 in
theorem searchSee (gs : Nat) (t : ByteArray) (s : Int) (p : PlD) (w : World) (hV : Var w gs #[.string t, .int .i64 s] 90) :
    Calls Tryd.prog 59 #[.pointer (some ⟨gs, 0, none⟩), plV p] w fun e w' => e = .returned (.bool (seeW t s p).2) ∧ Var w' gs #[.string t, .int .i64 (seeW t s p).1] 90 ∧ Only (fun q => q = gs) w w' := by
  obtain ⟨pp, pi, pn⟩ := p
  have hlt := hV.lt
  have hbB := below1 w (.cells #[.string pp, .int .i64 pi, .int .i64 pn] 81)
  have hP := Var.made w #[.string pp, .int .i64 pi, .int .i64 pn] 81
  have hV1 := hV.new hbB
  have hO1 : Only (fun q => q = gs) w (w.alloc (.cells #[.string pp, .int .i64 pi, .int .i64 pn] 81)) := Only.of_new hbB
  have x0 := hP.cell 0
  have x1 := hP.cell 1
  have x2 := hP.cell 2
  have v0 := hV1.cell 0
  have v1 := hV1.cell 1
  have f1 := hV1.frozen 1
  simp at x0 x1 x2 v0 v1
  have HV : Hid (∀ n, Var ((w.alloc (.cells #[.string pp, .int .i64 pi, .int .i64 pn] 81)).drewN n) gs #[.string t, .int .i64 s] 90) := fun n => hV1
  have HO : Hid (∀ n, Only (fun q => q = gs) w ((w.alloc (.cells #[.string pp, .int .i64 pi, .int .i64 pn] 81)).drewN n)) := fun n => ⟨hO1.os, hO1.tape, hO1.output, hO1.size, hO1.block⟩
  have HPV : Hid (plV (pp, pi, pn) = .agg #[.string pp, .int .i64 pi, .int .i64 pn]) := rfl
  by_cases hq : bt pp = bt t
  · have HS : Hid (seeW t s (pp, pi, pn) = (pn, decide (pn = -1))) := by show _ = _; unfold seeW; rw [if_pos hq]
    have hsame := str_same hq
    have HV2 : Hid (∀ n, Var (((w.alloc (.cells #[.string pp, .int .i64 pi, .int .i64 pn] 81)).drewN n).setCell ⟨gs, 1, none⟩ (.int .i64 pn)) gs #[.string t, .int .i64 pn] 90 ∧ Only (fun q => q = gs) w (((w.alloc (.cells #[.string pp, .int .i64 pi, .int .i64 pn] 81)).drewN n).setCell ⟨gs, 1, none⟩ (.int .i64 pn))) := fun n => ⟨by have := (HV.out n).set 1 (.int .i64 pn); simpa using this, (HO.out n).setCell (p := ⟨gs, 1, none⟩) rfl _⟩
    rw [HPV.out]
    clear HV HO HPV hV hV1 hO1 hP hq hbB
    go_enter Tryd.func59, Tryd.ntmps59
    go_wp2
    go_quiet (fail)
    go_wp2
    go_ret
    exact ⟨by rw [HS.out]; rfl, by rw [HS.out]; exact (HV2.out _).1, (HV2.out _).2⟩
  · have HS : Hid (seeW t s (pp, pi, pn) = (s, decide (s = -1))) := by show _ = _; unfold seeW; rw [if_neg hq]
    have hoth := str_other hq
    rw [HPV.out]
    clear HPV hV hV1 hO1 hP hq hbB
    go_enter Tryd.func59, Tryd.ntmps59
    go_wp2
    go_quiet (fail)
    go_wp2
    go_ret
    exact ⟨by rw [HS.out]; rfl, by rw [HS.out]; exact HV.out _, HO.out _⟩
end Go.Proofs.YthfgfhbinggpfaaDoor

/-
  Own text: one place is marked as seen.
-/
namespace Go.Proofs.YthfgfhbinggpfaaDoor
open Go.RowKit

def sgC (P0 : Nat) (s : List Bool) : Array Value := (Value.pointer (some ⟨P0, 0, none⟩) :: s.map Value.bool).toArray
theorem sgC_set (P0 : Nat) (s : List Bool) (m : Nat) : (sgC P0 s).setIfInBounds (m + 1) (.bool true) = sgC P0 (s.set m true) := by
  unfold sgC
  simp [List.map_set]
theorem sgC_head (P0 : Nat) (s : List Bool) : (sgC P0 s)[0]? = some (.pointer (some ⟨P0, 0, none⟩)) := by simp [sgC]
theorem sgC_at (P0 : Nat) (s : List Bool) {m : Nat} (h : m < s.length) : (sgC P0 s)[m + 1]? = some (.bool (s.getD m false)) := by
  unfold sgC
  simp [h]
theorem only_drewN {S : Nat → Prop} {a w : World} (h : Only S a w) (n : Nat) : Only S a (w.drewN n) := ⟨h.os, h.tape, h.output, h.size, h.block⟩

set_option maxRecDepth 20000 in
set_option maxHeartbeats 4000000 in
theorem sightSee (gs P0 : Nat) (a : Option Addr) (ca : Nat) (F : FsD) (s : List Bool) (p : PlD) (w : World) (hn : F.ns.length ≤ 10) (hl : s.length = 10) (hV : Var w gs (sgC P0 s) 50)
    (hF : ∀ W, Only (fun q => q = gs) w W → W.cell? ⟨P0, 0, none⟩ = some (.slice a F.ns.length ca) ∧ RdNs W a F.ns) :
    Calls Tryd.prog 26 #[.pointer (some ⟨gs, 0, none⟩), plV p] w fun e w' => e = .returned (.bool (seeS F s p).2) ∧ Var w' gs (sgC P0 (seeS F s p).1) 50 ∧ Only (fun q => q = gs) w w' := by
  obtain ⟨pp, pi, pn⟩ := p
  have hlt := hV.lt
  have hbB := below1 w (.cells #[.string pp, .int .i64 pi, .int .i64 pn] 81)
  have hP := Var.made w #[.string pp, .int .i64 pi, .int .i64 pn] 81
  have hV1 := hV.new hbB
  have hO1 : Only (fun q => q = gs) w (w.alloc (.cells #[.string pp, .int .i64 pi, .int .i64 pn] 81)) := Only.of_new hbB
  have x0 := hP.cell 0
  have x1 := hP.cell 1
  have x2 := hP.cell 2
  have v0 := hV1.cell 0
  rw [sgC_head] at v0
  simp at x0 x1 x2
  have HV : Hid (∀ n, Var ((w.alloc (.cells #[.string pp, .int .i64 pi, .int .i64 pn] 81)).drewN n) gs (sgC P0 s) 50) := fun n => hV1
  have HO : Hid (∀ n, Only (fun q => q = gs) w ((w.alloc (.cells #[.string pp, .int .i64 pi, .int .i64 pn] 81)).drewN n)) := fun n => only_drewN hO1 n
  have HPV : Hid (plV (pp, pi, pn) = .agg #[.string pp, .int .i64 pi, .int .i64 pn]) := rfl
  have HT : Hid (∀ W, Only (fun q => q = gs) w W → Calls Tryd.prog 52 #[.pointer (some ⟨P0, 0, none⟩), .int .i64 pn] W fun e w' => e = .returned (.bool (thB F pn)) ∧ w' = W) := fun W hO => implThere P0 a ca F pn W (hF W hO).1 (hF W hO).2
  rw [HPV.out]
  cases hT : thB F pn with
  | false =>
    have HS : Hid (seeS F s (pp, pi, pn) = (s, false)) := by show _ = _; unfold seeS; rw [if_pos (.inl hT)]
    rw [hT] at HT
    clear hF hV hV1 hP hbB HPV hT
    go_enter Tryd.func26, Tryd.ntmps26
    go_wp2
    go_quiet (first | (go_at_call_of 52 (pn); exact Calls.quiet_of_same (HT.out _ (by first | exact hO1 | exact only_drewN hO1 _))))
    go_wp2
    go_ret
    exact ⟨by rw [HS.out]; rfl, by rw [HS.out]; exact HV.out _, HO.out _⟩
  | true =>
    have hth : thP F pn := by
      unfold thB at hT
      exact @of_decide_eq_true _ (Classical.propDecidable _) hT
    rw [hT] at HT
    obtain ⟨m, rfl⟩ := natOf hth.1
    have hmn : m < F.ns.length := by have := hth.2.1; simpa using this
    have hm10 : m < s.length := by omega
    have hmI : (m : Int) < 10 := by omega
    have v1 := hV1.cell (m + 1)
    rw [sgC_at P0 s hm10, Nat.add_comm] at v1
    cases hM : s.getD m false with
    | true =>
      have HS : Hid (seeS F s (pp, pi, (m : Int)) = (s, false)) := by show _ = _; unfold seeS; rw [if_pos (.inr (by simpa using hM))]
      rw [hM] at v1
      clear hF hV hV1 hP hbB HPV hT hth hM
      go_enter Tryd.func26, Tryd.ntmps26
      go_wp2
      go_quiet (first | (go_at_call_of 52 ((m : Int)); exact Calls.quiet_of_same (HT.out _ (by first | exact hO1 | exact only_drewN hO1 _))))
      go_wp2
      go_ret
      exact ⟨by rw [HS.out]; rfl, by rw [HS.out]; exact HV.out _, HO.out _⟩
    | false =>
      have hQ : ∀ b, decide (bt pp ≠ [] ∨ pi = 0 ∧ (ndAt F (m : Int)).k = 1) = b → seeS F s (pp, pi, (m : Int)) = (s.set m true, b) := fun b hb => by
        unfold seeS
        rw [if_neg (fun h => h.elim (fun h => by rw [hT] at h; cases h) (fun h => by have h' : s.getD m false = true := by simpa using h
                                                                                     rw [hM] at h'; cases h')), ← hb]
        simp
      rw [hM] at v1
      have HQ : Hid (∀ b, decide (bt pp ≠ [] ∨ pi = 0 ∧ (ndAt F (m : Int)).k = 1) = b → seeS F s (pp, pi, (m : Int)) = (s.set m true, b)) := hQ
      have f1 := hV1.frozen (1 + m)
      have HP : Hid (∀ n, Var ((w.alloc (.cells #[.string pp, .int .i64 pi, .int .i64 (m : Int)] 81)).drewN n) w.heap.size #[.string pp, .int .i64 pi, .int .i64 (m : Int)] 81) := fun n => hP
      have HFF : Hid (∀ W, Only (fun q => q = gs) w W → W.cell? ⟨P0, 0, none⟩ = some (.slice a F.ns.length ca) ∧ RdNs W a F.ns) := hF
      clear hF hV hV1 hP hbB HPV hT hth hM hQ
      go_enter Tryd.func26, Tryd.ntmps26
      go_wp2
      go_quiet (first | (go_at_call_of 52 ((m : Int)); exact Calls.quiet_of_same (HT.out _ (by first | exact hO1 | exact only_drewN hO1 _))))
      go_upto_region 3 with fail
      generalize hW2 : (w.alloc (.cells #[.string pp, .int .i64 pi, .int .i64 (m : Int)] 81)).drewN _ = W2
      have HV2 : Hid (Var W2 gs (sgC P0 s) 50) := hW2 ▸ HV.out _
      have HO2 : Hid (Only (fun q => q = gs) w W2) := hW2 ▸ HO.out _
      have HP2 : Hid (Var W2 w.heap.size #[.string pp, .int .i64 pi, .int .i64 (m : Int)] 81) := hW2 ▸ HP.out _
      have hlt2 : w.heap.size < W2.heap.size := HP2.out.lt
      clear x0 x1 x2 v0 v1 f1 HV HO HP HT hW2 hO1
      have x2 := HP2.out.cell 2
      simp at x2
      have f1 := HV2.out.frozen (1 + m)
      have v1 := HV2.out.cell (m + 1)
      rw [sgC_at P0 s hm10, Nat.add_comm] at v1
      have HE4 : Hid (∀ W4, (W2.setCell ⟨gs, 1 + m, none⟩ (.bool true)).drew = W4 → Var W4 gs (sgC P0 (s.set m true)) 50 ∧ Only (fun q => q = gs) w W4 ∧ Var W4 w.heap.size #[.string pp, .int .i64 pi, .int .i64 (m : Int)] 81) := by
        rintro W4 rfl
        refine ⟨?_, ?_, ?_⟩
        · have h := HV2.out.set (m + 1) (.bool true)
          rw [sgC_set, Nat.add_comm m 1] at h
          exact h
        · have h : Only (fun q => q = gs) w (W2.setCell ⟨gs, 1 + m, none⟩ (.bool true)) := HO2.out.setCell (p := ⟨gs, 1 + m, none⟩) rfl _
          exact ⟨h.os, h.tape, h.output, h.size, h.block⟩
        · exact HP2.out.other (by omega) _ _
      have hW2s : W2.heap.size = W2.heap.size := rfl
      clear HV2 HO2 HP2 hW2s
      go_region
      generalize hW4 : (W2.setCell ⟨gs, 1 + m, none⟩ (.bool true)).drew = W4
      obtain ⟨hV4, hO4, hP4⟩ := HE4.out W4 hW4
      obtain ⟨hp0, r4⟩ := HFF.out W4 hO4
      obtain ⟨g, off, u, rfl, _, _, c0, _, _, _, _⟩ := r4.at m hmn
      have hmnI : (m : Int) < (F.ns.length : Int) := by omega
      have v0 := hV4.cell 0
      rw [sgC_head] at v0
      have x0 := hP4.cell 0
      have x1 := hP4.cell 1
      have x2 := hP4.cell 2
      simp at x0 x1 x2
      have HV4 : Hid (∀ n, Var (W4.drewN n) gs (sgC P0 (s.set m true)) 50) := fun _ => hV4
      have HO4 : Hid (∀ n, Only (fun q => q = gs) w (W4.drewN n)) := fun n => only_drewN hO4 n
      rw [ndAt_nat hmn] at HQ
      clear HE4 HFF hV4 hO4 hP4 r4 hW4 f1 v1
      generalize (F.ns[m]).k = kk at *
      by_cases hpe : bt pp = []
      · have hps := lit_same hpe
        by_cases hi0 : pi = 0
        · subst hi0
          by_cases hk1 : kk = 1
          · subst hk1
            have HS : Hid (seeS F s (pp, 0, (m : Int)) = (s.set m true, true)) := HQ.out true (decide_eq_true (.inr ⟨rfl, rfl⟩))
            clear HQ hpe
            go_wp2
            go_quiet (fail)
            go_wp2
            go_ret
            exact ⟨by rw [HS.out]; rfl, by rw [HS.out]; exact HV4.out _, HO4.out _⟩
          · have HS : Hid (seeS F s (pp, 0, (m : Int)) = (s.set m true, false)) := HQ.out false (decide_eq_false (fun h => h.elim (fun h => h hpe) (fun h => hk1 h.2)))
            have hk1b : (kk == 1) = false := by simpa using hk1
            clear HQ hpe
            go_wp2
            go_quiet (fail)
            go_wp2
            go_ret
            exact ⟨by rw [HS.out]; simp, by rw [HS.out]; exact HV4.out _, HO4.out _⟩
        · have HS : Hid (seeS F s (pp, pi, (m : Int)) = (s.set m true, false)) := HQ.out false (decide_eq_false (fun h => h.elim (fun h => h hpe) (fun h => hi0 h.1)))
          have hi0b : (pi == 0) = false := by simpa using hi0
          clear HQ hpe
          go_wp2
          go_quiet (fail)
          go_wp2
          go_ret
          exact ⟨by rw [HS.out]; simp, by rw [HS.out]; exact HV4.out _, HO4.out _⟩
      · have HS : Hid (seeS F s (pp, pi, (m : Int)) = (s.set m true, true)) := HQ.out true (decide_eq_true (.inl hpe))
        have hpo := lit_other hpe
        clear HQ hpe
        go_wp2
        go_quiet (fail)
        go_wp2
        go_ret
        exact ⟨by rw [HS.out]; rfl, by rw [HS.out]; exact HV4.out _, HO4.out _⟩
end Go.Proofs.YthfgfhbinggpfaaDoor

/-
  Own text: whether each node but the root was seen.
-/
namespace Go.Proofs.YthfgfhbinggpfaaDoor
open Go.RowKit

def alTo (F : FsD) (s : List Bool) (m : Nat) : Prop := ∀ x, 0 < x → x < m → (ndAt F (x : Int)).k ≠ 0 → s.getD x false = true
noncomputable def alB (F : FsD) (s : List Bool) : Bool := @decide (alTo F s F.ns.length) (Classical.propDecidable _)
theorem alB_yes {F : FsD} {s : List Bool} (h : alTo F s F.ns.length) : alB F s = true := @decide_eq_true _ (Classical.propDecidable _) h
theorem alB_no {F : FsD} {s : List Bool} (h : ¬ alTo F s F.ns.length) : alB F s = false := @decide_eq_false _ (Classical.propDecidable _) h

set_option maxRecDepth 20000 in
set_option maxHeartbeats 4000000 in
theorem sightAll (gs P0 : Nat) (a : Option Addr) (ca : Nat) (F : FsD) (s : List Bool) (w : World) (hn : F.ns.length ≤ 10) (hl : s.length = 10) (hV : Var w gs (sgC P0 s) 50) (hP0 : P0 < w.heap.size)
    (hp0 : w.cell? ⟨P0, 0, none⟩ = some (.slice a F.ns.length ca)) (r1 : RdNs w a F.ns) :
    Calls Tryd.prog 27 #[.pointer (some ⟨gs, 0, none⟩)] w fun e w' => e = .returned (.bool (alB F s)) ∧ Below w.heap.size w w' := by
  have HV : Hid (∀ W, Below w.heap.size w W → Var W gs (sgC P0 s) 50 ∧ W.cell? ⟨P0, 0, none⟩ = some (.slice a F.ns.length ca) ∧ RdNs W a F.ns) := fun W h => ⟨hV.new h, (h.cell hP0).trans hp0, r1.below h (Nat.le_refl _)⟩
  have v0 := hV.cell 0
  rw [sgC_head] at v0
  clear hV r1
  go_enter Tryd.func27, Tryd.ntmps27
  go_wp2
  clear v0 hp0
  go_loopw [3, 13] (fun _ j wr => ∃ m : Nat, m ≤ F.ns.length ∧ j = .int .i64 m ∧ Hid (alTo F s m) ∧ Below w.heap.size w wr) (fun _ j _ => F.ns.length - (intOf j).toNat)
  case atStart => exact ⟨0, Nat.zero_le _, rfl, fun x _ h => absurd h (Nat.not_lt_zero _), Below.refl _ _⟩
  case round =>
    obtain ⟨m, hm, rfl, HA, hB⟩ := hrel
    by_cases hlt : m < F.ns.length
    · obtain ⟨hv, hp0, r1⟩ := HV.out wr hB
      obtain ⟨g, off, u, rfl, _, ⟨ab, cc, rfl, _, _, _⟩, c0, c1, c2, c3, c4⟩ := r1.at m hlt
      have hm10 : m < s.length := by omega
      have hmI : (m : Int) < (F.ns.length : Int) := by omega
      have hmI2 : (m : Int) < 10 := by omega
      have v0 := hv.cell 0
      rw [sgC_head] at v0
      have v1 := hv.cell (m + 1)
      rw [sgC_at P0 s hm10, Nat.add_comm] at v1
      have hnw : wr.heap.size ≠ gs := Nat.ne_of_gt hv.lt
      have hgs : gs < wr.heap.size := hv.lt
      have hB2 := hB.alloc hB.size (.cells #[.int .i64 F.ns[m].k, .int .i64 F.ns[m].g, .int .i64 F.ns[m].t, .int .i64 F.ns[m].s, .slice ab F.ns[m].b.length cc] 44)
      have HI1 : Hid ((0 < m → (ndAt F (m : Int)).k ≠ 0 → s.getD m false = true) → alTo F s (m + 1)) := fun h x h0 hx hk => by
        by_cases e : x = m
        · subst e; exact h h0 hk
        · exact HA.out x h0 (by omega) hk
      have HN : Hid (¬ (0 < m → (ndAt F (m : Int)).k ≠ 0 → s.getD m false = true) → alB F s = false) := fun h => alB_no fun h2 => h fun h3 h4 => h2 m h3 hlt h4
      rw [ndAt_nat hlt] at HI1 HN
      clear HV HA r1 hv hl
      generalize F.ns[m].k = kk at *
      by_cases hm0 : m = 0
      · have HI2 : Hid (alTo F s (m + 1)) := HI1.out (fun h => by omega)
        have hm0b : ((m : Int) != 0) = false := by simp [hm0]
        clear HI1 HN hm0
        go_wp2
        go_roundw
        case rel => exact ⟨m + 1, by omega, by go_num, HI2, hB2⟩
        case measure => simp [intOf]; omega
      have hm0I : ((m : Int) != 0) = true := by simp [hm0]
      by_cases hk : kk = 0
      · subst hk
        have HI2 : Hid (alTo F s (m + 1)) := HI1.out (fun _ h => absurd rfl h)
        clear HI1 HN
        go_wp2
        go_roundw
        case rel => exact ⟨m + 1, by omega, by go_num, HI2, hB2⟩
        case measure => simp [intOf]; omega
      have hkb : (kk != 0) = true := by simpa using hk
      cases hM : s.getD m false with
      | true =>
        have HI2 : Hid (alTo F s (m + 1)) := HI1.out (fun _ _ => hM)
        rw [hM] at v1
        clear HI1 HN hM
        go_wp2
        go_roundw
        case rel => exact ⟨m + 1, by omega, by go_num, HI2, hB2⟩
        case measure => simp [intOf]; omega
      | false =>
        have HR : Hid (alB F s = false) := HN.out (fun h => by have := h (by omega) hk; rw [hM] at this; cases this)
        rw [hM] at v1
        clear HI1 HN hM
        go_wp2
        go_ret
        exact ⟨by rw [HR.out]; rfl, hB2⟩
    · have hme : m = F.ns.length := by omega
      subst hme
      have HR : Hid (alB F s = true) := alB_yes HA.out
      clear HV HA
      go_wp2
      go_ret
      exact ⟨by rw [HR.out]; rfl, hB⟩
end Go.Proofs.YthfgfhbinggpfaaDoor

/-
  Own text: the program's row of places: cut from the front, appended to.
-/
namespace Go.Proofs.YthfgfhbinggpfaaDoor
open Go.RowKit

def encL (p : PlD) : List Value := [.string p.1, .int .i64 p.2.1, .int .i64 p.2.2]
theorem encL_len (p : PlD) : (encL p).length = 3 := rfl
theorem flatL_len (L : List PlD) : (L.flatMap encL).length = L.length * 3 := by
  induction L with
  | nil => rfl
  | cons p L ih => rw [List.flatMap_cons, List.length_append, ih, encL_len, List.length_cons]; omega
theorem onePl (L : List PlD) : ∀ u ∈ L.flatMap encL, u.oneCell' = true := fun u hu => by
  obtain ⟨p, _, hp⟩ := List.mem_flatMap.1 hu
  simp only [encL, List.mem_cons, List.not_mem_nil, or_false] at hp
  rcases hp with rfl | rfl | rfl <;> rfl
theorem Tryd.infoPl : (Tryd.prog.info? 81).map (fun i => (i.zero, i.size, i.bytes)) = some (some (.agg #[.string ⟨#[]⟩, .int .i64 0, .int .i64 0]), 3, 32) := by kernel_rfl

def QR (w : World) (B : Nat → Prop) (v : Value) (L : List PlD) : Prop :=
  (L = [] ∧ ∃ a c, v = .slice a 0 c) ∨ ∃ g off cap, v = .slice (some ⟨g, off, none⟩) L.length cap ∧ B g ∧ g < w.heap.size ∧ L.length ≤ cap ∧ cap ≤ maxLen ∧ (∀ j u, (L.flatMap encL)[j]? = some u → w.cell? ⟨g, off + j, none⟩ = some u) ∧ ∀ j, j < (cap - L.length) * 3 → (w.cell? ⟨g, off + L.length * 3 + j, none⟩).isSome = true ∧ w.frozen? ⟨g, off + L.length * 3 + j, none⟩ = false
theorem QR.keep {w w' : World} {B : Nat → Prop} {v : Value} {L : List PlD} {S : Nat → Prop} (h : QR w B v L) (ho : Only S w w') (hs : ∀ q, q < w.heap.size → B q → ¬ S q) : QR w' B v L := by
  rcases h with h | ⟨g, off, cap, rfl, hB, hg, h1, h2, h3, h4⟩
  · exact .inl h
  · have hb := ho.block g hg (hs g hg hB)
    refine .inr ⟨g, off, cap, rfl, hB, Nat.lt_of_lt_of_le hg ho.size, h1, h2, fun j u hj => (World.cell?_of_block (w := w) hb).trans (h3 j u hj), fun j hj => ?_⟩
    rw [World.cell?_of_block (w := w) (w' := w') (a := ⟨g, off + L.length * 3 + j, none⟩) hb, World.frozen?_of_block (w := w) (w' := w') (a := ⟨g, off + L.length * 3 + j, none⟩) hb]
    exact h4 j hj
theorem QR.newB {w : World} {B B' : Nat → Prop} {v : Value} {L : List PlD} (h : QR w B v L) (hb : ∀ q, q < w.heap.size → B q → B' q) : QR w B' v L := by
  rcases h with h | ⟨g, off, cap, rfl, hB, hg, h1⟩
  · exact .inl h
  · exact .inr ⟨g, off, cap, rfl, hb g hg hB, hg, h1⟩
theorem QR.one (w : World) (B : Nat → Prop) (p : PlD) (hB : B w.heap.size) : QR (w.alloc (.cells (encL p).toArray 81)) B (.slice (some ⟨w.heap.size, 0, none⟩) 1 1) [p] := by
  have hV := Var.made w (encL p).toArray 81
  refine .inr ⟨w.heap.size, 0, 1, rfl, hB, by simp, Nat.le_refl _, by unfold maxLen; omega, fun j u hj => ?_, fun j hj => ?_⟩
  · rw [Nat.zero_add, hV.cell j]
    simpa using hj
  · simp at hj
theorem QR.len {w : World} {B : Nat → Prop} {v : Value} {L : List PlD} (h : QR w B v L) : ∃ a c, v = .slice a L.length c := by
  rcases h with ⟨rfl, a, c, rfl⟩ | ⟨g, off, cap, rfl, _⟩
  · exact ⟨a, c, rfl⟩
  · exact ⟨_, _, rfl⟩
theorem QR.head {w : World} {B : Nat → Prop} {v : Value} {p : PlD} {q : List PlD} (h : QR w B v (p :: q)) : ∃ g off cap, v = .slice (some ⟨g, off, none⟩) (q.length + 1) cap ∧ B g ∧ g < w.heap.size ∧ w.cell? ⟨g, off, none⟩ = some (.string p.1) ∧ w.cell? ⟨g, off + 1, none⟩ = some (.int .i64 p.2.1) ∧ w.cell? ⟨g, off + 2, none⟩ = some (.int .i64 p.2.2) := by
  rcases h with ⟨h, _⟩ | ⟨g, off, cap, rfl, hB, hg, h1, h2, h3, h4⟩
  · cases h
  · exact ⟨g, off, cap, rfl, hB, hg, h3 0 _ rfl, h3 1 _ rfl, h3 2 _ rfl⟩
theorem QR.tail2 {w : World} {B : Nat → Prop} {g off cap : Nat} {p : PlD} {q : List PlD} (h : QR w B (.slice (some ⟨g, off, none⟩) (q.length + 1) cap) (p :: q)) : (cap = 1 → QR w B (.slice (some ⟨g, off, none⟩) q.length 0) q) ∧ (¬ cap = 1 → QR w B (.slice (some ⟨g, off + 3, none⟩) q.length (cap - 1)) q) := by
  rcases h with ⟨h, _⟩ | ⟨g', off', cap', he, hB, hg, h1, h2, h3, h4⟩
  · cases h
  · injection he with e1 _ e3
    injection e1 with e1
    injection e1 with e1 e2
    subst e1 e2 e3
    rw [List.length_cons] at h1 h4
    refine ⟨fun hc => ?_, fun hc => ?_⟩
    · have hql : q = [] := List.eq_nil_of_length_eq_zero (by omega)
      subst hql
      exact .inl ⟨rfl, _, _, rfl⟩
    · refine .inr ⟨g, off + 3, cap - 1, rfl, hB, hg, by omega, by omega, fun j u hj => ?_, fun j hj => ?_⟩
      · have := h3 (j + 3) u (by rw [List.flatMap_cons, List.getElem?_append_right (by rw [encL_len]; omega), encL_len, Nat.add_sub_cancel]; exact hj)
        rw [show off + 3 + j = off + (j + 3) by omega]
        exact this
      · have := h4 j (by omega)
        rw [show off + 3 + q.length * 3 + j = off + (q.length + 1) * 3 + j by omega]
        exact this
theorem only_setCells (g : Nat) : ∀ (vs : List Value) (o : Nat) (w : World), Only (fun q => q = g) w (w.setCells g o vs)
  | [], _, _ => Only.refl _ _
  | v :: r, o, w => (Only.setCell (S := fun q => q = g) (Only.refl _ w) (p := ⟨g, o, none⟩) rfl v).trans (only_setCells g r (o + 1) _)
theorem QR.room {w : World} {B : Nat → Prop} {g off cap : Nat} {L : List PlD} (h : QR w B (.slice (some ⟨g, off, none⟩) L.length cap) L) (h0 : L ≠ []) (p : PlD) (hr : L.length + 1 ≤ cap) : QR (w.setCells g (off + L.length * 3) (encL p)) B (.slice (some ⟨g, off, none⟩) (L.length + 1) cap) (L ++ [p]) := by
  rcases h with ⟨h, _⟩ | ⟨g', off', cap', he, hB, hg, h1, h2, h3, h4⟩
  · exact absurd h h0
  · injection he with e1 _ e3
    injection e1 with e1
    injection e1 with e1 e2
    subst e1 e2 e3
    have hso := only_setCells g (encL p) (off + L.length * 3) w
    have hsp := fun j (hj : j < 3) => h4 j (by omega)
    have hfl : (L ++ [p]).flatMap encL = L.flatMap encL ++ encL p := by rw [List.flatMap_append]; simp
    refine .inr ⟨g, off, cap, by rw [List.length_append]; rfl, hB, Nat.lt_of_lt_of_le hg hso.size, by rw [List.length_append]; exact hr, h2, fun j u hj => ?_, fun j hj => ?_⟩
    · rw [hfl] at hj
      by_cases hl : j < L.length * 3
      · rw [List.getElem?_append_left (by rw [flatL_len]; exact hl)] at hj
        rw [World.cell?_setCells_out g _ _ _ _ (fun _ _ => .inl (by show off + j < _; omega))]
        exact h3 j u hj
      · rw [List.getElem?_append_right (by rw [flatL_len]; omega), flatL_len] at hj
        have hj3 : j - L.length * 3 < (encL p).length := by
          rcases Nat.lt_or_ge (j - L.length * 3) (encL p).length with h | h
          · exact h
          · rw [List.getElem?_eq_none h] at hj; cases hj
        have := World.cell?_setCells_in g (encL p) (off + L.length * 3) w (fun k hk => (hsp k (by rw [encL_len] at hk; exact hk)).1) (j - L.length * 3) hj3
        rw [show off + j = off + L.length * 3 + (j - L.length * 3) by omega, this]
        rw [List.getElem?_eq_getElem hj3] at hj
        exact hj
    · rw [List.length_append, List.length_singleton] at hj ⊢
      have hq := h4 (j + 3) (by omega)
      rw [show off + (L.length + 1) * 3 + j = off + L.length * 3 + (j + 3) by omega, World.frozen?_setCells, World.cell?_setCells_out g _ _ _ _ (fun _ _ => .inr (by show _ ≤ off + L.length * 3 + (j + 3); rw [encL_len]; omega))]
      exact hq
theorem QR.grow {w w' : World} {B : Nat → Prop} {v' : Value} {L : List PlD} {p : PlD} (ho : w'.ownsRow w.heap.size 81 3 v' (L.length + 1) (L.flatMap encL ++ encL p)) (hB : ∀ q, w.heap.size ≤ q → B q) : QR w' B v' (L ++ [p]) := by
  have ho' := ho
  rcases ho.2 with ⟨_, h0⟩ | ⟨g, cap, cur, rfl, hb, hg, hnc, hcm, hcs, hct⟩
  · omega
  · have hV : Var w' g cur 81 := hg
    have hfl : (L ++ [p]).flatMap encL = L.flatMap encL ++ encL p := by rw [List.flatMap_append]; simp
    refine .inr ⟨g, 0, cap, by rw [List.length_append]; rfl, hB g hb, hV.lt, by rw [List.length_append]; exact hnc, hcm, fun j u hj => ?_, fun j hj => ?_⟩
    · have hj' : j < (L.length + 1) * 3 := by
        rcases Nat.lt_or_ge j ((L.length + 1) * 3) with h | h
        · exact h
        · rw [List.getElem?_eq_none (by rw [flatL_len, List.length_append]; exact h)] at hj; cases hj
      rw [Nat.zero_add, ho'.cellAt j hj', ← hfl]
      exact hj
    · rw [List.length_append, List.length_singleton] at hj ⊢
      rw [hV.cell, hV.frozen]
      exact ⟨by simp; rw [hcs]; omega, rfl⟩
theorem wk_cons {σ : Type} {F : FsD} {see : σ → PlD → σ × Bool} {k : Nat} {s : σ} {p : PlD} {q : List PlD} {r : σ × Bool} (h : wk F see (k + 1) s (p :: q) = some r) :
    PlG F p q ∧ ((entO F p.2.2.toNat = false ∧ r = (s, false)) ∨ (entO F p.2.2.toNat = true ∧ (((stp see p (dirE F p.2.2.toNat) s (p :: q)).2.2 = false ∧ r = ((stp see p (dirE F p.2.2.toNat) s (p :: q)).1, false)) ∨ ((stp see p (dirE F p.2.2.toNat) s (p :: q)).2.2 = true ∧ wk F see k (stp see p (dirE F p.2.2.toNat) s (p :: q)).1 (stp see p (dirE F p.2.2.toNat) s (p :: q)).2.1.tail = some r)))) := by
  unfold wk at h
  by_cases hG : PlG F p q
  · rw [if_pos hG] at h
    refine ⟨hG, ?_⟩
    cases he : entO F p.2.2.toNat with
    | false =>
      rw [if_neg (by rw [he]; decide)] at h
      exact .inl ⟨rfl, (Option.some.inj h).symm⟩
    | true =>
      rw [if_pos he] at h
      cases hs : (stp see p (dirE F p.2.2.toNat) s (p :: q)).2.2 with
      | false =>
        rw [if_neg (by rw [hs]; decide)] at h
        exact .inr ⟨rfl, .inl ⟨rfl, (Option.some.inj h).symm⟩⟩
      | true =>
        rw [if_pos hs] at h
        exact .inr ⟨rfl, .inr ⟨rfl, h⟩⟩
  · rw [if_neg hG] at h
    cases h
end Go.Proofs.YthfgfhbinggpfaaDoor
