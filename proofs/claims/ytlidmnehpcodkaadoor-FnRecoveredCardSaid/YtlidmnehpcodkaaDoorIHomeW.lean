/-
  Own text: whether a disk is one for n home blocks; the home blocks, as the program reads them.
-/
import Derived.Test.YtlidmnehpcodkaaDoorITxW
import Derived.Test.YtlidmnehpcodkaaDoorSHomeW
import Derived.Test.YtlidmnehpcodkaaDoorBunI
import Derived.Test.YtlidmnehpcodkaaDoorCloneW
import Derived.Deep.RegionHeld3
namespace Go.Proofs.YtlidmnehpcodkaaDoor
open Go.RowKit

section
variable {P : Program} {md : Region.Mode} {ops : Array Oper} {Q : Exit → Act → World → Prop} {S : World → Prop} {i d : Nat} {oi : Oper} {fuel : Nat} {listed : Array Bool} {a : Act} {w : World}
/-- An operation that yields v in whatever world, taken first. -/
theorem held_take {v : Value} (hi : ops[i]? = some oi) (hd : oi.dst = some d)
    (hs : Region.noSelect ops = true) (hf : Region.free md ops listed i = true) (hr : (Region.ready md ops listed).contains i = true)
    (hw : Region.wanted oi (yielded ops a.tmps) = true) (hv : ∀ w, S w → (execOp a.eval oi).run P w = .ok (.value v) w) (hS : S w)
    (h : wpAnyH P md ops (NoPanic Q) S fuel (listed.setIfInBounds i true) (a.put (some d) v) w) : wpAnyH P md ops (NoPanic Q) S (fuel + 1) listed a w :=
  wpAnyH_take hi hs hf hr (fun _ _ _ h => h.elim) (.inl ⟨hw, hv⟩) hS (by rw [hd]; exact h)
/-- An operation whose guard says no is passed over. -/
theorem held_skip (hi : ops[i]? = some oi) (hd : oi.dst = some d)
    (hs : Region.noSelect ops = true) (hf : Region.free md ops listed i = true) (hr : (Region.ready md ops listed).contains i = true)
    (hn : Region.wanted oi (yielded ops a.tmps) = false) (hS : S w)
    (h : wpAnyH P md ops (NoPanic Q) S fuel (listed.setIfInBounds i true) (a.put (some d) undef) w) : wpAnyH P md ops (NoPanic Q) S (fuel + 1) listed a w :=
  wpAnyH_take hi hs hf hr (fun _ _ _ h => h.elim) (.inr ⟨hn, rfl⟩) hS (by rw [hd]; exact h)
end

theorem okJ_parts (d : DiskD) (n : Int) : okJ d n = (dkOk d && (decide (1 ≤ n) && decide (n ≤ 48)) && decide ((d.1.length : Int) = 2 * n + 1)) := rfl

set_option maxRecDepth 20000 in
set_option maxHeartbeats 2000000 in
theorem implJournaled (P : Nat) (a b : Option Addr) (ca cb : Nat) (d : DiskD) (n : Int) (w : World) (hl : d.1.length ≤ 4194304 ∧ d.2.length ≤ 4194304)
    (hc0 : w.cell? ⟨P, 0, none⟩ = some (.slice a d.1.length ca)) (hc1 : w.cell? ⟨P, 1, none⟩ = some (.slice b d.2.length cb)) (r1 : RdS w a d.1) (r2 : RdF encP 2 w b d.2) :
    Calls Tryd.prog 46 #[.pointer (some ⟨P, 0, none⟩), .int .i64 n] w fun e w' => e = .returned (.bool (okJ d n)) ∧ Below w.heap.size w w' := by
  have HOK : Hid (∀ R, dkOk d = R → ∀ W, Below w.heap.size w W → Calls Tryd.prog 60 #[.pointer (some ⟨P, 0, none⟩)] W fun e w' => e = .returned (.bool R) ∧ Below W.heap.size W w') := by
    rintro R rfl W h
    exact implOk P a b ca cb d W hl ((h.cell (World.block_lt_of_cell? _ _ hc0)).trans hc0) ((h.cell (World.block_lt_of_cell? _ _ hc1)).trans hc1) (r1.below h (Nat.le_refl _)) (r2.below h (Nat.le_refl _))
  have HIN : Hid (∀ Q, (decide (1 ≤ n) && decide (n ≤ 48)) = Q → ∀ W, Calls Tryd.prog 96 #[.int .i64 n] W fun e w' => e = .returned (.bool Q) ∧ w' = W) := by
    rintro Q rfl W
    exact implHomesOk n W
  have HC : Hid (∀ W, Below w.heap.size w W → W.cell? ⟨P, 0, none⟩ = some (.slice a d.1.length ca)) := fun W h => (h.cell (World.block_lt_of_cell? _ _ hc0)).trans hc0
  have hl1 := hl.1
  clear r1 r2 hc1 hl
  cases hok : dkOk d with
  | false =>
    have HF : Hid (okJ d n = false) := by show _ = _; rw [okJ_parts, hok]; rfl
    have H1 := HOK.out false hok
    have HD2 : Hid (∀ W, Below w.heap.size w W → Calls Tryd.prog 60 #[.pointer (some ⟨P, 0, none⟩)] W fun e w' => e = .returned (.bool false) ∧ Below W.heap.size W w') := H1
    clear H1 HOK hok
    go_enter Tryd.func46, Tryd.ntmps46
    go_wp2
    refine wp_region_noPanic ?_
    refine wp_region_held_drew (S := fun _ => True) (by kernel_rfl) trivial (fun _ => ?_)
    refine held_take (i := 0) (v := .pointer (some ⟨P, 0, none⟩)) rfl rfl (by kernel_rfl) (by kernel_rfl) (by kernel_rfl) (by kernel_rfl) (fun W _ => by go_simp) trivial ?_
    simp only [Act.put, List.setIfInBounds_toArray, List.set_cons_zero, List.set_cons_succ]
    refine wpAnyH_ready (rs := [1]) (by kernel_rfl) (by simp) (AllReadyH.cons rfl (fun K hK => ?_) AllReadyH.nil)
    go_simp
    refine (HD2.out w.drew (Below.refl _ w).drew).mono ?_
    rintro e w1 ⟨rfl, hb1⟩
    have hB1 : Below w.heap.size w w1 := (Below.refl _ w).drew.trans hb1
    clear hb1
    refine hK.out _ _ trivial (fun _ => ?_)
    clear hK K
    try simp only [Act.put, List.setIfInBounds_toArray, List.set_cons_zero, List.set_cons_succ]
    refine held_take (i := 2) (v := .bool false) rfl rfl (by kernel_rfl) (by kernel_rfl) (by kernel_rfl) (by kernel_rfl) (fun W _ => by go_simp) trivial ?_
    simp only [Act.put, List.setIfInBounds_toArray, List.set_cons_zero, List.set_cons_succ]
    refine held_skip (i := 3) rfl rfl (by kernel_rfl) (by kernel_rfl) (by kernel_rfl) (by kernel_rfl) trivial ?_
    simp only [Act.put, List.setIfInBounds_toArray, List.set_cons_zero, List.set_cons_succ]
    refine held_skip (i := 4) rfl rfl (by kernel_rfl) (by kernel_rfl) (by kernel_rfl) (by kernel_rfl) trivial ?_
    simp only [Act.put, List.setIfInBounds_toArray, List.set_cons_zero, List.set_cons_succ]
    refine held_take (i := 5) (v := .bool false) rfl rfl (by kernel_rfl) (by kernel_rfl) (by kernel_rfl) (by kernel_rfl) (fun W _ => by go_simp) trivial ?_
    simp only [Act.put, List.setIfInBounds_toArray, List.set_cons_zero, List.set_cons_succ]
    refine held_take (i := 6) (v := .bool false) rfl rfl (by kernel_rfl) (by kernel_rfl) (by kernel_rfl) (by kernel_rfl) (fun W _ => by go_simp) trivial ?_
    simp only [Act.put, List.setIfInBounds_toArray, List.set_cons_zero, List.set_cons_succ]
    refine held_skip (i := 7) rfl rfl (by kernel_rfl) (by kernel_rfl) (by kernel_rfl) (by kernel_rfl) trivial ?_
    simp only [Act.put, List.setIfInBounds_toArray, List.set_cons_zero, List.set_cons_succ]
    refine held_skip (i := 8) rfl rfl (by kernel_rfl) (by kernel_rfl) (by kernel_rfl) (by kernel_rfl) trivial ?_
    simp only [Act.put, List.setIfInBounds_toArray, List.set_cons_zero, List.set_cons_succ]
    refine held_skip (i := 9) rfl rfl (by kernel_rfl) (by kernel_rfl) (by kernel_rfl) (by kernel_rfl) trivial ?_
    simp only [Act.put, List.setIfInBounds_toArray, List.set_cons_zero, List.set_cons_succ]
    refine held_skip (i := 10) rfl rfl (by kernel_rfl) (by kernel_rfl) (by kernel_rfl) (by kernel_rfl) trivial ?_
    simp only [Act.put, List.setIfInBounds_toArray, List.set_cons_zero, List.set_cons_succ]
    refine held_skip (i := 11) rfl rfl (by kernel_rfl) (by kernel_rfl) (by kernel_rfl) (by kernel_rfl) trivial ?_
    simp only [Act.put, List.setIfInBounds_toArray, List.set_cons_zero, List.set_cons_succ]
    refine held_skip (i := 12) rfl rfl (by kernel_rfl) (by kernel_rfl) (by kernel_rfl) (by kernel_rfl) trivial ?_
    simp only [Act.put, List.setIfInBounds_toArray, List.set_cons_zero, List.set_cons_succ]
    refine held_skip (i := 13) rfl rfl (by kernel_rfl) (by kernel_rfl) (by kernel_rfl) (by kernel_rfl) trivial ?_
    simp only [Act.put, List.setIfInBounds_toArray, List.set_cons_zero, List.set_cons_succ]
    refine held_skip (i := 14) rfl rfl (by kernel_rfl) (by kernel_rfl) (by kernel_rfl) (by kernel_rfl) trivial ?_
    simp only [Act.put, List.setIfInBounds_toArray, List.set_cons_zero, List.set_cons_succ]
    refine held_skip (i := 15) rfl rfl (by kernel_rfl) (by kernel_rfl) (by kernel_rfl) (by kernel_rfl) trivial ?_
    simp only [Act.put, List.setIfInBounds_toArray, List.set_cons_zero, List.set_cons_succ]
    refine held_skip (i := 16) rfl rfl (by kernel_rfl) (by kernel_rfl) (by kernel_rfl) (by kernel_rfl) trivial ?_
    simp only [Act.put, List.setIfInBounds_toArray, List.set_cons_zero, List.set_cons_succ]
    refine held_take (i := 17) (v := .bool false) rfl rfl (by kernel_rfl) (by kernel_rfl) (by kernel_rfl) (by kernel_rfl) (fun W _ => by go_simp) trivial ?_
    simp only [Act.put, List.setIfInBounds_toArray, List.set_cons_zero, List.set_cons_succ]
    refine held_take (i := 18) (v := .bool false) rfl rfl (by kernel_rfl) (by kernel_rfl) (by kernel_rfl) (by kernel_rfl) (fun W _ => by go_simp) trivial ?_
    simp only [Act.put, List.setIfInBounds_toArray, List.set_cons_zero, List.set_cons_succ]
    refine wpAnyH_done (by kernel_rfl) ?_ _
    simp only [NoPanic]
    go_wp2
    go_ret
    exact ⟨by rw [HF.out]; rfl, hB1⟩
  | true =>
    have H1 := HOK.out true hok
    have HD2 : Hid (∀ W, Below w.heap.size w W → Calls Tryd.prog 60 #[.pointer (some ⟨P, 0, none⟩)] W fun e w' => e = .returned (.bool true) ∧ Below W.heap.size W w') := H1
    clear H1 HOK
    cases hin : (decide (1 ≤ n) && decide (n ≤ 48)) with
    | false =>
      have HF : Hid (okJ d n = false) := by show _ = _; rw [okJ_parts, hok, hin]; rfl
      have H2 := HIN.out false hin
      have HI2 : Hid (∀ W, Calls Tryd.prog 96 #[.int .i64 n] W fun e w' => e = .returned (.bool false) ∧ w' = W) := H2
      clear H2 HIN hok hin
      go_enter Tryd.func46, Tryd.ntmps46
      go_wp2
      refine wp_region_noPanic ?_
      refine wp_region_held_drew (S := fun _ => True) (by kernel_rfl) trivial (fun _ => ?_)
      refine held_take (i := 0) (v := .pointer (some ⟨P, 0, none⟩)) rfl rfl (by kernel_rfl) (by kernel_rfl) (by kernel_rfl) (by kernel_rfl) (fun W _ => by go_simp) trivial ?_
      simp only [Act.put, List.setIfInBounds_toArray, List.set_cons_zero, List.set_cons_succ]
      refine wpAnyH_ready (rs := [1]) (by kernel_rfl) (by simp) (AllReadyH.cons rfl (fun K hK => ?_) AllReadyH.nil)
      go_simp
      refine (HD2.out w.drew (Below.refl _ w).drew).mono ?_
      rintro e w1 ⟨rfl, hb1⟩
      have hB1 : Below w.heap.size w w1 := (Below.refl _ w).drew.trans hb1
      clear hb1
      refine hK.out _ _ trivial (fun _ => ?_)
      clear hK K
      try simp only [Act.put, List.setIfInBounds_toArray, List.set_cons_zero, List.set_cons_succ]
      refine held_take (i := 2) (v := .bool true) rfl rfl (by kernel_rfl) (by kernel_rfl) (by kernel_rfl) (by kernel_rfl) (fun W _ => by go_simp) trivial ?_
      simp only [Act.put, List.setIfInBounds_toArray, List.set_cons_zero, List.set_cons_succ]
      refine held_take (i := 3) (v := .int .i64 n) rfl rfl (by kernel_rfl) (by kernel_rfl) (by kernel_rfl) (by kernel_rfl) (fun W _ => by go_simp) trivial ?_
      simp only [Act.put, List.setIfInBounds_toArray, List.set_cons_zero, List.set_cons_succ]
      refine wpAnyH_ready (rs := [4]) (by kernel_rfl) (by simp) (AllReadyH.cons rfl (fun K hK => ?_) AllReadyH.nil)
      go_simp
      refine (HI2.out w1).mono ?_
      rintro e w2 ⟨rfl, hw2⟩
      subst w2
      refine hK.out _ _ trivial (fun _ => ?_)
      clear hK K
      try simp only [Act.put, List.setIfInBounds_toArray, List.set_cons_zero, List.set_cons_succ]
      refine held_take (i := 5) (v := .bool false) rfl rfl (by kernel_rfl) (by kernel_rfl) (by kernel_rfl) (by kernel_rfl) (fun W _ => by go_simp) trivial ?_
      simp only [Act.put, List.setIfInBounds_toArray, List.set_cons_zero, List.set_cons_succ]
      refine held_take (i := 6) (v := .bool false) rfl rfl (by kernel_rfl) (by kernel_rfl) (by kernel_rfl) (by kernel_rfl) (fun W _ => by go_simp) trivial ?_
      simp only [Act.put, List.setIfInBounds_toArray, List.set_cons_zero, List.set_cons_succ]
      refine held_skip (i := 7) rfl rfl (by kernel_rfl) (by kernel_rfl) (by kernel_rfl) (by kernel_rfl) trivial ?_
      simp only [Act.put, List.setIfInBounds_toArray, List.set_cons_zero, List.set_cons_succ]
      refine held_skip (i := 8) rfl rfl (by kernel_rfl) (by kernel_rfl) (by kernel_rfl) (by kernel_rfl) trivial ?_
      simp only [Act.put, List.setIfInBounds_toArray, List.set_cons_zero, List.set_cons_succ]
      refine held_skip (i := 9) rfl rfl (by kernel_rfl) (by kernel_rfl) (by kernel_rfl) (by kernel_rfl) trivial ?_
      simp only [Act.put, List.setIfInBounds_toArray, List.set_cons_zero, List.set_cons_succ]
      refine held_skip (i := 10) rfl rfl (by kernel_rfl) (by kernel_rfl) (by kernel_rfl) (by kernel_rfl) trivial ?_
      simp only [Act.put, List.setIfInBounds_toArray, List.set_cons_zero, List.set_cons_succ]
      refine held_skip (i := 11) rfl rfl (by kernel_rfl) (by kernel_rfl) (by kernel_rfl) (by kernel_rfl) trivial ?_
      simp only [Act.put, List.setIfInBounds_toArray, List.set_cons_zero, List.set_cons_succ]
      refine held_skip (i := 12) rfl rfl (by kernel_rfl) (by kernel_rfl) (by kernel_rfl) (by kernel_rfl) trivial ?_
      simp only [Act.put, List.setIfInBounds_toArray, List.set_cons_zero, List.set_cons_succ]
      refine held_skip (i := 13) rfl rfl (by kernel_rfl) (by kernel_rfl) (by kernel_rfl) (by kernel_rfl) trivial ?_
      simp only [Act.put, List.setIfInBounds_toArray, List.set_cons_zero, List.set_cons_succ]
      refine held_skip (i := 14) rfl rfl (by kernel_rfl) (by kernel_rfl) (by kernel_rfl) (by kernel_rfl) trivial ?_
      simp only [Act.put, List.setIfInBounds_toArray, List.set_cons_zero, List.set_cons_succ]
      refine held_skip (i := 15) rfl rfl (by kernel_rfl) (by kernel_rfl) (by kernel_rfl) (by kernel_rfl) trivial ?_
      simp only [Act.put, List.setIfInBounds_toArray, List.set_cons_zero, List.set_cons_succ]
      refine held_skip (i := 16) rfl rfl (by kernel_rfl) (by kernel_rfl) (by kernel_rfl) (by kernel_rfl) trivial ?_
      simp only [Act.put, List.setIfInBounds_toArray, List.set_cons_zero, List.set_cons_succ]
      refine held_take (i := 17) (v := .bool false) rfl rfl (by kernel_rfl) (by kernel_rfl) (by kernel_rfl) (by kernel_rfl) (fun W _ => by go_simp) trivial ?_
      simp only [Act.put, List.setIfInBounds_toArray, List.set_cons_zero, List.set_cons_succ]
      refine held_take (i := 18) (v := .bool false) rfl rfl (by kernel_rfl) (by kernel_rfl) (by kernel_rfl) (by kernel_rfl) (fun W _ => by go_simp) trivial ?_
      simp only [Act.put, List.setIfInBounds_toArray, List.set_cons_zero, List.set_cons_succ]
      refine wpAnyH_done (by kernel_rfl) ?_ _
      simp only [NoPanic]
      go_wp2
      go_ret
      exact ⟨by rw [HF.out]; rfl, hB1⟩
    | true =>
      have hn1 : 1 ≤ n := by simp at hin; omega
      have hn2 : n ≤ 48 := by simp at hin; omega
      have H2 := HIN.out true hin
      have HI2 : Hid (∀ W, Calls Tryd.prog 96 #[.int .i64 n] W fun e w' => e = .returned (.bool true) ∧ w' = W) := H2
      have HF0 : Hid (okJ d n = decide ((d.1.length : Int) = 2 * n + 1)) := by show _ = _; rw [okJ_parts, hok, hin]; rfl
      have z0 := HC.out w.drew (Below.refl _ w).drew
      have hwr : IntKind.i64.wrap (n + 1 + n) = n + 1 + n := by rw [IntKind.wrap_i64]; omega
      clear H2 HIN hok hin
      by_cases hE : (d.1.length : Int) = n + 1 + n
      · have HF : Hid (okJ d n = true) := by show _ = _; rw [HF0.out]; exact decide_eq_true (by omega)
        clear HF0
        go_enter Tryd.func46, Tryd.ntmps46
        go_wp2
        refine wp_region_noPanic ?_
        refine wp_region_held_drew (S := fun W => W.cell? ⟨P, 0, none⟩ = some (.slice a d.1.length ca)) (by kernel_rfl) z0 (fun _ => ?_)
        refine held_take (i := 0) (v := .pointer (some ⟨P, 0, none⟩)) rfl rfl (by kernel_rfl) (by kernel_rfl) (by kernel_rfl) (by kernel_rfl) (fun W _ => by go_simp) z0 ?_
        simp only [Act.put, List.setIfInBounds_toArray, List.set_cons_zero, List.set_cons_succ]
        refine wpAnyH_ready (rs := [1]) (by kernel_rfl) (by simp) (AllReadyH.cons rfl (fun K hK => ?_) AllReadyH.nil)
        go_simp
        refine (HD2.out w.drew (Below.refl _ w).drew).mono ?_
        rintro e w1 ⟨rfl, hb1⟩
        have hB1 : Below w.heap.size w w1 := (Below.refl _ w).drew.trans hb1
        have z1 := HC.out w1 hB1
        clear hb1
        refine hK.out _ _ z1 (fun _ => ?_)
        clear hK K
        try simp only [Act.put, List.setIfInBounds_toArray, List.set_cons_zero, List.set_cons_succ]
        refine held_take (i := 2) (v := .bool true) rfl rfl (by kernel_rfl) (by kernel_rfl) (by kernel_rfl) (by kernel_rfl) (fun W _ => by go_simp) z1 ?_
        simp only [Act.put, List.setIfInBounds_toArray, List.set_cons_zero, List.set_cons_succ]
        refine held_take (i := 3) (v := .int .i64 n) rfl rfl (by kernel_rfl) (by kernel_rfl) (by kernel_rfl) (by kernel_rfl) (fun W _ => by go_simp) z1 ?_
        simp only [Act.put, List.setIfInBounds_toArray, List.set_cons_zero, List.set_cons_succ]
        refine wpAnyH_ready (rs := [4]) (by kernel_rfl) (by simp) (AllReadyH.cons rfl (fun K hK => ?_) AllReadyH.nil)
        go_simp
        refine (HI2.out w1).mono ?_
        rintro e w2 ⟨rfl, hw2⟩
        subst w2
        refine hK.out _ _ z1 (fun _ => ?_)
        clear hK K
        try simp only [Act.put, List.setIfInBounds_toArray, List.set_cons_zero, List.set_cons_succ]
        refine held_take (i := 5) (v := .bool true) rfl rfl (by kernel_rfl) (by kernel_rfl) (by kernel_rfl) (by kernel_rfl) (fun W _ => by go_simp) z1 ?_
        simp only [Act.put, List.setIfInBounds_toArray, List.set_cons_zero, List.set_cons_succ]
        refine held_take (i := 6) (v := .bool true) rfl rfl (by kernel_rfl) (by kernel_rfl) (by kernel_rfl) (by kernel_rfl) (fun W _ => by go_simp) z1 ?_
        simp only [Act.put, List.setIfInBounds_toArray, List.set_cons_zero, List.set_cons_succ]
        refine held_take (i := 7) (v := .pointer (some ⟨P, 0, none⟩)) rfl rfl (by kernel_rfl) (by kernel_rfl) (by kernel_rfl) (by kernel_rfl) (fun W _ => by go_simp) z1 ?_
        simp only [Act.put, List.setIfInBounds_toArray, List.set_cons_zero, List.set_cons_succ]
        refine held_take (i := 8) (v := .pointer (some ⟨P, 0, none⟩)) rfl rfl (by kernel_rfl) (by kernel_rfl) (by kernel_rfl) (by kernel_rfl) (fun W _ => by go_simp) z1 ?_
        simp only [Act.put, List.setIfInBounds_toArray, List.set_cons_zero, List.set_cons_succ]
        refine held_take (i := 9) (v := .pointer (some ⟨P, 0, none⟩)) rfl rfl (by kernel_rfl) (by kernel_rfl) (by kernel_rfl) (by kernel_rfl) (fun W _ => by go_simp) z1 ?_
        simp only [Act.put, List.setIfInBounds_toArray, List.set_cons_zero, List.set_cons_succ]
        refine held_take (i := 10) (v := .slice a d.1.length ca) rfl rfl (by kernel_rfl) (by kernel_rfl) (by kernel_rfl) (by kernel_rfl) (fun W hW => by go_simp) z1 ?_
        simp only [Act.put, List.setIfInBounds_toArray, List.set_cons_zero, List.set_cons_succ]
        refine held_take (i := 11) (v := .int .i64 d.1.length) rfl rfl (by kernel_rfl) (by kernel_rfl) (by kernel_rfl) (by kernel_rfl) (fun W _ => by go_simp) z1 ?_
        simp only [Act.put, List.setIfInBounds_toArray, List.set_cons_zero, List.set_cons_succ]
        refine held_take (i := 12) (v := .int .i64 n) rfl rfl (by kernel_rfl) (by kernel_rfl) (by kernel_rfl) (by kernel_rfl) (fun W _ => by go_simp) z1 ?_
        simp only [Act.put, List.setIfInBounds_toArray, List.set_cons_zero, List.set_cons_succ]
        refine held_take (i := 14) (v := .int .i64 n) rfl rfl (by kernel_rfl) (by kernel_rfl) (by kernel_rfl) (by kernel_rfl) (fun W _ => by go_simp) z1 ?_
        simp only [Act.put, List.setIfInBounds_toArray, List.set_cons_zero, List.set_cons_succ]
        refine wpAnyH_ready (rs := [13]) (by kernel_rfl) (by simp) (AllReadyH.cons rfl (fun K hK => ?_) AllReadyH.nil)
        go_simp
        refine (implHomeAt n w1 (by omega) (by omega)).mono ?_
        rintro e w2 ⟨rfl, hw2⟩
        subst w2
        refine hK.out _ _ z1 (fun _ => ?_)
        clear hK K
        try simp only [Act.put, List.setIfInBounds_toArray, List.set_cons_zero, List.set_cons_succ]
        refine held_take (i := 15) (v := .int .i64 (n + 1 + n)) rfl rfl (by kernel_rfl) (by kernel_rfl) (by kernel_rfl) (by kernel_rfl) (fun W _ => by go_simp) z1 ?_
        simp only [Act.put, List.setIfInBounds_toArray, List.set_cons_zero, List.set_cons_succ]
        refine held_take (i := 16) (v := .bool true) rfl rfl (by kernel_rfl) (by kernel_rfl) (by kernel_rfl) (by kernel_rfl) (fun W _ => by go_simp) z1 ?_
        simp only [Act.put, List.setIfInBounds_toArray, List.set_cons_zero, List.set_cons_succ]
        refine held_take (i := 17) (v := .bool true) rfl rfl (by kernel_rfl) (by kernel_rfl) (by kernel_rfl) (by kernel_rfl) (fun W _ => by go_simp) z1 ?_
        simp only [Act.put, List.setIfInBounds_toArray, List.set_cons_zero, List.set_cons_succ]
        refine held_take (i := 18) (v := .bool true) rfl rfl (by kernel_rfl) (by kernel_rfl) (by kernel_rfl) (by kernel_rfl) (fun W _ => by go_simp) z1 ?_
        simp only [Act.put, List.setIfInBounds_toArray, List.set_cons_zero, List.set_cons_succ]
        refine wpAnyH_done (by kernel_rfl) ?_ _
        simp only [NoPanic]
        go_wp2
        go_ret
        exact ⟨by rw [HF.out]; rfl, hB1⟩
      · have HF : Hid (okJ d n = false) := by show _ = _; rw [HF0.out]; exact decide_eq_false (by omega)
        clear HF0
        go_enter Tryd.func46, Tryd.ntmps46
        go_wp2
        refine wp_region_noPanic ?_
        refine wp_region_held_drew (S := fun W => W.cell? ⟨P, 0, none⟩ = some (.slice a d.1.length ca)) (by kernel_rfl) z0 (fun _ => ?_)
        refine held_take (i := 0) (v := .pointer (some ⟨P, 0, none⟩)) rfl rfl (by kernel_rfl) (by kernel_rfl) (by kernel_rfl) (by kernel_rfl) (fun W _ => by go_simp) z0 ?_
        simp only [Act.put, List.setIfInBounds_toArray, List.set_cons_zero, List.set_cons_succ]
        refine wpAnyH_ready (rs := [1]) (by kernel_rfl) (by simp) (AllReadyH.cons rfl (fun K hK => ?_) AllReadyH.nil)
        go_simp
        refine (HD2.out w.drew (Below.refl _ w).drew).mono ?_
        rintro e w1 ⟨rfl, hb1⟩
        have hB1 : Below w.heap.size w w1 := (Below.refl _ w).drew.trans hb1
        have z1 := HC.out w1 hB1
        clear hb1
        refine hK.out _ _ z1 (fun _ => ?_)
        clear hK K
        try simp only [Act.put, List.setIfInBounds_toArray, List.set_cons_zero, List.set_cons_succ]
        refine held_take (i := 2) (v := .bool true) rfl rfl (by kernel_rfl) (by kernel_rfl) (by kernel_rfl) (by kernel_rfl) (fun W _ => by go_simp) z1 ?_
        simp only [Act.put, List.setIfInBounds_toArray, List.set_cons_zero, List.set_cons_succ]
        refine held_take (i := 3) (v := .int .i64 n) rfl rfl (by kernel_rfl) (by kernel_rfl) (by kernel_rfl) (by kernel_rfl) (fun W _ => by go_simp) z1 ?_
        simp only [Act.put, List.setIfInBounds_toArray, List.set_cons_zero, List.set_cons_succ]
        refine wpAnyH_ready (rs := [4]) (by kernel_rfl) (by simp) (AllReadyH.cons rfl (fun K hK => ?_) AllReadyH.nil)
        go_simp
        refine (HI2.out w1).mono ?_
        rintro e w2 ⟨rfl, hw2⟩
        subst w2
        refine hK.out _ _ z1 (fun _ => ?_)
        clear hK K
        try simp only [Act.put, List.setIfInBounds_toArray, List.set_cons_zero, List.set_cons_succ]
        refine held_take (i := 5) (v := .bool true) rfl rfl (by kernel_rfl) (by kernel_rfl) (by kernel_rfl) (by kernel_rfl) (fun W _ => by go_simp) z1 ?_
        simp only [Act.put, List.setIfInBounds_toArray, List.set_cons_zero, List.set_cons_succ]
        refine held_take (i := 6) (v := .bool true) rfl rfl (by kernel_rfl) (by kernel_rfl) (by kernel_rfl) (by kernel_rfl) (fun W _ => by go_simp) z1 ?_
        simp only [Act.put, List.setIfInBounds_toArray, List.set_cons_zero, List.set_cons_succ]
        refine held_take (i := 7) (v := .pointer (some ⟨P, 0, none⟩)) rfl rfl (by kernel_rfl) (by kernel_rfl) (by kernel_rfl) (by kernel_rfl) (fun W _ => by go_simp) z1 ?_
        simp only [Act.put, List.setIfInBounds_toArray, List.set_cons_zero, List.set_cons_succ]
        refine held_take (i := 8) (v := .pointer (some ⟨P, 0, none⟩)) rfl rfl (by kernel_rfl) (by kernel_rfl) (by kernel_rfl) (by kernel_rfl) (fun W _ => by go_simp) z1 ?_
        simp only [Act.put, List.setIfInBounds_toArray, List.set_cons_zero, List.set_cons_succ]
        refine held_take (i := 9) (v := .pointer (some ⟨P, 0, none⟩)) rfl rfl (by kernel_rfl) (by kernel_rfl) (by kernel_rfl) (by kernel_rfl) (fun W _ => by go_simp) z1 ?_
        simp only [Act.put, List.setIfInBounds_toArray, List.set_cons_zero, List.set_cons_succ]
        refine held_take (i := 10) (v := .slice a d.1.length ca) rfl rfl (by kernel_rfl) (by kernel_rfl) (by kernel_rfl) (by kernel_rfl) (fun W hW => by go_simp) z1 ?_
        simp only [Act.put, List.setIfInBounds_toArray, List.set_cons_zero, List.set_cons_succ]
        refine held_take (i := 11) (v := .int .i64 d.1.length) rfl rfl (by kernel_rfl) (by kernel_rfl) (by kernel_rfl) (by kernel_rfl) (fun W _ => by go_simp) z1 ?_
        simp only [Act.put, List.setIfInBounds_toArray, List.set_cons_zero, List.set_cons_succ]
        refine held_take (i := 12) (v := .int .i64 n) rfl rfl (by kernel_rfl) (by kernel_rfl) (by kernel_rfl) (by kernel_rfl) (fun W _ => by go_simp) z1 ?_
        simp only [Act.put, List.setIfInBounds_toArray, List.set_cons_zero, List.set_cons_succ]
        refine held_take (i := 14) (v := .int .i64 n) rfl rfl (by kernel_rfl) (by kernel_rfl) (by kernel_rfl) (by kernel_rfl) (fun W _ => by go_simp) z1 ?_
        simp only [Act.put, List.setIfInBounds_toArray, List.set_cons_zero, List.set_cons_succ]
        refine wpAnyH_ready (rs := [13]) (by kernel_rfl) (by simp) (AllReadyH.cons rfl (fun K hK => ?_) AllReadyH.nil)
        go_simp
        refine (implHomeAt n w1 (by omega) (by omega)).mono ?_
        rintro e w2 ⟨rfl, hw2⟩
        subst w2
        refine hK.out _ _ z1 (fun _ => ?_)
        clear hK K
        try simp only [Act.put, List.setIfInBounds_toArray, List.set_cons_zero, List.set_cons_succ]
        refine held_take (i := 15) (v := .int .i64 (n + 1 + n)) rfl rfl (by kernel_rfl) (by kernel_rfl) (by kernel_rfl) (by kernel_rfl) (fun W _ => by go_simp) z1 ?_
        simp only [Act.put, List.setIfInBounds_toArray, List.set_cons_zero, List.set_cons_succ]
        refine held_take (i := 16) (v := .bool false) rfl rfl (by kernel_rfl) (by kernel_rfl) (by kernel_rfl) (by kernel_rfl) (fun W _ => by go_simp) z1 ?_
        simp only [Act.put, List.setIfInBounds_toArray, List.set_cons_zero, List.set_cons_succ]
        refine held_take (i := 17) (v := .bool false) rfl rfl (by kernel_rfl) (by kernel_rfl) (by kernel_rfl) (by kernel_rfl) (fun W _ => by go_simp) z1 ?_
        simp only [Act.put, List.setIfInBounds_toArray, List.set_cons_zero, List.set_cons_succ]
        refine held_take (i := 18) (v := .bool false) rfl rfl (by kernel_rfl) (by kernel_rfl) (by kernel_rfl) (by kernel_rfl) (fun W _ => by go_simp) z1 ?_
        simp only [Act.put, List.setIfInBounds_toArray, List.set_cons_zero, List.set_cons_succ]
        refine wpAnyH_done (by kernel_rfl) ?_ _
        simp only [NoPanic]
        go_wp2
        go_ret
        exact ⟨by rw [HF.out]; rfl, hB1⟩

set_option maxRecDepth 20000 in
set_option maxHeartbeats 2000000 in
theorem implHomeOf (v : Value) (d : DiskD) (n : Int) (w : World) (hl : d.1.length ≤ 4194304 ∧ d.2.length ≤ 4194304) (hr : RdD w v d) :
    Calls Tryd.prog 14 #[v, .int .i64 n] w fun e w' => ∃ v', e = .returned v' ∧ w'.ownsRow w.heap.size 9 1 v' (homeD d n).length ((homeD d n).map Value.string) ∧ Below w.heap.size w w' := by
  obtain ⟨i1, gi, gz0, gz1, gz2⟩ := info_parts Tryd.infoTxt
  obtain ⟨a, ca, b, cb, rfl, r1, r2⟩ := hr
  have HV0 : Hid (Var (w.alloc (.cells #[.slice a d.1.length ca, .slice b d.2.length cb] 27)) w.heap.size #[.slice a d.1.length ca, .slice b d.2.length cb] 27) := Var.made w _ _
  have HR : Hid (∀ W, Below w.heap.size w W → RdS W a d.1 ∧ RdF encP 2 W b d.2) := fun W h => ⟨r1.below h (Nat.le_refl _), r2.below h (Nat.le_refl _)⟩
  have HJ : Hid (∀ R, okJ d n = R → Calls Tryd.prog 46 #[.pointer (some ⟨w.heap.size, 0, none⟩), .int .i64 n] (w.alloc (.cells #[.slice a d.1.length ca, .slice b d.2.length cb] 27)) fun e w' => e = .returned (.bool R) ∧ Below (w.heap.size + 1) (w.alloc (.cells #[.slice a d.1.length ca, .slice b d.2.length cb] 27)) w') := by
    rintro R rfl
    have hx := HR.out _ (below1 w (.cells #[.slice a d.1.length ca, .slice b d.2.length cb] 27))
    have := implJournaled w.heap.size a b ca cb d n _ hl (HV0.out.cell 0) (HV0.out.cell 1) hx.1 hx.2
    rwa [show (w.alloc (.cells #[.slice a d.1.length ca, .slice b d.2.length cb] 27)).heap.size = w.heap.size + 1 by simp] at this
  clear r1 r2
  cases hok : okJ d n with
  | false =>
    have HF : Hid (homeD d n = []) := homeD_no hok
    have H1 := HJ.out false hok
    have HJ2 : Hid (Calls Tryd.prog 46 #[.pointer (some ⟨w.heap.size, 0, none⟩), .int .i64 n] (w.alloc (.cells #[.slice a d.1.length ca, .slice b d.2.length cb] 27)) fun e w' => e = .returned (.bool false) ∧ Below (w.heap.size + 1) (w.alloc (.cells #[.slice a d.1.length ca, .slice b d.2.length cb] 27)) w') := H1
    clear H1 HJ hok
    go_enter Tryd.func14, Tryd.ntmps14
    go_wp2_with fail
    refine HJ2.out.mono ?_
    rintro e w1 ⟨rfl, hb1⟩
    have hb2 : Below w.heap.size w w1 := (below1 w _).trans (hb1.mono (by omega))
    go_wp2
    go_ret
    exact ⟨_, rfl, by rw [HF.out]; exact World.ownsRow_nil _ _ _ _, hb2⟩
  | true =>
    obtain ⟨hdk, hn1, hn2, hln⟩ := okJ_iff.1 hok
    have H1 := HJ.out true hok
    have HJ2 : Hid (Calls Tryd.prog 46 #[.pointer (some ⟨w.heap.size, 0, none⟩), .int .i64 n] (w.alloc (.cells #[.slice a d.1.length ca, .slice b d.2.length cb] 27)) fun e w' => e = .returned (.bool true) ∧ Below (w.heap.size + 1) (w.alloc (.cells #[.slice a d.1.length ca, .slice b d.2.length cb] 27)) w') := H1
    have HF : Hid (homeD d n = (List.range n.toNat).map fun (k : Nat) => rdAt d (n + 1 + (k : Int))) := by
      show _ = _
      unfold homeD
      rw [if_pos hok]
      refine List.map_congr_left fun k hk => ?_
      have hk2 := List.mem_range.1 hk
      have := (rd_yes (d := d) (at' := n + 1 + (k : Int)) ⟨hdk, by omega, by omega⟩).1
      unfold rdTx at this
      exact this
    have HSM : Hid (∀ k : Int, (rdAt d k).size ≤ 90) := fun k => rd_small hdk
    have HRD : Hid (∀ (k : Nat) W, k < n.toNat → Below w.heap.size w W → W.cell? ⟨w.heap.size, 0, none⟩ = some (.slice a d.1.length ca) → W.cell? ⟨w.heap.size, 1, none⟩ = some (.slice b d.2.length cb) → Calls Tryd.prog 52 #[.pointer (some ⟨w.heap.size, 0, none⟩), .int .i64 (n + 1 + (k : Int))] W fun e w' => e = .returned (.string (rdAt d (n + 1 + (k : Int)))) ∧ w' = W) :=
      fun k W hk h h0 h1 => implRead w.heap.size a b ca cb d (n + 1 + (k : Int)) W hl (by omega) (by omega) h0 h1 (HR.out W h).1 (HR.out W h).2
    clear H1 HJ hok hdk
    obtain ⟨N, rfl⟩ : ∃ N : Nat, n = (N : Int) := ⟨n.toNat, by omega⟩
    rw [show (N : Int).toNat = N by omega] at HF HRD
    go_enter Tryd.func14, Tryd.ntmps14
    go_wp2_with fail
    refine HJ2.out.mono ?_
    rintro e w1 ⟨rfl, hb1⟩
    have HV1 : Hid (Var w1 w.heap.size #[.slice a d.1.length ca, .slice b d.2.length cb] 27) := HV0.out.below hb1 (by omega)
    have HO1 : Hid (w1.ownsRow (w.heap.size + 1) 9 1 (.slice none 0 0) 0 (((List.range 0).map fun (k : Nat) => rdAt d ((N : Int) + 1 + (k : Int))).map Value.string)) := World.ownsRow_nil _ _ _ _
    have HB1 : Hid (Below w.heap.size w w1) := (below1 w _).trans (hb1.mono (by omega))
    clear HV0 HJ2 hb1
    go_wp2
    go_loopw [5, 11] (fun v i wr => ∃ k : Nat, k ≤ N ∧ i = .int .i64 k ∧ Hid (wr.ownsRow (w.heap.size + 1) 9 1 v k (((List.range k).map fun (k : Nat) => rdAt d ((N : Int) + 1 + (k : Int))).map Value.string)) ∧ Hid (Var wr w.heap.size #[.slice a d.1.length ca, .slice b d.2.length cb] 27) ∧ Hid (Below w.heap.size w wr)) (fun _ i _ => N - (intOf i).toNat)
    case atStart => exact ⟨0, Nat.zero_le _, rfl, HO1, HV1, HB1⟩
    case round =>
      obtain ⟨k, hk, rfl, HO, HV, HB⟩ := hrel
      clear HO1 HV1 HB1
      by_cases hlt : k < N
      · have hk2 : (k : Int) < (N : Int) := by omega
        have hwr : IntKind.i64.wrap ((N : Int) + 1 + (k : Int)) = (N : Int) + 1 + (k : Int) := by rw [IntKind.wrap_i64]; omega
        have HNX : Hid (((List.range (k + 1)).map fun (k : Nat) => rdAt d ((N : Int) + 1 + (k : Int))).map Value.string = ((List.range k).map fun (k : Nat) => rdAt d ((N : Int) + 1 + (k : Int))).map Value.string ++ [.string (rdAt d ((N : Int) + 1 + (k : Int)))]) := by show _ = _; rw [List.range_succ, List.map_append, List.map_append]; rfl
        have HC : Hid (Calls Tryd.prog 52 #[.pointer (some ⟨w.heap.size, 0, none⟩), .int .i64 ((N : Int) + 1 + (k : Int))] wr fun e w' => e = .returned (.string (rdAt d ((N : Int) + 1 + (k : Int)))) ∧ w' = wr) := HRD.out k wr hlt HB.out (HV.out.cell 0) (HV.out.cell 1)
        have hsz := HSM.out ((N : Int) + 1 + (k : Int))
        generalize rdAt d ((N : Int) + 1 + (k : Int)) = ys at *
        have HEQ : Hid (∀ (W : World) (v : Value), W.ownsRow (w.heap.size + 1) 9 1 v (k + 1) (((List.range k).map fun (k : Nat) => rdAt d ((N : Int) + 1 + (k : Int))).map Value.string ++ [.string ys]) → W.ownsRow (w.heap.size + 1) 9 1 v (k + 1) (((List.range (k + 1)).map fun (k : Nat) => rdAt d ((N : Int) + 1 + (k : Int))).map Value.string)) := by
          intro W v h
          rw [HNX.out]; exact h
        clear HNX
        generalize ((List.range k).map fun (k : Nat) => rdAt d ((N : Int) + 1 + (k : Int))).map Value.string = X at *
        go_wp2_with fail
        refine (implHomeAt (N : Int) _ (by omega) (by omega)).mono ?_
        rintro e w2 ⟨rfl, hw2⟩
        subst w2
        go_wp2_with fail
        refine HC.out.mono ?_
        rintro e w2 ⟨rfl, hw2⟩
        subst w2
        go_wp2_with fail
        refine (cloneT ys _ (by omega)).mono ?_
        rintro e w3 ⟨rfl, hb3⟩
        have ho3 := (ownsRow_below HO.out hb3 (Nat.le_refl _)).alloc (.cells #[.string ys] 9)
        have HV3 : Hid (Var (w3.alloc (.cells #[.string ys] 9)) w.heap.size #[.slice a d.1.length ca, .slice b d.2.length cb] 27) := (HV.out.new hb3).alloc _
        have hb4 : Below w.heap.size w (w3.alloc (.cells #[.string ys] 9)) := (HB.out.trans (hb3.mono HB.out.size)).alloc (Nat.le_trans HB.out.size hb3.size) _
        have HS3 : Hid (Src Tryd.prog 1 24 (.slice (some ⟨w3.heap.size, 0, none⟩) 1 1) 1 [.string ys] (w3.alloc (.cells #[.string ys] 9))) := src_one Tryd.underlying24 w3 (.string ys) rfl
        have hsz2 : w.heap.size + 1 ≤ (w3.alloc (.cells #[.string ys] 9)).heap.size := by have := HV3.out.lt; omega
        clear HO HV HB hb3 HC
        go_wp2_with (at_builtin; refine wpList_append_own_src _ rfl (.tmp 14) (.tmp 21) 24 24 rfl (w.heap.size + 1) 9 i1 (.string ⟨#[]⟩) 1 16 Tryd.underlying24 gi gz0 gz1 gz2 rfl _ _ _ rfl ho3 _ 1 [.string ys] rfl HS3.out (by unfold maxLen; omega) (by omega) hsz2 ?_)
        intro v5 w5 ho5 hg5
        have HB5 : Hid (Below w.heap.size w w5) := hb4.grown hg5 hb4.size (fun j hj => by have := (ho3.lt j hj).1; omega)
        have HV5 : Hid (Var w5 w.heap.size #[.slice a d.1.length ca, .slice b d.2.length cb] 27) := HV3.out.only (Only.of_grown hg5) (fun hj => by have := (ho3.lt _ hj).1; omega)
        have HO5 : Hid _ := HEQ.out w5 v5 ho5
        clear ho5 hg5 ho3 HV3 hb4 HS3 HEQ hsz hsz2
        go_wp2
        go_roundw
        case rel => exact ⟨k + 1, by omega, by go_num, HO5, HV5, HB5⟩
        case measure => simp [intOf]; omega
      · obtain rfl : k = N := by omega
        have hO := HO.out
        rw [← HF.out] at hO
        have hln2 : (homeD d (k : Int)).length = k := by rw [HF.out]; simp
        have HO9 : Hid (wr.ownsRow w.heap.size 9 1 u5 (homeD d (k : Int)).length ((homeD d (k : Int)).map Value.string)) := by show World.ownsRow _ _ _ _ _ _ _; rw [hln2]; exact ownsRow_base hO (by omega)
        have hb := HB.out
        clear hO hln2 HO
        go_wp2
        go_ret
        exact ⟨_, rfl, HO9.out, hb⟩
end Go.Proofs.YtlidmnehpcodkaaDoor
