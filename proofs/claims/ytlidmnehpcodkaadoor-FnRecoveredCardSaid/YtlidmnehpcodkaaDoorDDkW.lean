/-
  Own text: a disk for some home blocks, at rest or within a commit, as chapter 4's laws draw it.
-/
import Derived.Test.YtlidmnehpcodkaaDoorDTxW
import Derived.Test.YtlidmnehpcodkaaDoorIHomeW
import Derived.Test.YtlidmnehpcodkaaDoorCommitL
namespace Go.Proofs.YtlidmnehpcodkaaDoor
open Go.RowKit

theorem evStep_ok {d : DiskD} (h : dkOk d = true) (e : EvD) : dkOk (evStep d e) = true := by
  unfold evStep
  split
  · cases hw : dkWrite d e.2.1 e.2.2 with
    | none => exact h
    | some x => exact (read_written hw).2
  · split
    · exact (flush_ok h).1
    · exact h
theorem evDo_ok {d : DiskD} (h : dkOk d = true) (l : List EvD) : dkOk (evDo d l) = true := by
  unfold evDo
  induction l generalizing d with
  | nil => exact h
  | cons e l ih => exact ih (evStep_ok h e)
def Sm5 (l : List ByteArray) : Prop := ∀ s ∈ l, s.size ≤ 5
theorem Sm5.set {l : List ByteArray} (h : Sm5 l) (k : Nat) {s : ByteArray} (hs : s.size ≤ 5) : Sm5 (l.set k s) := by
  intro x hx
  rcases List.mem_or_eq_of_mem_set hx with hx | rfl
  · exact h x hx
  · exact hs
theorem sm5_rep (n : Nat) : Sm5 (List.replicate n ⟨#[]⟩) := by
  intro x hx
  rw [(List.mem_replicate.1 hx).2]
  decide
theorem sm5_ok {l : List ByteArray} (h : Sm5 l) (hl : l.length ≤ 120) : dkOk (l, []) = true :=
  dkOk_iff.2 ⟨hl, by simp, fun s hs => by have := h s hs; omega, fun p hp => by cases hp⟩

/-- What is drawn: the disk, for how many home blocks. -/
def DAns (w : World) (P : Nat) (x : Option Addr) (cap : Nat) (l : List Int) (e : Ending) (w' : World) : Prop :=
  ∃ (v : Value) (d : DiskD) (n : Nat), e = .returned (.tuple #[v, .int .i64 (n : Int)]) ∧ OwnD w' w.heap.size v d ∧ 1 ≤ n ∧ n ≤ 6 ∧ d.1.length = 2 * n + 1 ∧ d.2.length ≤ 400 ∧ dkOk d = true ∧ Drw w' P x cap l ∧ OnlyP P w w'

/-- The end: what lies in the variable goes into the result's place. -/
theorem DInv.fin {w W : World} {P : Nat} {x : Option Addr} {cap : Nat} {l : List Int} {Q : Nat} {a b : Option Addr} {c e : Nat} {d : DiskD} (h : DInv w W P x cap l Q a b c e d) (hP : P < w.heap.size) :
    Var ((W.setCell ⟨w.heap.size, 0, none⟩ (.slice a d.1.length c)).setCell ⟨w.heap.size, 1, none⟩ (.slice b d.2.length e)) w.heap.size #[.slice a d.1.length c, .slice b d.2.length e] 27 ∧
    OwnD ((W.setCell ⟨w.heap.size, 0, none⟩ (.slice a d.1.length c)).setCell ⟨w.heap.size, 1, none⟩ (.slice b d.2.length e)) w.heap.size (.agg #[.slice a d.1.length c, .slice b d.2.length e]) d ∧
    Drw ((W.setCell ⟨w.heap.size, 0, none⟩ (.slice a d.1.length c)).setCell ⟨w.heap.size, 1, none⟩ (.slice b d.2.length e)) P x cap l ∧
    OnlyP P w ((W.setCell ⟨w.heap.size, 0, none⟩ (.slice a d.1.length c)).setCell ⟨w.heap.size, 1, none⟩ (.slice b d.2.length e)) ∧
    W.cell? ⟨w.heap.size, 0, none⟩ = some (.slice none 0 0) ∧ (W.setCell ⟨w.heap.size, 0, none⟩ (.slice a d.1.length c)).cell? ⟨w.heap.size, 1, none⟩ = some (.slice none 0 0) ∧ W.frozen? ⟨w.heap.size, 0, none⟩ = false ∧ W.frozen? ⟨w.heap.size, 1, none⟩ = false := by
  have hR := h.res
  have hoo : Only (fun k => k = w.heap.size) W ((W.setCell ⟨w.heap.size, 0, none⟩ (.slice a d.1.length c)).setCell ⟨w.heap.size, 1, none⟩ (.slice b d.2.length e)) := Only.setCell (S := fun k => k = w.heap.size) (Only.setCell (S := fun k => k = w.heap.size) (Only.refl _ _) (p := ⟨w.heap.size, 0, none⟩) rfl _) (p := ⟨w.heap.size, 1, none⟩) rfl _
  exact ⟨hR.two _ _, ((h.own.setVar hR 0 _).setVar (hR.set 0 _) 1 _).base (by omega), h.drw.only hoo (fun k hk e => by omega), h.only.trans' (hoo.mono fun k _ e => by omega), hR.cell 0, (hR.set 0 _).cell 1, hR.frozen 0, hR.frozen 1⟩

set_option maxRecDepth 20000 in
set_option maxHeartbeats 4000000 in
theorem diskO (P : Nat) (x : Option Addr) (cap : Nat) (l : List Int) (w : World) (hd : Drw w P x cap l) :
    Calls Tryd.prog 39 #[.pointer (some ⟨P, 0, none⟩)] w (DAns w P x cap l) := by
  have hlt := hd.lt
  have HD0 : Hid (Drw (w.alloc (.cells #[.slice none 0 0, .slice none 0 0] 27)) P x cap l) := hd.alloc _
  clear hd
  go_enter Tryd.func39, Tryd.ntmps39
  go_wp2_with fail
  refine (belowO P x cap l 6 _ HD0.out (by omega) (by omega)).mono ?_
  rintro e w1 ⟨r, rfl, hr, hd1, hon1⟩
  have hR1 : Var w1 w.heap.size #[.slice none 0 0, .slice none 0 0] 27 := (Var.made w _ _).only hon1 (by show ¬ w.heap.size = P; omega)
  have hb1 : OnlyP P w w1 := (Only.of_new (below1 w _)).trans hon1
  obtain ⟨n, hn⟩ : ∃ n : Nat, n = 1 + r := ⟨_, rfl⟩
  have hn1 : 1 ≤ n := by omega
  have hn2 : n ≤ 6 := by omega
  have hwn : IntKind.i64.wrap (1 + (r : Int)) = (n : Int) := by rw [IntKind.wrap_i64]; omega
  have hw2 : IntKind.i64.wrap (2 * (n : Int)) = 2 * (n : Int) := by rw [IntKind.wrap_i64]; omega
  have hw3 : IntKind.i64.wrap (2 * (n : Int) + 1) = ((2 * n + 1 : Nat) : Int) := by rw [IntKind.wrap_i64]; omega
  have HNW : Hid (∀ W, Calls Tryd.prog 88 #[.int .i64 (2 * (n : Int) + 1)] W fun e w' => ∃ v', e = .returned (.tuple #[v', .bool true]) ∧ OwnD w' W.heap.size v' (List.replicate (2 * n + 1) ⟨#[]⟩, []) ∧ Below W.heap.size W w') := by
    intro W
    have hok : newOk (2 * (n : Int) + 1) = true := by unfold newOk; simp; omega
    have := specDiskNew (2 * (n : Int) + 1) W
    rw [hok, new_yes hok, show (2 * (n : Int) + 1).toNat = 2 * n + 1 by omega] at this
    exact this
  have HD1 : Hid (Drw w1 P x cap l) := hd1
  have hlt1 := hd1.lt
  have hs1 : w.heap.size + 1 ≤ w1.heap.size := hR1.lt
  obtain ⟨X0, hX0⟩ : ∃ M, List.replicate (2 * n + 1) (⟨#[]⟩ : ByteArray) = M := ⟨_, rfl⟩
  have HXL : Hid (X0.length = 2 * n + 1) := by show _ = _; rw [← hX0]; simp
  have HSM : Hid (Sm5 X0) := by show Sm5 X0; rw [← hX0]; exact sm5_rep _
  rw [hX0] at HNW
  have he1 : (1 : Int) + (r : Int) = (n : Int) := by omega
  clear hX0 hd1 hon1 HD0 hn
  go_wp2_with fail
  refine (HNW.out _).mono ?_
  rintro e w2 ⟨v2, rfl, ho2, hb2⟩
  have hO2 := ho2.base hs1
  obtain ⟨a1, c1, b1, e1, rfl⟩ := hO2.shape
  obtain ⟨g, rfl⟩ : ∃ g, a1 = some ⟨g, 0, none⟩ := by
    obtain ⟨v1, v2, he, o1, _⟩ := hO2
    cases he
    rcases o1.2 with ⟨_, h0⟩ | ⟨g, c, cur, h0, _⟩
    · exfalso; have h0' : X0.length = 0 := h0; have := HXL.out; omega
    · cases h0; exact ⟨g, rfl⟩
  have hR2 := hR1.new hb2
  have hs2 : w.heap.size + 1 ≤ w2.heap.size := hR2.lt
  have HI2 : Hid (DInv w (w2.alloc (.cells #[.slice (some ⟨g, 0, none⟩) X0.length c1, .slice b1 0 e1] 27)) P x cap l w2.heap.size (some ⟨g, 0, none⟩) b1 c1 e1 (X0, [])) :=
    ⟨(HD1.out.far hb2 hlt1).alloc _, hR2.alloc _, Var.made w2 _ _, hO2.below (below1 _ _), (hb1.trans (Only.of_new hb2)).trans (Only.of_new (below1 _ _))⟩
  clear HNW ho2 hO2 hb2 hR1 hR2 hb1 HD1 hs1 hlt1
  generalize hQ : w2.heap.size = Q at *
  have hQl : w.heap.size < Q := by omega
  go_wp2
  go_loopw [7] (fun i wr => ∃ (k : Nat) (X : List ByteArray), k ≤ n ∧ i = .int .i64 k ∧ Hid (X.length = 2 * n + 1) ∧ Hid (Sm5 X) ∧ Hid (DInv w wr P x cap l Q (some ⟨g, 0, none⟩) b1 c1 e1 (X, []))) (fun i _ => n - (intOf i).toNat)
  case atStart => exact ⟨0, X0, Nat.zero_le _, rfl, HXL, HSM, HI2⟩
  case round =>
    obtain ⟨k, X, hk, rfl, HXL, HSX, HI⟩ := hrel
    clear HI2 HSM
    by_cases hlt2 : k < n
    · obtain ⟨M, hM⟩ : ∃ M : Nat, n + 1 + k = M := ⟨_, rfl⟩
      obtain ⟨M2, hM2⟩ : ∃ M : Nat, 1 + k = M := ⟨_, rfl⟩
      have hMl : M < X.length := by have := HXL.out; omega
      have HW : Hid (∀ w3 s, OnlyP P wr.drew w3 → Drw w3 P x cap l → w3.cell? ⟨Q, 0, none⟩ = some (.slice (some ⟨g, 0, none⟩) X.length c1) ∧ (∃ o, w3.cell? ⟨g, M, none⟩ = some o) ∧ w3.frozen? ⟨g, M, none⟩ = false ∧ DInv w (w3.setCell ⟨g, M, none⟩ (.string s)) P x cap l Q (some ⟨g, 0, none⟩) b1 c1 e1 (X.set M s, []) ∧ (w3.setCell ⟨g, M, none⟩ (.string s)).cell? ⟨Q, 0, none⟩ = some (.slice (some ⟨g, 0, none⟩) X.length c1)) := by
        intro w3 s hon hdr
        have hon' : OnlyP P wr w3 := ⟨hon.os, hon.tape, hon.output, hon.size, hon.block⟩
        have hI3 := HI.out.step hlt hQl hdr hon'
        obtain ⟨f1, f2⟩ := hI3.cellS (j := M) hMl
        have hI4 := hI3.sector hlt M s
        have := hI4.var.cell 0
        rw [show ((X.set M s, ([] : List PutD)) : DiskD).1.length = X.length by simp] at this
        exact ⟨hI3.var.cell 0, ⟨_, f1⟩, f2, hI4, this⟩
      have HD0 : Hid (Drw wr.drew P x cap l) := HI.out.drw
      have q0 : wr.drew.cell? ⟨Q, 0, none⟩ = some (.slice (some ⟨g, 0, none⟩) X.length c1) := HI.out.var.cell 0
      have hw4 : IntKind.i64.wrap ((n : Int) + 1) = (n : Int) + 1 := by rw [IntKind.wrap_i64]; omega
      have hw5 : IntKind.i64.wrap ((n : Int) + 1 + (k : Int)) = (M : Int) := by rw [IntKind.wrap_i64]; omega
      have hw6 : IntKind.i64.wrap (1 + (k : Int)) = (M2 : Int) := by rw [IntKind.wrap_i64]; omega
      have j3 : (M : Int) < (X.length : Int) := by omega
      have hM2l : M2 < X.length := by have := HXL.out; omega
      clear hM hM2 HI
      go_wp2
      refine wp_region_noPanic ?_
      refine wp_region_held_drew (S := fun W => W.cell? ⟨Q, 0, none⟩ = some (.slice (some ⟨g, 0, none⟩) X.length c1)) (by kernel_rfl) q0 (fun _ => ?_)
      refine held_take (i := 0) (v := .pointer (some ⟨Q, 0, none⟩)) rfl rfl (by kernel_rfl) (by kernel_rfl) (by kernel_rfl) (by kernel_rfl) (fun W _ => by go_simp) q0 ?_
      simp only [Act.put, List.setIfInBounds_toArray, List.set_cons_zero, List.set_cons_succ]
      refine held_take (i := 1) (v := .slice (some ⟨g, 0, none⟩) X.length c1) rfl rfl (by kernel_rfl) (by kernel_rfl) (by kernel_rfl) (by kernel_rfl) (fun W hW => by go_simp) q0 ?_
      simp only [Act.put, List.setIfInBounds_toArray, List.set_cons_zero, List.set_cons_succ]
      refine held_take (i := 2) (v := .int .i64 (n : Int)) rfl rfl (by kernel_rfl) (by kernel_rfl) (by kernel_rfl) (by kernel_rfl) (fun W _ => by go_simp) q0 ?_
      simp only [Act.put, List.setIfInBounds_toArray, List.set_cons_zero, List.set_cons_succ]
      refine held_take (i := 3) (v := .int .i64 ((n : Int) + 1)) rfl rfl (by kernel_rfl) (by kernel_rfl) (by kernel_rfl) (by kernel_rfl) (fun W _ => by go_simp) q0 ?_
      simp only [Act.put, List.setIfInBounds_toArray, List.set_cons_zero, List.set_cons_succ]
      refine held_take (i := 4) (v := .int .i64 (k : Int)) rfl rfl (by kernel_rfl) (by kernel_rfl) (by kernel_rfl) (by kernel_rfl) (fun W _ => by go_simp) q0 ?_
      simp only [Act.put, List.setIfInBounds_toArray, List.set_cons_zero, List.set_cons_succ]
      refine held_take (i := 5) (v := .int .i64 (M : Int)) rfl rfl (by kernel_rfl) (by kernel_rfl) (by kernel_rfl) (by kernel_rfl) (fun W _ => by go_simp) q0 ?_
      simp only [Act.put, List.setIfInBounds_toArray, List.set_cons_zero, List.set_cons_succ]
      refine held_take (i := 6) (v := .pointer (some ⟨P, 0, none⟩)) rfl rfl (by kernel_rfl) (by kernel_rfl) (by kernel_rfl) (by kernel_rfl) (fun W _ => by go_simp) q0 ?_
      simp only [Act.put, List.setIfInBounds_toArray, List.set_cons_zero, List.set_cons_succ]
      refine wpAnyH_ready (rs := [7]) (by kernel_rfl) (by simp) (AllReadyH.cons rfl (fun K hK => ?_) AllReadyH.nil)
      go_simp
      refine (dataO P x cap l _ HD0.out).mono ?_
      rintro e w4 ⟨s, rfl, hs5, hd4, hon4⟩
      obtain ⟨p0, ⟨old, p1⟩, p2, h5, p5⟩ := HW.out w4 s hon4 hd4
      have HI5 : Hid (DInv w (w4.setCell ⟨g, M, none⟩ (.string s)) P x cap l Q (some ⟨g, 0, none⟩) b1 c1 e1 (X.set M s, [])) := h5
      have HS5 : Hid (Sm5 (X.set M s)) := HSX.out.set M (by omega)
      clear h5 hd4 hon4 hs5
      refine hK.out _ _ p0 (fun _ => ?_)
      clear hK K
      try simp only [Act.put, List.setIfInBounds_toArray, List.set_cons_zero, List.set_cons_succ]
      refine held_take (i := 8) (v := .pointer (some ⟨g, M, none⟩)) rfl rfl (by kernel_rfl) (by kernel_rfl) (by kernel_rfl) (by kernel_rfl) (fun W _ => by go_simp) p0 ?_
      simp only [Act.put, List.setIfInBounds_toArray, List.set_cons_zero, List.set_cons_succ]
      refine wpAnyH_ready (rs := [9]) (by kernel_rfl) (by simp) (AllReadyH.cons rfl (fun K hK => ?_) AllReadyH.nil)
      go_simp
      refine hK.out _ _ p5 (fun _ => ?_)
      clear hK K
      try simp only [Act.put, List.setIfInBounds_toArray, List.set_cons_zero, List.set_cons_succ]
      refine wpAnyH_done (by kernel_rfl) ?_ _
      simp only [NoPanic]
      obtain ⟨Y, hY⟩ : ∃ Y, X.set M s = Y := ⟨_, rfl⟩
      have HYL : Hid (Y.length = 2 * n + 1) := by show _ = _; rw [← hY, List.length_set]; exact HXL.out
      have hM2y : M2 < Y.length := by have h1 := HYL.out; have h2 := HXL.out; omega
      rw [hY] at HI5 HS5
      have HSY : Hid (Sm5 Y) := HS5
      clear HS5 HSX hY HXL HW HD0 q0 p0 p1 p2 p5 hMl hM2l j3
      go_wp2_with fail
      refine (onceO P x cap l 3 _ HI5.out.drw (by omega) (by omega)).mono ?_
      rintro e w6 ⟨q, rfl, hd6, hon6⟩
      have HI6 : Hid (DInv w w6 P x cap l Q (some ⟨g, 0, none⟩) b1 c1 e1 (Y, [])) := HI5.out.step hlt hQl hd6 hon6
      clear HI5 hd6 hon6
      cases q with
      | false =>
        go_wp2
        go_roundw
        case rel => exact ⟨k + 1, Y, by omega, by go_num, HYL, HSY, HI6⟩
        case measure => simp [intOf]; omega
      | true =>
        have HW2 : Hid (∀ w3 s, OnlyP P w6.drew w3 → Drw w3 P x cap l → w3.cell? ⟨Q, 0, none⟩ = some (.slice (some ⟨g, 0, none⟩) Y.length c1) ∧ (∃ o, w3.cell? ⟨g, M2, none⟩ = some o) ∧ w3.frozen? ⟨g, M2, none⟩ = false ∧ DInv w (w3.setCell ⟨g, M2, none⟩ (.string s)) P x cap l Q (some ⟨g, 0, none⟩) b1 c1 e1 (Y.set M2 s, []) ∧ (w3.setCell ⟨g, M2, none⟩ (.string s)).cell? ⟨Q, 0, none⟩ = some (.slice (some ⟨g, 0, none⟩) Y.length c1)) := by
          intro w3 s hon hdr
          have hon' : OnlyP P w6 w3 := ⟨hon.os, hon.tape, hon.output, hon.size, hon.block⟩
          have hI3 := HI6.out.step hlt hQl hdr hon'
          obtain ⟨f1, f2⟩ := hI3.cellS (j := M2) hM2y
          have hI4 := hI3.sector hlt M2 s
          have := hI4.var.cell 0
          rw [show ((Y.set M2 s, ([] : List PutD)) : DiskD).1.length = Y.length by simp] at this
          exact ⟨hI3.var.cell 0, ⟨_, f1⟩, f2, hI4, this⟩
        have HD6 : Hid (Drw w6.drew P x cap l) := HI6.out.drw
        have r0 : w6.drew.cell? ⟨Q, 0, none⟩ = some (.slice (some ⟨g, 0, none⟩) Y.length c1) := HI6.out.var.cell 0
        have j4 : (M2 : Int) < (Y.length : Int) := by omega
        clear HI6
        go_wp2
        refine wp_region_noPanic ?_
        refine wp_region_held_drew (S := fun W => W.cell? ⟨Q, 0, none⟩ = some (.slice (some ⟨g, 0, none⟩) Y.length c1)) (by kernel_rfl) r0 (fun _ => ?_)
        refine held_take (i := 0) (v := .pointer (some ⟨Q, 0, none⟩)) rfl rfl (by kernel_rfl) (by kernel_rfl) (by kernel_rfl) (by kernel_rfl) (fun W _ => by go_simp) r0 ?_
        simp only [Act.put, List.setIfInBounds_toArray, List.set_cons_zero, List.set_cons_succ]
        refine held_take (i := 1) (v := .slice (some ⟨g, 0, none⟩) Y.length c1) rfl rfl (by kernel_rfl) (by kernel_rfl) (by kernel_rfl) (by kernel_rfl) (fun W hW => by go_simp) r0 ?_
        simp only [Act.put, List.setIfInBounds_toArray, List.set_cons_zero, List.set_cons_succ]
        refine held_take (i := 2) (v := .int .i64 (k : Int)) rfl rfl (by kernel_rfl) (by kernel_rfl) (by kernel_rfl) (by kernel_rfl) (fun W _ => by go_simp) r0 ?_
        simp only [Act.put, List.setIfInBounds_toArray, List.set_cons_zero, List.set_cons_succ]
        refine held_take (i := 3) (v := .int .i64 (M2 : Int)) rfl rfl (by kernel_rfl) (by kernel_rfl) (by kernel_rfl) (by kernel_rfl) (fun W _ => by go_simp) r0 ?_
        simp only [Act.put, List.setIfInBounds_toArray, List.set_cons_zero, List.set_cons_succ]
        refine held_take (i := 4) (v := .pointer (some ⟨P, 0, none⟩)) rfl rfl (by kernel_rfl) (by kernel_rfl) (by kernel_rfl) (by kernel_rfl) (fun W _ => by go_simp) r0 ?_
        simp only [Act.put, List.setIfInBounds_toArray, List.set_cons_zero, List.set_cons_succ]
        refine wpAnyH_ready (rs := [5]) (by kernel_rfl) (by simp) (AllReadyH.cons rfl (fun K hK => ?_) AllReadyH.nil)
        go_simp
        refine (dataO P x cap l _ HD6.out).mono ?_
        rintro e w7 ⟨s2, rfl, hs7, hd7, hon7⟩
        obtain ⟨p10, ⟨old2, p11⟩, p12, h8, p15⟩ := HW2.out w7 s2 hon7 hd7
        have HI8 : Hid (DInv w (w7.setCell ⟨g, M2, none⟩ (.string s2)) P x cap l Q (some ⟨g, 0, none⟩) b1 c1 e1 (Y.set M2 s2, [])) := h8
        have HS8 : Hid (Sm5 (Y.set M2 s2)) := HSY.out.set M2 (by omega)
        have HL8 : Hid ((Y.set M2 s2).length = 2 * n + 1) := by show _ = _; rw [List.length_set]; exact HYL.out
        clear h8 hd7 hon7 hs7
        refine hK.out _ _ p10 (fun _ => ?_)
        clear hK K
        try simp only [Act.put, List.setIfInBounds_toArray, List.set_cons_zero, List.set_cons_succ]
        refine held_take (i := 6) (v := .pointer (some ⟨g, M2, none⟩)) rfl rfl (by kernel_rfl) (by kernel_rfl) (by kernel_rfl) (by kernel_rfl) (fun W _ => by go_simp) p10 ?_
        simp only [Act.put, List.setIfInBounds_toArray, List.set_cons_zero, List.set_cons_succ]
        refine wpAnyH_ready (rs := [7]) (by kernel_rfl) (by simp) (AllReadyH.cons rfl (fun K hK => ?_) AllReadyH.nil)
        go_simp
        refine hK.out _ _ p15 (fun _ => ?_)
        clear hK K
        try simp only [Act.put, List.setIfInBounds_toArray, List.set_cons_zero, List.set_cons_succ]
        refine wpAnyH_done (by kernel_rfl) ?_ _
        simp only [NoPanic]
        go_wp2
        go_roundw
        case rel => exact ⟨k + 1, _, by omega, by go_num, HL8, HS8, HI8⟩
        case measure => simp [intOf]; omega
    · obtain rfl : k = n := by omega
      have HSD : Hid (dkOk (X, []) = true) := sm5_ok HSX.out (by have := HXL.out; omega)
      obtain ⟨wr0, hwr0⟩ : ∃ W, wr = W := ⟨_, rfl⟩
      clear hwr0
      go_wp2_with fail
      refine (onceO P x cap l 3 _ HI.out.drw (by omega) (by omega)).mono ?_
      rintro e w3 ⟨q, rfl, hd3, hon3⟩
      have HI3 : Hid (DInv w w3 P x cap l Q (some ⟨g, 0, none⟩) b1 c1 e1 (X, [])) := HI.out.step hlt hQl hd3 hon3
      clear HI hd3 hon3
      cases q with
      | true =>
        obtain ⟨f1, f2, f3, f4, f5, f6, f7, f8⟩ := HI3.out.fin hlt
        have z0 : w3.cell? ⟨Q, 0, none⟩ = some (.slice (some ⟨g, 0, none⟩) X.length c1) := HI3.out.var.cell 0
        have z1 : w3.cell? ⟨Q, 1, none⟩ = some (.slice b1 0 e1) := HI3.out.var.cell 1
        have HF : Hid (Var ((w3.setCell ⟨w.heap.size, 0, none⟩ (.slice (some ⟨g, 0, none⟩) X.length c1)).setCell ⟨w.heap.size, 1, none⟩ (.slice b1 0 e1)) w.heap.size #[.slice (some ⟨g, 0, none⟩) X.length c1, .slice b1 0 e1] 27) := f1
        have HG : Hid (OwnD ((w3.setCell ⟨w.heap.size, 0, none⟩ (.slice (some ⟨g, 0, none⟩) X.length c1)).setCell ⟨w.heap.size, 1, none⟩ (.slice b1 0 e1)) w.heap.size (.agg #[.slice (some ⟨g, 0, none⟩) X.length c1, .slice b1 0 e1]) (X, []) ∧ Drw ((w3.setCell ⟨w.heap.size, 0, none⟩ (.slice (some ⟨g, 0, none⟩) X.length c1)).setCell ⟨w.heap.size, 1, none⟩ (.slice b1 0 e1)) P x cap l ∧ OnlyP P w ((w3.setCell ⟨w.heap.size, 0, none⟩ (.slice (some ⟨g, 0, none⟩) X.length c1)).setCell ⟨w.heap.size, 1, none⟩ (.slice b1 0 e1))) := ⟨f2, f3, f4⟩
        simp at f5 f6
        clear f1 f2 f3 f4 HI3
        go_wp2
        refine bodyPost_ret (results_row_tmp rfl _ _ w.heap.size 27 #[.slice (some ⟨g, 0, none⟩) X.length c1, .slice b1 0 e1] _ rfl HF.out Tryd.underlying27 rfl Tryd.sizeDisk) rfl ?_
        exact ⟨_, (X, []), k, rfl, HG.out.1, hn1, hn2, HXL.out, Nat.zero_le _, HSD.out, HG.out.2.1, HG.out.2.2⟩
      | false =>
        go_wp2_with fail
        refine (txO P x cap l k _ HI3.out.drw hn1 hn2).mono ?_
        rintro e w4 ⟨v4, L, rfl, hT4, hL4⟩
        have HI4 : Hid (DInv w w4 P x cap l Q (some ⟨g, 0, none⟩) b1 c1 e1 (X, [])) := HI3.out.step hlt hQl hT4.drw hT4.only
        obtain ⟨xt, ct, hxt, _, hrt⟩ := own_rdF encP_len hT4.own rfl
        subst hxt
        have HCM : Hid (Calls Tryd.prog 17 #[.int .i64 (k : Int), .slice xt L.length ct] w4 fun e w' => ∃ v, e = .returned v ∧ w'.ownsRow w4.heap.size 85 3 v (commitE (k : Int) L).length ((commitE (k : Int) L).flatMap encE) ∧ Below w4.heap.size w4 w') := specCommit xt ct L (k : Int) w4 (by omega) hrt
        have HLE : Hid ((commitE (k : Int) L).length ≤ 18) := by have := commitE_len (k : Int) L; show _ ≤ _; omega
        generalize commitE (k : Int) L = E at *
        clear HI3 hT4 hrt
        go_wp2_with fail
        refine HCM.out.mono ?_
        rintro e w5 ⟨v5, rfl, ho5, hb5⟩
        have HI5 : Hid (DInv w w5 P x cap l Q (some ⟨g, 0, none⟩) b1 c1 e1 (X, [])) := HI4.out.new hb5
        have hev : ∃ ve vc, v5 = .slice ve E.length vc ∧ E.length ≤ vc := by
          rcases ho5.2 with ⟨he, h0⟩ | ⟨gg, cc, cur, he, _, _, hc, _⟩
          · exact ⟨none, 0, by rw [he, h0], by omega⟩
          · exact ⟨_, _, he, hc⟩
        obtain ⟨ve, vc, rfl, hvc⟩ := hev
        have HO5 : Hid (w5.ownsRow w4.heap.size 85 3 (.slice ve E.length vc) E.length (E.flatMap encE)) := ho5
        have hs4 : P < w4.heap.size := HI4.out.drw.lt
        have hE18 := HLE.out
        have HW : Hid (∀ w6 (m : Nat), m ≤ E.length → OnlyP P w5.drew w6 → Drw w6 P x cap l → DInv w w6 P x cap l Q (some ⟨g, 0, none⟩) b1 c1 e1 (X, []) ∧ Calls Tryd.prog 92 #[.agg #[.slice (some ⟨g, 0, none⟩) X.length c1, .slice b1 0 e1], .slice ve m vc] w6 fun e w' => ∃ v', e = .returned v' ∧ OwnD w' w6.heap.size v' (evDo (X, []) (E.take m)) ∧ Below w6.heap.size w6 w') := by
          intro w6 m hm hon hdr
          have hon' : OnlyP P w5 w6 := ⟨hon.os, hon.tape, hon.output, hon.size, hon.block⟩
          have hI6 := HI5.out.step hlt hQl hdr hon'
          have ho6 := own_only HO5.out hon' (fun j hj e => by have := (HO5.out.lt j hj).1; omega)
          refine ⟨hI6, ?_⟩
          have hXl := HXL.out
          have hq : RdF encE 3 w6 ve (E.take m) := by
            obtain ⟨xa, xc, he, _, hr⟩ := own_rdF encE_len ho6 rfl
            cases he
            rcases hr with h0 | ⟨bb, off, rfl, h1, h2⟩
            · left; rw [h0]; simp
            · right
              refine ⟨bb, off, rfl, h1, fun i hi j hj => ?_⟩
              simp at hi
              rw [h2 i (by omega) j hj, List.getElem_take]
          have := specEventsDo _ (X, []) ve vc (E.take m) w6 ⟨by show X.length ≤ _; omega, by show 0 ≤ _; omega⟩ (by simp; omega) hI6.own.rd hq
          rwa [show (E.take m).length = m by simp; omega] at this
        have HD5 : Hid (Drw w5.drew P x cap l) := HI5.out.drw
        have y0 : w5.drew.cell? ⟨Q, 0, none⟩ = some (.slice (some ⟨g, 0, none⟩) X.length c1) := HI5.out.var.cell 0
        have y1 : w5.drew.cell? ⟨Q, 1, none⟩ = some (.slice b1 0 e1) := HI5.out.var.cell 1
        have hwl : IntKind.i64.wrap ((E.length : Int) + 1) = ((E.length + 1 : Nat) : Int) := by rw [IntKind.wrap_i64]; omega
        clear ho5 hb5 HI4 HCM HI5 HO5
        go_wp2
        refine wp_region_noPanic ?_
        refine wp_region_held_drew (S := fun _ => True) (by kernel_rfl) trivial (fun _ => ?_)
        refine held_take (i := 1) (v := .slice ve E.length vc) rfl rfl (by kernel_rfl) (by kernel_rfl) (by kernel_rfl) (by kernel_rfl) (fun W _ => by go_simp) trivial ?_
        simp only [Act.put, List.setIfInBounds_toArray, List.set_cons_zero, List.set_cons_succ]
        refine held_take (i := 2) (v := .pointer (some ⟨P, 0, none⟩)) rfl rfl (by kernel_rfl) (by kernel_rfl) (by kernel_rfl) (by kernel_rfl) (fun W _ => by go_simp) trivial ?_
        simp only [Act.put, List.setIfInBounds_toArray, List.set_cons_zero, List.set_cons_succ]
        refine held_take (i := 3) (v := .slice ve E.length vc) rfl rfl (by kernel_rfl) (by kernel_rfl) (by kernel_rfl) (by kernel_rfl) (fun W _ => by go_simp) trivial ?_
        simp only [Act.put, List.setIfInBounds_toArray, List.set_cons_zero, List.set_cons_succ]
        refine held_take (i := 4) (v := .int .i64 (E.length : Int)) rfl rfl (by kernel_rfl) (by kernel_rfl) (by kernel_rfl) (by kernel_rfl) (fun W _ => by go_simp) trivial ?_
        simp only [Act.put, List.setIfInBounds_toArray, List.set_cons_zero, List.set_cons_succ]
        refine held_take (i := 5) (v := .int .i64 ((E.length + 1 : Nat) : Int)) rfl rfl (by kernel_rfl) (by kernel_rfl) (by kernel_rfl) (by kernel_rfl) (fun W _ => by go_simp) trivial ?_
        simp only [Act.put, List.setIfInBounds_toArray, List.set_cons_zero, List.set_cons_succ]
        refine wpAnyH_ready (rs := [0, 6]) (by kernel_rfl) (by simp) (AllReadyH.cons rfl (fun K hK => ?_) (AllReadyH.cons rfl (fun K hK => ?_) AllReadyH.nil))
        · go_simp
          refine hK.out _ _ trivial (fun _ => ?_)
          clear hK K
          try simp only [Act.put, List.setIfInBounds_toArray, List.set_cons_zero, List.set_cons_succ]
          refine wpAnyH_ready (rs := [6]) (by kernel_rfl) (by simp) (AllReadyH.cons rfl (fun K hK => ?_) AllReadyH.nil)
          go_simp
          refine (belowO P x cap l (E.length + 1) _ HD5.out (by omega) (by omega)).mono ?_
          rintro e w6 ⟨m, rfl, hm, hd6, hon6⟩
          obtain ⟨h6, HEv⟩ := HW.out w6 m (by omega) hon6 hd6
          have u0 : w6.cell? ⟨Q, 0, none⟩ = some (.slice (some ⟨g, 0, none⟩) X.length c1) := h6.var.cell 0
          have u1 : w6.cell? ⟨Q, 1, none⟩ = some (.slice b1 0 e1) := h6.var.cell 1
          have HI6 : Hid (DInv w w6 P x cap l Q (some ⟨g, 0, none⟩) b1 c1 e1 (X, [])) := h6
          have HEv2 : Hid (Calls Tryd.prog 92 #[.agg #[.slice (some ⟨g, 0, none⟩) X.length c1, .slice b1 0 e1], .slice ve m vc] w6 fun e w' => ∃ v', e = .returned v' ∧ OwnD w' w6.heap.size v' (evDo (X, []) (E.take m)) ∧ Below w6.heap.size w6 w') := HEv
          have hm1 : (m : Int) ≤ (vc : Int) := by omega
          clear h6 HEv hd6 hon6
          refine hK.out _ _ trivial (fun _ => ?_)
          clear hK K
          try simp only [Act.put, List.setIfInBounds_toArray, List.set_cons_zero, List.set_cons_succ]
          refine held_take (i := 7) (v := .slice ve m vc) rfl rfl (by kernel_rfl) (by kernel_rfl) (by kernel_rfl) (by kernel_rfl) (fun W _ => by go_simp) trivial ?_
          simp only [Act.put, List.setIfInBounds_toArray, List.set_cons_zero, List.set_cons_succ]
          refine wpAnyH_ready (rs := [8]) (by kernel_rfl) (by simp) (AllReadyH.cons rfl (fun K hK => ?_) AllReadyH.nil)
          go_simp
          refine HEv2.out.mono ?_
          rintro e w7 ⟨v7, rfl, ho7, hb7⟩
          have HDL : Hid ((evDo (X, []) (E.take m)).1.length = 2 * k + 1 ∧ (evDo (X, []) (E.take m)).2.length ≤ 400) := by
            have h1 := evDo_len (X, []) (E.take m)
            have h2 := HXL.out
            have h3 : (evDo (X, []) (E.take m)).2.length ≤ max 0 400 := h1.2
            exact ⟨h1.1.trans h2, by omega⟩
          have HDS : Hid (dkOk (evDo (X, []) (E.take m)) = true) := evDo_ok HSD.out _
          generalize evDo (X, []) (E.take m) = D2 at *
          obtain ⟨a8, c8, b8, e8, rfl⟩ := ho7.shape
          obtain ⟨h8, k0, k1, k2, k3⟩ := HI6.out.put hlt hQl hb7 ho7
          have HI8 : Hid (DInv w ((w7.setCell ⟨Q, 0, none⟩ (.slice a8 D2.1.length c8)).setCell ⟨Q, 1, none⟩ (.slice b8 D2.2.length e8)) P x cap l Q a8 b8 c8 e8 D2) := h8
          clear h8 ho7 hb7
          refine hK.out _ _ trivial (fun _ => ?_)
          clear hK K
          try simp only [Act.put, List.setIfInBounds_toArray, List.set_cons_zero, List.set_cons_succ]
          refine wpAnyH_ready (rs := [9]) (by kernel_rfl) (by simp) (AllReadyH.cons rfl (fun K hK => ?_) AllReadyH.nil)
          go_simp
          refine hK.out _ _ trivial (fun _ => ?_)
          clear hK K
          try simp only [Act.put, List.setIfInBounds_toArray, List.set_cons_zero, List.set_cons_succ]
          refine wpAnyH_done (by kernel_rfl) ?_ _
          simp only [NoPanic]
          clear u0 u1 k0 k1 k2 k3 HI6 HEv2 HW HD5
          generalize hW8 : (w7.setCell ⟨Q, 0, none⟩ (.slice a8 D2.1.length c8)).setCell ⟨Q, 1, none⟩ (.slice b8 D2.2.length e8) = W8 at *
          obtain ⟨f1, f2, f3, f4, f5, f6, f7, f8⟩ := HI8.out.fin hlt
          have z0 : W8.cell? ⟨Q, 0, none⟩ = some (.slice a8 D2.1.length c8) := HI8.out.var.cell 0
          have z1 : W8.cell? ⟨Q, 1, none⟩ = some (.slice b8 D2.2.length e8) := HI8.out.var.cell 1
          have HF : Hid (Var ((W8.setCell ⟨w.heap.size, 0, none⟩ (.slice a8 D2.1.length c8)).setCell ⟨w.heap.size, 1, none⟩ (.slice b8 D2.2.length e8)) w.heap.size #[.slice a8 D2.1.length c8, .slice b8 D2.2.length e8] 27) := f1
          have HG : Hid (OwnD ((W8.setCell ⟨w.heap.size, 0, none⟩ (.slice a8 D2.1.length c8)).setCell ⟨w.heap.size, 1, none⟩ (.slice b8 D2.2.length e8)) w.heap.size (.agg #[.slice a8 D2.1.length c8, .slice b8 D2.2.length e8]) D2 ∧ Drw ((W8.setCell ⟨w.heap.size, 0, none⟩ (.slice a8 D2.1.length c8)).setCell ⟨w.heap.size, 1, none⟩ (.slice b8 D2.2.length e8)) P x cap l ∧ OnlyP P w ((W8.setCell ⟨w.heap.size, 0, none⟩ (.slice a8 D2.1.length c8)).setCell ⟨w.heap.size, 1, none⟩ (.slice b8 D2.2.length e8))) := ⟨f2, f3, f4⟩
          clear f1 f2 f3 f4 hW8
          go_wp2
          refine bodyPost_ret (results_row_tmp rfl _ _ w.heap.size 27 #[.slice a8 D2.1.length c8, .slice b8 D2.2.length e8] _ rfl HF.out Tryd.underlying27 rfl Tryd.sizeDisk) rfl ?_
          exact ⟨_, D2, k, rfl, HG.out.1, hn1, hn2, HDL.out.1, HDL.out.2, HDS.out, HG.out.2.1, HG.out.2.2⟩
        · go_simp
          refine (belowO P x cap l (E.length + 1) _ HD5.out (by omega) (by omega)).mono ?_
          rintro e w6 ⟨m, rfl, hm, hd6, hon6⟩
          obtain ⟨h6, HEv⟩ := HW.out w6 m (by omega) hon6 hd6
          have u0 : w6.cell? ⟨Q, 0, none⟩ = some (.slice (some ⟨g, 0, none⟩) X.length c1) := h6.var.cell 0
          have u1 : w6.cell? ⟨Q, 1, none⟩ = some (.slice b1 0 e1) := h6.var.cell 1
          have HI6 : Hid (DInv w w6 P x cap l Q (some ⟨g, 0, none⟩) b1 c1 e1 (X, [])) := h6
          have HEv2 : Hid (Calls Tryd.prog 92 #[.agg #[.slice (some ⟨g, 0, none⟩) X.length c1, .slice b1 0 e1], .slice ve m vc] w6 fun e w' => ∃ v', e = .returned v' ∧ OwnD w' w6.heap.size v' (evDo (X, []) (E.take m)) ∧ Below w6.heap.size w6 w') := HEv
          have hm1 : (m : Int) ≤ (vc : Int) := by omega
          clear h6 HEv hd6 hon6
          refine hK.out _ _ trivial (fun _ => ?_)
          clear hK K
          try simp only [Act.put, List.setIfInBounds_toArray, List.set_cons_zero, List.set_cons_succ]
          refine held_take (i := 7) (v := .slice ve m vc) rfl rfl (by kernel_rfl) (by kernel_rfl) (by kernel_rfl) (by kernel_rfl) (fun W _ => by go_simp) trivial ?_
          simp only [Act.put, List.setIfInBounds_toArray, List.set_cons_zero, List.set_cons_succ]
          refine wpAnyH_ready (rs := [0]) (by kernel_rfl) (by simp) (AllReadyH.cons rfl (fun K hK => ?_) AllReadyH.nil)
          go_simp
          refine hK.out _ _ trivial (fun _ => ?_)
          clear hK K
          try simp only [Act.put, List.setIfInBounds_toArray, List.set_cons_zero, List.set_cons_succ]
          refine wpAnyH_ready (rs := [8]) (by kernel_rfl) (by simp) (AllReadyH.cons rfl (fun K hK => ?_) AllReadyH.nil)
          go_simp
          refine HEv2.out.mono ?_
          rintro e w7 ⟨v7, rfl, ho7, hb7⟩
          have HDL : Hid ((evDo (X, []) (E.take m)).1.length = 2 * k + 1 ∧ (evDo (X, []) (E.take m)).2.length ≤ 400) := by
            have h1 := evDo_len (X, []) (E.take m)
            have h2 := HXL.out
            have h3 : (evDo (X, []) (E.take m)).2.length ≤ max 0 400 := h1.2
            exact ⟨h1.1.trans h2, by omega⟩
          have HDS : Hid (dkOk (evDo (X, []) (E.take m)) = true) := evDo_ok HSD.out _
          generalize evDo (X, []) (E.take m) = D2 at *
          obtain ⟨a8, c8, b8, e8, rfl⟩ := ho7.shape
          obtain ⟨h8, k0, k1, k2, k3⟩ := HI6.out.put hlt hQl hb7 ho7
          have HI8 : Hid (DInv w ((w7.setCell ⟨Q, 0, none⟩ (.slice a8 D2.1.length c8)).setCell ⟨Q, 1, none⟩ (.slice b8 D2.2.length e8)) P x cap l Q a8 b8 c8 e8 D2) := h8
          clear h8 ho7 hb7
          refine hK.out _ _ trivial (fun _ => ?_)
          clear hK K
          try simp only [Act.put, List.setIfInBounds_toArray, List.set_cons_zero, List.set_cons_succ]
          refine wpAnyH_ready (rs := [9]) (by kernel_rfl) (by simp) (AllReadyH.cons rfl (fun K hK => ?_) AllReadyH.nil)
          go_simp
          refine hK.out _ _ trivial (fun _ => ?_)
          clear hK K
          try simp only [Act.put, List.setIfInBounds_toArray, List.set_cons_zero, List.set_cons_succ]
          refine wpAnyH_done (by kernel_rfl) ?_ _
          simp only [NoPanic]
          clear u0 u1 k0 k1 k2 k3 HI6 HEv2 HW HD5
          generalize hW8 : (w7.setCell ⟨Q, 0, none⟩ (.slice a8 D2.1.length c8)).setCell ⟨Q, 1, none⟩ (.slice b8 D2.2.length e8) = W8 at *
          obtain ⟨f1, f2, f3, f4, f5, f6, f7, f8⟩ := HI8.out.fin hlt
          have z0 : W8.cell? ⟨Q, 0, none⟩ = some (.slice a8 D2.1.length c8) := HI8.out.var.cell 0
          have z1 : W8.cell? ⟨Q, 1, none⟩ = some (.slice b8 D2.2.length e8) := HI8.out.var.cell 1
          have HF : Hid (Var ((W8.setCell ⟨w.heap.size, 0, none⟩ (.slice a8 D2.1.length c8)).setCell ⟨w.heap.size, 1, none⟩ (.slice b8 D2.2.length e8)) w.heap.size #[.slice a8 D2.1.length c8, .slice b8 D2.2.length e8] 27) := f1
          have HG : Hid (OwnD ((W8.setCell ⟨w.heap.size, 0, none⟩ (.slice a8 D2.1.length c8)).setCell ⟨w.heap.size, 1, none⟩ (.slice b8 D2.2.length e8)) w.heap.size (.agg #[.slice a8 D2.1.length c8, .slice b8 D2.2.length e8]) D2 ∧ Drw ((W8.setCell ⟨w.heap.size, 0, none⟩ (.slice a8 D2.1.length c8)).setCell ⟨w.heap.size, 1, none⟩ (.slice b8 D2.2.length e8)) P x cap l ∧ OnlyP P w ((W8.setCell ⟨w.heap.size, 0, none⟩ (.slice a8 D2.1.length c8)).setCell ⟨w.heap.size, 1, none⟩ (.slice b8 D2.2.length e8))) := ⟨f2, f3, f4⟩
          clear f1 f2 f3 f4 hW8
          go_wp2
          refine bodyPost_ret (results_row_tmp rfl _ _ w.heap.size 27 #[.slice a8 D2.1.length c8, .slice b8 D2.2.length e8] _ rfl HF.out Tryd.underlying27 rfl Tryd.sizeDisk) rfl ?_
          exact ⟨_, D2, k, rfl, HG.out.1, hn1, hn2, HDL.out.1, HDL.out.2, HDS.out, HG.out.2.1, HG.out.2.2⟩
end Go.Proofs.YtlidmnehpcodkaaDoor
