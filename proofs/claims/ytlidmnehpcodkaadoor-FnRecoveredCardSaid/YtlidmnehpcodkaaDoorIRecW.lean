/-
  Own text: recovery, as the program does it; the program's error variable holds what its text lays.
-/
import Derived.Test.YtlidmnehpcodkaaDoorSRecW
import Derived.Test.YtlidmnehpcodkaaDoorIHeadOfW
import Derived.Test.YtlidmnehpcodkaaDoorIHomeW
import Derived.Test.YtlidmnehpcodkaaDoorISumW
import Derived.Test.YtlidmnehpcodkaaDoorBunI
import Derived.Deep.RegionHeld3
namespace Go.Proofs.YtlidmnehpcodkaaDoor
open Go.RowKit

/-- The sectors behind recovery, the head still as it was. -/
noncomputable def recX (s : List ByteArray) (n : Int) : List ByteArray :=
  match headOf (s.getD 0 ⟨#[]⟩) n with
    | some (ats, sum) => if sumOf ((s.drop 1).take ats.length) = sum then applyTo n ats s ats.length else s
    | none => s
theorem recX_rec (s : List ByteArray) (n : Int) : recS s n = (recX s n).set 0 ⟨#[]⟩ := rfl
theorem recX_len (s : List ByteArray) (n : Int) : (recX s n).length = s.length := by
  unfold recX
  split
  · split
    · exact applyTo_len _ _ _ _
    · rfl
  · rfl
/-- What is known of the disk that is being recovered: its variable, its sectors. -/
structure KInv (w W : World) (C lo g c : Nat) (X : List ByteArray) : Prop where
  var : Var W C #[.slice (some ⟨g, 0, none⟩) X.length c, .slice none 0 0] 27
  own : W.ownsRow lo 9 1 (.slice (some ⟨g, 0, none⟩) X.length c) X.length (X.map Value.string)
  below : Below C w W
theorem KInv.new {w W W' : World} {C lo g c : Nat} {X : List ByteArray} (h : KInv w W C lo g c X) (hb : Below W.heap.size W W') : KInv w W' C lo g c X :=
  ⟨h.var.new hb, ownsRow_below h.own hb (Nat.le_refl _), h.below.trans (hb.mono (Nat.le_of_lt h.var.lt))⟩
theorem KInv.g {w W : World} {C lo g c : Nat} {X : List ByteArray} (h : KInv w W C lo g c X) : lo ≤ g ∧ g < W.heap.size ∧ g ≠ C ∧ X.length ≤ c := by
  have h1 := h.own.lt g rfl
  refine ⟨h1.1, h1.2, fun he => own_var h.own h.var (by decide) (by rw [← he]; rfl), ?_⟩
  rcases h.own.2 with ⟨he, _⟩ | ⟨g', c', cur, he, _, _, hc, _⟩
  · cases he
  · cases he; exact hc
theorem KInv.put {w W : World} {C lo g c : Nat} {X : List ByteArray} (h : KInv w W C lo g c X) (hC : C < lo) (j : Nat) (y : ByteArray) : KInv w (W.setCell ⟨g, j, none⟩ (.string y)) C lo g c (X.set j y) := by
  obtain ⟨g1, g2, g3, _⟩ := h.g
  have hoo : Only (fun k => k = g) W (W.setCell ⟨g, j, none⟩ (.string y)) := Only.setCell (S := fun k => k = g) (Only.refl _ _) (p := ⟨g, j, none⟩) rfl _
  have hst := (h.own.stored j (.string y)).1
  rw [← List.map_set] at hst
  exact ⟨by rw [List.length_set]; exact h.var.only hoo (fun he => g3 he.symm), by rw [List.length_set]; exact hst, h.below.setCell (p := ⟨g, j, none⟩) (by show _ ≤ g; omega) _⟩
theorem KInv.cell {w W : World} {C lo g c : Nat} {X : List ByteArray} (h : KInv w W C lo g c X) {j : Nat} (hj : j < X.length) : W.cell? ⟨g, j, none⟩ = some (.string (X.getD j ⟨#[]⟩)) ∧ W.frozen? ⟨g, j, none⟩ = false := by
  refine ⟨?_, h.own.frozenAt j⟩
  rw [h.own.cellAt j (by omega)]
  simp [List.getD, hj]

set_option maxRecDepth 20000 in
set_option maxHeartbeats 4000000 in
theorem implRedo (C lo g c : Nat) (X : List ByteArray) (n : Int) (a : Addr) (w : World) (hn1 : 1 ≤ n) (hn2 : n ≤ 48) (hlen : (X.length : Int) = 2 * n + 1) (hz : ∀ x ∈ X, x.size ≤ 90) (hC : C < lo) (he : ErrAt a w) (hI : KInv w w C lo g c X) :
    Calls Tryd.prog 48 #[.pointer (some ⟨C, 0, none⟩), .int .i64 n] w fun e w' => (∃ r, e = .returned r) ∧ KInv w w' C lo g c (recX X n) := by
  have HI0 : Hid (KInv w w C lo g c X) := hI
  have HZ : Hid (∀ x ∈ X, x.size ≤ 90) := hz
  obtain ⟨sc0, _⟩ := hI.cell (j := 0) (by omega)
  have sv0 := hI.var.cell 0
  simp at sv0
  have hz90 : (X.getD 0 ⟨#[]⟩).size ≤ 90 := HZ.out _ (by simp [List.getD, show 0 < X.length by omega])
  have HRX : Hid (recX X n = (match headOf (X.getD 0 ⟨#[]⟩) n with
    | some (ats, sum) => if sumOf ((X.drop 1).take ats.length) = sum then applyTo n ats X ats.length else X
    | none => X)) := rfl
  generalize X.getD 0 ⟨#[]⟩ = s0 at *
  have hLp : (0 : Int) < (X.length : Int) := by omega
  have hL3 : 3 ≤ X.length := by omega
  have HHO : Hid (Calls Tryd.prog 27 #[.string s0, .int .i64 n] w fun e w' => ∃ v, e = .returned (.tuple #[v, .int .i64 ((hoS s0 n : Nat) : Int), .bool (hoOk s0 n)]) ∧ w'.ownsRow w.heap.size 3 1 v (hoA s0 n).length ((hoA s0 n).map (Value.int .i64)) ∧ Below w.heap.size w w') := implHeadOf s0 n a w (by omega) he
  obtain ⟨hg1, hg2, hg3, hcap⟩ := hI.g
  have hc1 : ¬ c = 1 := by omega
  clear hI hz he
  go_enter Tryd.func48, Tryd.ntmps48
  go_wp2_with fail
  refine HHO.out.mono ?_
  rintro e w3 ⟨va, rfl, hoa, hb3⟩
  have HI3 : Hid (KInv w w3 C lo g c X) := HI0.out.new hb3
  have HA3 : Hid (w3.ownsRow w.heap.size 3 1 va (hoA s0 n).length ((hoA s0 n).map (Value.int .i64))) := hoa
  have z0 : w3.cell? ⟨C, 0, none⟩ = some (.slice (some ⟨g, 0, none⟩) X.length c) := HI3.out.var.cell 0
  have i0 : (1 : Int) ≤ (X.length : Int) := by omega
  clear hoa hb3 sc0 sv0 HI0 HHO
  cases hh : headOf s0 n with
  | none =>
    have e1 : hoOk s0 n = false := by unfold hoOk; rw [hh]; rfl
    have e2 : hoA s0 n = [] := by unfold hoA; rw [hh]; rfl
    have HRX2 : Hid (recX X n = X) := by show _ = _; rw [HRX.out, hh]
    have hoa := HA3.out
    rw [e2] at hoa
    rw [e1]
    obtain ⟨xa, xc, rfl, _, _⟩ := own_rd hoa
    clear e1 e2 HRX hh HA3 hoa
    go_wp2
    refine bodyPost_ret (results_none rfl _ _ _) rfl ?_
    exact ⟨⟨_, rfl⟩, by rw [HRX2.out]; exact HI3.out⟩
  | some pr =>
    obtain ⟨ats, sum⟩ := pr
    have f1 : hoOk s0 n = true := by unfold hoOk; rw [hh]; rfl
    have f2 : hoA s0 n = ats := by unfold hoA; rw [hh]; rfl
    have f3 : hoS s0 n = sum := by unfold hoS; rw [hh]; rfl
    obtain ⟨hm1, hm2, htx⟩ : 1 ≤ ats.length ∧ ats.length ≤ 48 ∧ TxP n (ats.map fun x => (x, (⟨#[]⟩ : ByteArray))) := by
      obtain ⟨many, at1, q, _, _, hm1, hm2, hml, _, _, htx, _⟩ := headOf_spec hh
      exact ⟨by omega, by omega, htx⟩
    have hal : (ats.length : Int) ≤ n := by have := htx.len; simpa using this
    have HAT : Hid (∀ k (hk : k < ats.length), 0 ≤ ats[k] ∧ ats[k] ≤ n - 1) := by
      intro k hk
      have := htx.at (ats[k], ⟨#[]⟩) (List.mem_map.2 ⟨ats[k], List.getElem_mem hk, rfl⟩)
      exact ⟨this.1, this.2.1⟩
    have HRX2 : Hid (recX X n = (if sumOf ((X.drop 1).take ats.length) = sum then applyTo n ats X ats.length else X)) := by show _ = _; rw [HRX.out, hh]
    have hoa := HA3.out
    rw [f2] at hoa
    rw [f1, f3]
    obtain ⟨xa, xc, rfl, _, hra⟩ := own_rd hoa
    have HA4 : Hid (w3.ownsRow w.heap.size 3 1 (.slice xa ats.length xc) ats.length (ats.map (Value.int .i64))) := hoa
    obtain ⟨N, rfl⟩ : ∃ N : Nat, n = (N : Int) := ⟨n.toNat, by omega⟩
    have hjl : ((X.drop 1).take ats.length).length = ats.length := by simp; omega
    have HJS : Hid (RdS w3 (some ⟨g, 1, none⟩) ((X.drop 1).take ats.length)) := by
      refine .inr ⟨g, 1, rfl, HI3.out.g.2.1, fun i hi => ?_⟩
      rw [hjl] at hi
      rw [(HI3.out.cell (j := 1 + i) (by omega)).1]
      have e9 : 1 + i < X.length := by omega
      rw [List.getElem_take, List.getElem_drop]
      simp [List.getD, e9]
    have HSM : Hid (Calls Tryd.prog 71 #[.slice (some ⟨g, 1, none⟩) ats.length (c - 1)] w3 fun e w' => e = .returned (.int .i64 ((sumOf ((X.drop 1).take ats.length) : Nat) : Int)) ∧ Below w3.heap.size w3 w') := by
      have h := implSum (some ⟨g, 1, none⟩) (c - 1) ((X.drop 1).take ats.length) w3 (by omega) (fun x hx => HZ.out x (List.mem_of_mem_drop (List.mem_of_mem_take hx))) HJS.out
      rwa [hjl] at h
    have i1 : (0 : Int) ≤ (ats.length : Int) := by omega
    have i2 : (ats.length : Int) ≤ ((c - 1 : Nat) : Int) := by omega
    have i3 : (ats.length : Int) ≤ (c : Int) - 1 := by omega
    clear hoa HA3 hra f1 f2 f3 hh htx HRX hjl HJS
    generalize sumOf ((X.drop 1).take ats.length) = sj at *
    go_wp2_with fail
    refine HSM.out.mono ?_
    rintro e w4 ⟨rfl, hb4⟩
    have HI4 : Hid (KInv w w4 C lo g c X) := HI3.out.new hb4
    have HA5 : Hid (w4.ownsRow w.heap.size 3 1 (.slice xa ats.length xc) ats.length (ats.map (Value.int .i64))) := ownsRow_below HA4.out hb4 (Nat.le_refl _)
    clear hb4 HI3 HA4 HSM z0
    by_cases hsm : sj = sum
    · subst hsm
      have HRX3 : Hid (recX X (N : Int) = applyTo (N : Int) ats X ats.length) := by show _ = _; rw [HRX2.out, if_pos rfl]
      clear HRX2
      go_wp2
      go_loopw [40] (fun i wr => ∃ k : Nat, k ≤ ats.length ∧ i = .int .i64 k ∧ Hid (KInv w wr C lo g c (applyTo (N : Int) ats X k)) ∧ Hid (wr.ownsRow w.heap.size 3 1 (.slice xa ats.length xc) ats.length (ats.map (Value.int .i64)))) (fun i _ => ats.length - (intOf i).toNat)
      case atStart => exact ⟨0, Nat.zero_le _, rfl, HI4, HA5⟩
      case round =>
        obtain ⟨k, hk, rfl, HI, HA⟩ := hrel
        clear HI4 HA5
        have hXl := applyTo_len (N : Int) ats X k
        by_cases hlt : k < ats.length
        · obtain ⟨y0, y1⟩ := HAT.out k hlt
          obtain ⟨Y, hY⟩ : ∃ Y : Nat, ats[k] = (Y : Int) := ⟨ats[k].toNat, by omega⟩
          have HNX : Hid (applyTo (N : Int) ats X (k + 1) = (applyTo (N : Int) ats X k).set (N + 1 + Y) ((applyTo (N : Int) ats X k).getD (1 + k) ⟨#[]⟩)) := by
            show _ = _
            rw [applyTo]
            have e0 : ats.getD k 0 = (Y : Int) := by rw [← hY]; simp [List.getD, hlt]
            have e5 : ((N : Int) + 1 + (Y : Int)).toNat = N + 1 + Y := by omega
            rw [e0, e5]
          have HSZ : Hid (((applyTo (N : Int) ats X k).getD (1 + k) ⟨#[]⟩).size ≤ 90) := applyTo_small (n := (N : Int)) (ats := ats) HZ.out k _ (by simp [List.getD, show 1 + k < (applyTo (N : Int) ats X k).length by omega])
          rw [hY] at y0 y1
          obtain ⟨xb, xo, rfl, hxg, hca⟩ : ∃ xb xo, xa = some ⟨xb, xo, none⟩ ∧ xb ≠ g ∧ wr.cell? ⟨xb, xo + k, none⟩ = some (.int .i64 (Y : Int)) := by
            obtain ⟨xa', xc', he, _, hr⟩ := own_rd HA.out
            cases he
            rcases hr with h0 | ⟨xb, xo, rfl, _, hc⟩
            · rw [h0] at hlt; simp at hlt
            · refine ⟨xb, xo, rfl, fun hx => own_apart HA.out HI.out.own (by decide) xb rfl (by rw [hx]; rfl), ?_⟩
              rw [hc k hlt, ← hY]
              simp [List.getD, hlt]
          generalize applyTo (N : Int) ats X k = Z at *
          have hYN : Y ≤ N - 1 := by omega
          obtain ⟨M, hM⟩ : ∃ M : Nat, N + 1 + Y = M := ⟨_, rfl⟩
          rw [hM] at HNX
          have HG0 : Hid (∀ W', Below wr.heap.size wr W' → W'.cell? ⟨C, 0, none⟩ = some (.slice (some ⟨g, 0, none⟩) Z.length c) ∧ W'.cell? ⟨g, 1 + k, none⟩ = some (.string (Z.getD (1 + k) ⟨#[]⟩)) ∧ W'.cell? ⟨g, M, none⟩ = some (.string (Z.getD (M) ⟨#[]⟩)) ∧ W'.frozen? ⟨g, M, none⟩ = false) :=
            fun W' h => ⟨(HI.out.new h).var.cell 0, ((HI.out.new h).cell (j := 1 + k) (by omega)).1, (HI.out.new h).cell (j := M) (by omega)⟩
          have HNW : Hid (∀ W', Below wr.heap.size wr W' → KInv w (W'.setCell ⟨g, M, none⟩ (.string (Z.getD (1 + k) ⟨#[]⟩))) C lo g c (applyTo (N : Int) ats X (k + 1)) ∧ (W'.setCell ⟨g, M, none⟩ (.string (Z.getD (1 + k) ⟨#[]⟩))).ownsRow w.heap.size 3 1 (.slice (some ⟨xb, xo, none⟩) ats.length xc) ats.length (ats.map (Value.int .i64)) ∧ (W'.setCell ⟨g, M, none⟩ (.string (Z.getD (1 + k) ⟨#[]⟩))).cell? ⟨g, 1 + k, none⟩ = some (.string (Z.getD (1 + k) ⟨#[]⟩)) ∧ (W'.setCell ⟨g, M, none⟩ (.string (Z.getD (1 + k) ⟨#[]⟩))).cell? ⟨C, 0, none⟩ = some (.slice (some ⟨g, 0, none⟩) Z.length c)) := by
            intro W' h
            rw [HNX.out]
            refine ⟨(HI.out.new h).put hC _ _, own_only (S := fun j => j = g) (ownsRow_below HA.out h (Nat.le_refl _)) (Only.setCell (S := fun j => j = g) (Only.refl _ _) (p := ⟨g, M, none⟩) rfl _) (fun j hj he => hxg (by cases hj; exact he)), ?_, ?_⟩
            rotate_left
            · have h6 := ((HI.out.new h).put hC (M) (Z.getD (1 + k) ⟨#[]⟩)).var.cell 0
              rw [List.length_set] at h6
              exact h6
            have h5 := (((HI.out.new h).put hC (M) (Z.getD (1 + k) ⟨#[]⟩)).cell (j := 1 + k) (by rw [List.length_set]; omega)).1
            rwa [getD_set_ne _ (by omega)] at h5
          generalize Z.getD (1 + k) ⟨#[]⟩ = vs at *
          generalize Z.getD (M) ⟨#[]⟩ = vo at *
          obtain ⟨q0, q1, q2, q3⟩ := HG0.out wr.drew (Below.refl _ _).drew
          have j0 : (0 : Int) ≤ (k : Int) := by omega
          have j1 : (k : Int) < (ats.length : Int) := by omega
          have j3 : (M : Int) < (Z.length : Int) := by omega
          have j4 : (0 : Int) ≤ (N : Int) + 1 + (Y : Int) := by omega
          have j6 : (N : Int) + 1 + (Y : Int) < (Z.length : Int) := by omega
          have j5 : ((N : Int) + 1 + (Y : Int)).toNat = M := by omega
          have hwr : IntKind.i64.wrap ((N : Int) + 1 + (Y : Int)) = (M : Int) := by rw [IntKind.wrap_i64]; omega
          have hsz := HSZ.out
          have hne : ¬ (1 + k = M) := by omega
          clear HI HA HNX hY HSZ hM hXl hlen
          go_wp2
          refine wp_region_noPanic ?_
          refine wp_region_held_drew (S := fun W => W.cell? ⟨C, 0, none⟩ = some (.slice (some ⟨g, 0, none⟩) Z.length c) ∧ W.cell? ⟨g, 1 + k, none⟩ = some (.string vs)) (by kernel_rfl) ⟨q0, q1⟩ (fun _ => ?_)
          refine held_take (i := 0) (v := .pointer (some ⟨C, 0, none⟩)) rfl rfl (by kernel_rfl) (by kernel_rfl) (by kernel_rfl) (by kernel_rfl) (fun W _ => by go_simp) ⟨q0, q1⟩ ?_
          simp only [Act.put, List.setIfInBounds_toArray, List.set_cons_zero, List.set_cons_succ]
          refine held_take (i := 1) (v := .pointer (some ⟨C, 0, none⟩)) rfl rfl (by kernel_rfl) (by kernel_rfl) (by kernel_rfl) (by kernel_rfl) (fun W _ => by go_simp) ⟨q0, q1⟩ ?_
          simp only [Act.put, List.setIfInBounds_toArray, List.set_cons_zero, List.set_cons_succ]
          refine held_take (i := 2) (v := .pointer (some ⟨C, 0, none⟩)) rfl rfl (by kernel_rfl) (by kernel_rfl) (by kernel_rfl) (by kernel_rfl) (fun W _ => by go_simp) ⟨q0, q1⟩ ?_
          simp only [Act.put, List.setIfInBounds_toArray, List.set_cons_zero, List.set_cons_succ]
          refine held_take (i := 3) (v := .slice (some ⟨g, 0, none⟩) Z.length c) rfl rfl (by kernel_rfl) (by kernel_rfl) (by kernel_rfl) (by kernel_rfl) (fun W hW => by obtain ⟨hW1, hW2⟩ := hW; go_simp) ⟨q0, q1⟩ ?_
          simp only [Act.put, List.setIfInBounds_toArray, List.set_cons_zero, List.set_cons_succ]
          refine held_take (i := 4) (v := .int .i64 (N : Int)) rfl rfl (by kernel_rfl) (by kernel_rfl) (by kernel_rfl) (by kernel_rfl) (fun W _ => by go_simp) ⟨q0, q1⟩ ?_
          simp only [Act.put, List.setIfInBounds_toArray, List.set_cons_zero, List.set_cons_succ]
          refine held_take (i := 6) (v := .int .i64 (Y : Int)) rfl rfl (by kernel_rfl) (by kernel_rfl) (by kernel_rfl) (by kernel_rfl) (fun W _ => by go_simp) ⟨q0, q1⟩ ?_
          simp only [Act.put, List.setIfInBounds_toArray, List.set_cons_zero, List.set_cons_succ]
          refine held_take (i := 8) (v := .slice (some ⟨g, 1, none⟩) ats.length (c - 1)) rfl rfl (by kernel_rfl) (by kernel_rfl) (by kernel_rfl) (by kernel_rfl) (fun W _ => by go_simp) ⟨q0, q1⟩ ?_
          simp only [Act.put, List.setIfInBounds_toArray, List.set_cons_zero, List.set_cons_succ]
          refine held_take (i := 9) (v := .int .i64 (k : Int)) rfl rfl (by kernel_rfl) (by kernel_rfl) (by kernel_rfl) (by kernel_rfl) (fun W _ => by go_simp) ⟨q0, q1⟩ ?_
          simp only [Act.put, List.setIfInBounds_toArray, List.set_cons_zero, List.set_cons_succ]
          refine held_take (i := 10) (v := .pointer (some ⟨g, 1 + k, none⟩)) rfl rfl (by kernel_rfl) (by kernel_rfl) (by kernel_rfl) (by kernel_rfl) (fun W _ => by go_simp) ⟨q0, q1⟩ ?_
          simp only [Act.put, List.setIfInBounds_toArray, List.set_cons_zero, List.set_cons_succ]
          refine held_take (i := 11) (v := .string vs) rfl rfl (by kernel_rfl) (by kernel_rfl) (by kernel_rfl) (by kernel_rfl) (fun W hW => by obtain ⟨hW1, hW2⟩ := hW; go_simp) ⟨q0, q1⟩ ?_
          simp only [Act.put, List.setIfInBounds_toArray, List.set_cons_zero, List.set_cons_succ]
          refine wpAnyH_ready (rs := [5]) (by kernel_rfl) (by simp) (AllReadyH.cons rfl (fun K hK => ?_) AllReadyH.nil)
          go_simp
          refine (implHomeAt (N : Int) _ (by omega) (by omega)).mono ?_
          rintro e w5 ⟨rfl, hw5⟩
          subst w5
          refine hK.out _ _ ⟨q0, q1⟩ (fun _ => ?_)
          clear hK K
          try simp only [Act.put, List.setIfInBounds_toArray, List.set_cons_zero, List.set_cons_succ]
          refine held_take (i := 7) (v := .int .i64 (M : Int)) rfl rfl (by kernel_rfl) (by kernel_rfl) (by kernel_rfl) (by kernel_rfl) (fun W _ => by go_simp) ⟨q0, q1⟩ ?_
          simp only [Act.put, List.setIfInBounds_toArray, List.set_cons_zero, List.set_cons_succ]
          refine wpAnyH_ready (rs := [12]) (by kernel_rfl) (by simp) (AllReadyH.cons rfl (fun K hK => ?_) AllReadyH.nil)
          go_simp
          refine (cloneT vs _ (by omega)).mono ?_
          rintro e w6 ⟨rfl, hb6⟩
          have hb6' : Below wr.heap.size wr w6 := (Below.refl _ wr).drew.trans hb6
          obtain ⟨p0, p1, p2, p3⟩ := HG0.out w6 hb6'
          obtain ⟨hn1, hn2, p4, p5⟩ := HNW.out w6 hb6'
          have HN1 : Hid (KInv w (w6.setCell ⟨g, M, none⟩ (.string vs)) C lo g c (applyTo (N : Int) ats X (k + 1))) := hn1
          have HN2 : Hid ((w6.setCell ⟨g, M, none⟩ (.string vs)).ownsRow w.heap.size 3 1 (.slice (some ⟨xb, xo, none⟩) ats.length xc) ats.length (ats.map (Value.int .i64))) := hn2
          clear hb6 hn1 hn2
          refine hK.out _ _ ⟨p0, p1⟩ (fun _ => ?_)
          clear hK K
          try simp only [Act.put, List.setIfInBounds_toArray, List.set_cons_zero, List.set_cons_succ]
          refine held_take (i := 13) (v := .pointer (some ⟨g, M, none⟩)) rfl rfl (by kernel_rfl) (by kernel_rfl) (by kernel_rfl) (by kernel_rfl) (fun W _ => by go_simp) ⟨p0, p1⟩ ?_
          simp only [Act.put, List.setIfInBounds_toArray, List.set_cons_zero, List.set_cons_succ]
          refine wpAnyH_ready (rs := [14]) (by kernel_rfl) (by simp) (AllReadyH.cons rfl (fun K hK => ?_) AllReadyH.nil)
          go_simp
          refine hK.out _ _ ⟨p5, p4⟩ (fun _ => ?_)
          clear hK K
          try simp only [Act.put, List.setIfInBounds_toArray, List.set_cons_zero, List.set_cons_succ]
          refine wpAnyH_done (by kernel_rfl) ?_ _
          simp only [NoPanic]
          go_wp2
          go_roundw
          case rel => exact ⟨k + 1, by omega, by go_num, HN1, HN2⟩
          case measure => simp [intOf]; omega
        · obtain rfl : k = ats.length := by omega
          have hI9 := HI.out
          rw [← HRX3.out] at hI9
          clear HA HI
          go_wp2
          go_end0
          exact ⟨⟨_, rfl⟩, hI9⟩
    · have HRX3 : Hid (recX X (N : Int) = X) := by show _ = _; rw [HRX2.out, if_neg hsm]
      have hq1 : ¬ ((sj : Nat) : Int) = (sum : Int) := by omega
      have hq2 : (((sj : Nat) : Int) == (sum : Int)) = false := by simpa using hq1
      clear HRX2 HA5
      go_wp2
      refine bodyPost_ret (results_none rfl _ _ _) rfl ?_
      exact ⟨⟨_, rfl⟩, by rw [HRX3.out]; exact HI4.out⟩

theorem ErrAt.belowB {a : Addr} {w w' : World} {B : Nat} (h : ErrAt a w) (hB : errG < B) (hb : Below B w w') : ErrAt a w' := ⟨Nat.lt_of_lt_of_le h.lt hb.size, (hb.cell hB).trans h.cell⟩

set_option maxRecDepth 20000 in
set_option maxHeartbeats 4000000 in
theorem implRecover (v : Value) (d : DiskD) (n : Int) (a0 : Addr) (w : World) (hl : d.1.length ≤ 4194303 ∧ d.2.length ≤ 4194303) (hs : SmD d) (he : ErrAt a0 w) (hr : RdD w v d) :
    Calls Tryd.prog 12 #[v, .int .i64 n] w fun e w' => ∃ v', e = .returned v' ∧ OwnD w' w.heap.size v' (recD d n) ∧ Below w.heap.size w w' := by
  obtain ⟨a, ca, b, cb, rfl, r1, r2⟩ := hr
  obtain ⟨hl1, hl2⟩ := hl
  have HEA : Hid (ErrAt a0 w) := he
  have HFR : Hid (∀ W, Below w.heap.size w W → W.cell? ⟨w.heap.size, 0, none⟩ = some (.slice a d.1.length ca) → W.cell? ⟨w.heap.size, 1, none⟩ = some (.slice b d.2.length cb) → Calls Tryd.prog 45 #[.pointer (some ⟨w.heap.size, 0, none⟩)] W fun e w' => ∃ v1 v2, e = .returned (.pointer (some ⟨W.heap.size, 0, none⟩)) ∧ Var w' W.heap.size #[v1, v2] 27 ∧ OwnD w' (W.heap.size + 1) (.agg #[v1, v2]) d ∧ Below W.heap.size W w') :=
    fun W h h0 h1 => implFresh w.heap.size a b ca cb d W ⟨by omega, by omega⟩ hs h0 h1 (r1.below h (Nat.le_refl _)) (r2.below h (Nat.le_refl _))
  have hel := he.lt
  clear r1 r2 hs he
  go_enter Tryd.func12, Tryd.ntmps12
  go_wp2_with fail
  refine (HFR.out _ (below2 _ _ _) (((Var.made w _ _).alloc _).cell 0) (((Var.made w _ _).alloc _).cell 1)).mono ?_
  rintro e w1 ⟨v1, v2, rfl, hV1, hO1, hb1⟩
  have hs0 : ((w.alloc (.cells #[.slice a d.1.length ca, .slice b d.2.length cb] 27)).alloc (.cells #[.slice none 0 0, .slice none 0 0] 27)).heap.size = w.heap.size + 2 := by simp
  rw [hs0] at hV1 hO1 ⊢
  have hR1 : Var w1 (w.heap.size + 1) #[.slice none 0 0, .slice none 0 0] 27 := (Var.made2 w _ _ _).new hb1
  have hb01 : Below w.heap.size w w1 := (below2 w _ _).trans (hb1.mono (by omega))
  obtain ⟨a1, c1, b1, d1, he⟩ := hO1.shape
  cases he
  have HR1 : Hid (Var w1 (w.heap.size + 1) #[.slice none 0 0, .slice none 0 0] 27) := hR1
  have HV1 : Hid (Var w1 (w.heap.size + 2) #[.slice a1 d.1.length c1, .slice b1 d.2.length d1] 27) := hV1
  have HO1 : Hid (OwnD w1 (w.heap.size + 2 + 1) (.agg #[.slice a1 d.1.length c1, .slice b1 d.2.length d1]) d) := hO1
  have HOK : Hid (∀ Q, okJ d n = Q → Calls Tryd.prog 46 #[.pointer (some ⟨w.heap.size + 2, 0, none⟩), .int .i64 n] w1 fun e w' => e = .returned (.bool Q) ∧ Below w1.heap.size w1 w') := by
    rintro Q rfl
    obtain ⟨x1, x2, x3, x4, hx, h1, h2⟩ := hO1.rd
    cases hx
    exact implJournaled (w.heap.size + 2) _ _ _ _ d n w1 ⟨by omega, by omega⟩ (hV1.cell 0) (hV1.cell 1) h1 h2
  clear HFR hR1 hV1 hO1 hb1 hs0
  cases hok : okJ d n with
  | false =>
    have HF : Hid (recD d n = d) := recD_no hok
    have HOK' : Hid (Calls Tryd.prog 46 #[.pointer (some ⟨w.heap.size + 2, 0, none⟩), .int .i64 n] w1 fun e w' => e = .returned (.bool false) ∧ Below w1.heap.size w1 w') := HOK.out false hok
    clear HOK hok
    go_wp2_with fail
    refine HOK'.out.mono ?_
    rintro e w3 ⟨rfl, hb3⟩
    have hV3 := HV1.out.new hb3
    have HR3 : Hid (Var w3 (w.heap.size + 1) #[.slice none 0 0, .slice none 0 0] 27) := HR1.out.new hb3
    have hO3 := HO1.out.below hb3
    have hb03 : Below w.heap.size w w3 := hb01.trans (hb3.mono hb01.size)
    have HO10 : Hid (OwnD ((w3.setCell ⟨w.heap.size + 1, 0, none⟩ (.slice a1 d.1.length c1)).setCell ⟨w.heap.size + 1, 1, none⟩ (.slice b1 d.2.length d1)) w.heap.size (.agg #[.slice a1 d.1.length c1, .slice b1 d.2.length d1]) d) := ((hO3.setVar HR3.out 0 _).setVar (HR3.out.set 0 _) 1 _).base (by omega)
    have HR10 : Hid (Var ((w3.setCell ⟨w.heap.size + 1, 0, none⟩ (.slice a1 d.1.length c1)).setCell ⟨w.heap.size + 1, 1, none⟩ (.slice b1 d.2.length d1)) (w.heap.size + 1) #[.slice a1 d.1.length c1, .slice b1 d.2.length d1] 27) := HR3.out.two _ _
    have hb10 : Below w.heap.size w ((w3.setCell ⟨w.heap.size + 1, 0, none⟩ (.slice a1 d.1.length c1)).setCell ⟨w.heap.size + 1, 1, none⟩ (.slice b1 d.2.length d1)) := (hb03.setCell (p := ⟨w.heap.size + 1, 0, none⟩) (by show _ ≤ w.heap.size + 1; omega) _).setCell (p := ⟨w.heap.size + 1, 1, none⟩) (by show _ ≤ w.heap.size + 1; omega) _
    have hv0 : w3.cell? ⟨w.heap.size + 2, 0, none⟩ = some (.slice a1 d.1.length c1) := hV3.cell 0
    have hv1 : w3.cell? ⟨w.heap.size + 2, 1, none⟩ = some (.slice b1 d.2.length d1) := hV3.cell 1
    have hq0 := HR3.out.cell 0
    have hq1 := (HR3.out.set 0 (.slice a1 d.1.length c1)).cell 1
    have hk0 := HR3.out.frozen 0
    have hk1 := HR3.out.frozen 1
    simp at hq0 hq1
    clear hV3 hO3 hb3 hb03 hb01 HV1 HO1 HR1 HOK'
    go_wp2
    refine bodyPost_ret (results_cell_row rfl _ _ (w.heap.size + 1) 27 #[.slice a1 d.1.length c1, .slice b1 d.2.length d1] (0, 0) _ rfl HR10.out Tryd.underlying27 rfl Tryd.sizeDisk) rfl ?_
    exact ⟨_, rfl, by rw [HF.out]; exact HO10.out, hb10⟩
  | true =>
    obtain ⟨hdk, hn1, hn2, hlen⟩ := okJ_iff.1 hok
    have HF : Hid (recD d n = ((recX d.1 n).set 0 ⟨#[]⟩, [])) := by show _ = _; unfold recD; rw [if_pos hok, recX_rec]
    have HOK' : Hid (Calls Tryd.prog 46 #[.pointer (some ⟨w.heap.size + 2, 0, none⟩), .int .i64 n] w1 fun e w' => e = .returned (.bool true) ∧ Below w1.heap.size w1 w') := HOK.out true hok
    have HOKT : Hid (dkOk d = true) := hdk
    have HZ : Hid (∀ x ∈ d.1, x.size ≤ 90) := (dkOk_iff.1 hdk).2.2.1
    clear HOK hok hdk
    go_wp2_with fail
    refine HOK'.out.mono ?_
    rintro e w3 ⟨rfl, hb3⟩
    have HV3 : Hid (Var w3 (w.heap.size + 2) #[.slice a1 d.1.length c1, .slice b1 d.2.length d1] 27) := HV1.out.new hb3
    have HR3 : Hid (Var w3 (w.heap.size + 1) #[.slice none 0 0, .slice none 0 0] 27) := HR1.out.new hb3
    have HO3 : Hid (OwnD w3 (w.heap.size + 2 + 1) (.agg #[.slice a1 d.1.length c1, .slice b1 d.2.length d1]) d) := HO1.out.below hb3
    have HB03 : Hid (Below w.heap.size w w3) := hb01.trans (hb3.mono hb01.size)
    clear hb3 hb01 HV1 HO1 HR1 HOK'
    have HST : Hid (Calls Tryd.prog 47 #[.pointer (some ⟨w.heap.size + 2, 0, none⟩), .slice none 0 0] w3 fun e w' => (∃ r, e = .returned r) ∧ Var w' (w.heap.size + 2) #[.slice a1 d.1.length c1, .slice none 0 0] 27 ∧ w'.ownsRow (w.heap.size + 2 + 1) 9 1 (.slice a1 d.1.length c1) d.1.length (d.1.map Value.string) ∧ Below (w.heap.size + 2) w3 w') := by
      obtain ⟨u1, u2, he, h1, h2⟩ := HO3.out
      cases he
      have := implSettle (w.heap.size + 2) (w.heap.size + 2 + 1) a1 b1 c1 d1 d none 0 [] w3 HOKT.out (by omega) HV3.out h1 h2 (fun W h => .inl rfl)
      rw [keepL_nil] at this
      exact this
    go_wp2_with fail
    refine HST.out.mono ?_
    rintro e w4 ⟨⟨r4, rfl⟩, hV4, ho4, hb4⟩
    have HR4 : Hid (Var w4 (w.heap.size + 1) #[.slice none 0 0, .slice none 0 0] 27) := HR3.out.below hb4 (by omega)
    have HB04 : Hid (Below w.heap.size w w4) := HB03.out.trans (hb4.mono (by omega))
    have HE4 : Hid (ErrAt a0 w4) := HEA.out.below HB04.out
    obtain ⟨g, rfl⟩ : ∃ g, a1 = some ⟨g, 0, none⟩ := by
      rcases ho4.2 with ⟨_, h0⟩ | ⟨g, c, cur, h0, _⟩
      · exfalso; have h0' : d.1.length = 0 := h0; omega
      · cases h0; exact ⟨g, rfl⟩
    have HK4 : Hid (KInv w4 w4 (w.heap.size + 2) (w.heap.size + 2 + 1) g c1 d.1) := ⟨hV4, ho4, Below.refl _ _⟩
    have HRE : Hid (Calls Tryd.prog 48 #[.pointer (some ⟨w.heap.size + 2, 0, none⟩), .int .i64 n] w4 fun e w' => (∃ r, e = .returned r) ∧ KInv w4 w' (w.heap.size + 2) (w.heap.size + 2 + 1) g c1 (recX d.1 n)) :=
      implRedo _ _ g c1 d.1 n a0 w4 hn1 hn2 hlen HZ.out (by omega) HE4.out HK4.out
    have hXl := recX_len d.1 n
    clear hV4 ho4 hb4 HV3 HR3 HO3 HB03 HST HK4
    generalize recX d.1 n = X at *
    go_wp2_with fail
    refine HRE.out.mono ?_
    rintro e w5 ⟨⟨r5, rfl⟩, hK5⟩
    have hT := hK5.put (by omega) 0 ⟨#[]⟩
    obtain ⟨t0, t1⟩ := hK5.cell (j := 0) (by omega)
    have z0 : w5.cell? ⟨w.heap.size + 2, 0, none⟩ = some (.slice (some ⟨g, 0, none⟩) X.length c1) := hK5.var.cell 0
    have z1 : (w5.setCell ⟨g, 0, none⟩ (.string ⟨#[]⟩)).cell? ⟨w.heap.size + 2, 0, none⟩ = some (.slice (some ⟨g, 0, none⟩) X.length c1) := by have := hT.var.cell 0; rw [List.length_set] at this; exact this
    have z2 : (w5.setCell ⟨g, 0, none⟩ (.string ⟨#[]⟩)).cell? ⟨w.heap.size + 2, 1, none⟩ = some (.slice none 0 0) := hT.var.cell 1
    have hR5 := HR4.out.below hT.below (by omega)
    have hbT : Below w.heap.size w (w5.setCell ⟨g, 0, none⟩ (.string ⟨#[]⟩)) := HB04.out.trans (hT.below.mono (by omega))
    have hOT : OwnD (w5.setCell ⟨g, 0, none⟩ (.string ⟨#[]⟩)) (w.heap.size + 2 + 1) (.agg #[.slice (some ⟨g, 0, none⟩) X.length c1, .slice none 0 0]) (X.set 0 ⟨#[]⟩, []) := ⟨_, _, rfl, by have := hT.own; rw [List.length_set] at this ⊢; exact this, World.ownsRow_nil _ _ _ _⟩
    have HO10 : Hid (OwnD (((w5.setCell ⟨g, 0, none⟩ (.string ⟨#[]⟩)).setCell ⟨w.heap.size + 1, 0, none⟩ (.slice (some ⟨g, 0, none⟩) X.length c1)).setCell ⟨w.heap.size + 1, 1, none⟩ (.slice none 0 0)) w.heap.size (.agg #[.slice (some ⟨g, 0, none⟩) X.length c1, .slice none 0 0]) (X.set 0 ⟨#[]⟩, [])) := ((hOT.setVar hR5 0 _).setVar (hR5.set 0 _) 1 _).base (by omega)
    have HR10 : Hid (Var (((w5.setCell ⟨g, 0, none⟩ (.string ⟨#[]⟩)).setCell ⟨w.heap.size + 1, 0, none⟩ (.slice (some ⟨g, 0, none⟩) X.length c1)).setCell ⟨w.heap.size + 1, 1, none⟩ (.slice none 0 0)) (w.heap.size + 1) #[.slice (some ⟨g, 0, none⟩) X.length c1, .slice none 0 0] 27) := hR5.two _ _
    have hb10 : Below w.heap.size w (((w5.setCell ⟨g, 0, none⟩ (.string ⟨#[]⟩)).setCell ⟨w.heap.size + 1, 0, none⟩ (.slice (some ⟨g, 0, none⟩) X.length c1)).setCell ⟨w.heap.size + 1, 1, none⟩ (.slice none 0 0)) := (hbT.setCell (p := ⟨w.heap.size + 1, 0, none⟩) (by show _ ≤ w.heap.size + 1; omega) _).setCell (p := ⟨w.heap.size + 1, 1, none⟩) (by show _ ≤ w.heap.size + 1; omega) _
    have hq0 := hR5.cell 0
    have hq1 := (hR5.set 0 (.slice (some ⟨g, 0, none⟩) X.length c1)).cell 1
    have hk0 := hR5.frozen 0
    have hk1 := hR5.frozen 1
    simp at hq0 hq1
    have hXp : (0 : Int) < (X.length : Int) := by omega
    clear hT hOT hK5 hR5 hbT hXl HRE
    go_wp2
    refine bodyPost_ret (results_cell_row rfl _ _ (w.heap.size + 1) 27 #[.slice (some ⟨g, 0, none⟩) X.length c1, .slice none 0 0] (0, 0) _ rfl HR10.out Tryd.underlying27 rfl Tryd.sizeDisk) rfl ?_
    exact ⟨_, rfl, by rw [HF.out]; exact HO10.out, hb10⟩
end Go.Proofs.YtlidmnehpcodkaaDoor
