/-
  Own text: the three changes that are done on a copy of a branch.
-/
import Derived.Test.YtbameedfnicnhaaIHoldW
import Derived.Test.YtbameedfnicnhaaIDataW
import Derived.Test.YtbameedfnicnhaaResF2
namespace Go.Proofs.Ytbameedfnicnhaa
open Go.RowKit

theorem only_lo {W w' : World} {lo g gd : Nat} (h : Only (fun q => q = g ∨ q = gd ∨ W.heap.size ≤ q) W w') (_ : lo ≤ g) (_ : lo ≤ gd) (_ : lo ≤ W.heap.size) : Only (fun q => lo ≤ q) W w' := h.mono fun q _ e => by omega
theorem wr_no {F : FsD} {i : Int} {d : ByteArray} (h : ¬ UsP F i) : wrOk F i d = false := wrOk_no fun h2 => h h2.1

set_option maxRecDepth 20000 in
set_option maxHeartbeats 8000000 in
theorem cloWr (lo P ki kd : Nat) (vn vd : Value) (F : FsD) (i : Int) (d : ByteArray) (W : World) (hsm : SmF F) (hv : Var W P #[vn, vd] 27) (ho : OwnFs W lo W.heap.size (.agg #[vn, vd]) F) (hP : P < lo) (hki : ki < lo) (hkd : kd < lo) (hlo : lo ≤ W.heap.size)
    (ci : W.cell? ⟨ki, 0, none⟩ = some (.int .i64 i)) (cd : W.cell? ⟨kd, 0, none⟩ = some (.string d)) :
    Calls Try.prog 35 #[.pointer (some ⟨P, 0, none⟩), .pointer (some ⟨ki, 0, none⟩), .pointer (some ⟨kd, 0, none⟩)] W fun e w' => e = .returned (.bool (wrOk F i d)) ∧ (wrOk F i d = true → OwnFs w' lo w'.heap.size (.agg #[vn, vd]) (wrF F i d)) ∧ Only (fun q => lo ≤ q) W w' := by
  obtain ⟨a, ca, b, cb, hlay⟩ := ho.lay
  simp at hlay
  obtain ⟨rfl, rfl⟩ := hlay
  have hlP := hv.lt
  have p0 : W.cell? ⟨P, 0, none⟩ = some (.slice a F.ns.length ca) := (hv.cell 0).trans rfl
  have p1 : W.cell? ⟨P, 1, none⟩ = some (.slice b F.ds.length cb) := (hv.cell 1).trans rfl
  have HUS := implUse P a b ca cb F i W.drew hsm hlP p0 p1 (ho.below ((Below.refl _ _).drew)).rd
  have HUS2 : Hid (Calls Try.prog 36 #[.pointer (some ⟨P, 0, none⟩), .int .i64 i] W.drew fun e w' => e = .returned (.bool (usB F i)) ∧ Below W.drew.heap.size W.drew w') := HUS
  have HCE : Hid (∀ w', Only (fun q => lo ≤ q) W w' → w'.cell? ⟨ki, 0, none⟩ = some (.int .i64 i) ∧ w'.cell? ⟨kd, 0, none⟩ = some (.string d) ∧ w'.cell? ⟨P, 0, none⟩ = some (.slice a F.ns.length ca)) := fun w' h => ⟨(h.cell (p := ⟨ki, 0, none⟩) (by show ki < _; omega) (by show ¬ lo ≤ ki; omega)).trans ci, (h.cell (p := ⟨kd, 0, none⟩) (by show kd < _; omega) (by show ¬ lo ≤ kd; omega)).trans cd, (h.cell (p := ⟨P, 0, none⟩) hlP (by show ¬ lo ≤ P; omega)).trans p0⟩
  have HSS : Hid (W.cell? ⟨ki, 0, none⟩ = some (.int .i64 i) ∧ W.cell? ⟨kd, 0, none⟩ = some (.string d) ∧ W.cell? ⟨P, 0, none⟩ = some (.slice a F.ns.length ca)) := ⟨ci, cd, p0⟩
  have HOB : Hid (∀ w', Below W.drew.heap.size W.drew w' → Only (fun q => lo ≤ q) W w') := fun w' h => (Only.of_new ((Below.refl _ _).drew)).trans ((Only.of_below h).mono fun q _ (e : W.drew.heap.size ≤ q) => by have : W.drew.heap.size = W.heap.size := rfl; omega)
  clear HUS p0 p1 ci cd
  by_cases hu : UsP F i
  · have HU1 : Hid (usB F i = true) := usB_yes hu
    rw [HU1.out] at HUS2
    obtain ⟨k, rfl⟩ := natOf hu.2.1
    have hk : k < F.ns.length := by simpa using hu.2.2.1
    have hn1 : 0 < F.ns.length := by omega
    have hd1 : 0 < F.ds.length := hu.1.1.2.2.1
    have hkn : F.ns.length ≤ 10 := hu.1.1.2.1
    by_cases hds : d.size ≤ 80
    · have hdI : (d.size : Int) ≤ 80 := by omega
      have HHO : Hid (∀ w1, Below W.drew.heap.size W.drew w1 → ∃ g gd, a = some ⟨g, 0, none⟩ ∧ lo ≤ g ∧ lo ≤ gd ∧ Calls Try.prog 37 #[.pointer (some ⟨P, 0, none⟩), .pointer (some ⟨g, k * 5, none⟩), .string d] w1 fun e w' => e = .returned (.bool (wrOk F (k : Nat) d)) ∧ (wrOk F (k : Nat) d = true → OwnFs w' lo w'.heap.size (.agg #[.slice a F.ns.length ca, .slice b F.ds.length cb]) (wrF F (k : Nat) d)) ∧ Only (fun q => q = g ∨ q = gd ∨ w1.heap.size ≤ q) w1 w') := by
        intro w1 hb1
        obtain ⟨g, gd, ca', cb', M, he, hM, h1, h2⟩ := ho.open hn1 hd1
        simp at he
        obtain ⟨⟨rfl, rfl⟩, rfl, rfl⟩ := he
        have hbW : Below W.heap.size W w1 := ((Below.refl _ _).drew).trans hb1
        have hmu : MuF w1 lo P g gd F.ns.length F.ds.length ca cb M F.ds := MuF.made (hv.new hbW) h1 h2 hbW (by rw [← hM]; simp) rfl
        refine ⟨g, gd, rfl, hmu.in_g.1, hmu.in_gd.1, ?_⟩
        have hq : wrOk F (k : Int) d = decide (needN d ≤ (allW F (k : Int)).length) := by
          by_cases h : needN d ≤ (allW F (k : Int)).length
          · rw [wrOk_yes ⟨hu, hds, h⟩, decide_eq_true h]
          · rw [wrOk_no fun h3 => h h3.2.2, decide_eq_false h]
        refine (implHold lo P g gd ca cb k M F d w1 hmu hM hu hds).mono ?_
        rintro e w' ⟨rfl, h3, h4⟩
        refine ⟨by rw [hq], fun h => ?_, h4⟩
        rw [hq] at h
        obtain ⟨M', hM', hmu'⟩ := h3 (of_decide_eq_true h)
        exact hmu'.own (F := wrF F (k : Int) d) (by rw [hM']; show _ = F.ns.set ((k : Int)).toNat _; rw [Int.toNat_natCast]) rfl
      have hki0 : ((k : Int)).toNat = k := Int.toNat_natCast k
      clear hu hv ho hsm hds
      go_enter Try.func35, Try.ntmps35
      go_upto_region 1 with fail
      refine wp_region_noPanic ?_
      refine wp_region_held_drew (S := (fun W => W.cell? ⟨ki, 0, none⟩ = some (.int .i64 (k : Nat)) ∧ W.cell? ⟨kd, 0, none⟩ = some (.string d) ∧ W.cell? ⟨P, 0, none⟩ = some (.slice a F.ns.length ca))) (by kernel_rfl) HSS.out (fun hT => ?_)
      clear hT
      refine held_take (i := 0) (v := .pointer (some ⟨P, 0, none⟩)) rfl rfl (by kernel_rfl) (by kernel_rfl) (by kernel_rfl) (by kernel_rfl) (fun W hS => by go_simp) HSS.out ?_
      simp only [Act.put, List.setIfInBounds_toArray, List.set_cons_zero, List.set_cons_succ]
      refine held_take (i := 1) (v := .int .i64 (k : Nat)) rfl rfl (by kernel_rfl) (by kernel_rfl) (by kernel_rfl) (by kernel_rfl) (fun W hS => by obtain ⟨hs0, hs1, hs2⟩ := hS; go_simp) HSS.out ?_
      simp only [Act.put, List.setIfInBounds_toArray, List.set_cons_zero, List.set_cons_succ]
      refine wpAnyH_ready (rs := [2]) (by kernel_rfl) (by simp) (AllReadyH.cons rfl (fun K hK => ?_) AllReadyH.nil)
      go_simp
      refine HUS2.out.mono ?_
      rintro e w1 ⟨rfl, hb1⟩
      have hss := HCE.out w1 (HOB.out w1 hb1)
      have HSN : Hid (w1.cell? ⟨ki, 0, none⟩ = some (.int .i64 (k : Nat)) ∧ w1.cell? ⟨kd, 0, none⟩ = some (.string d) ∧ w1.cell? ⟨P, 0, none⟩ = some (.slice a F.ns.length ca)) := hss
      refine hK.out _ _ HSN.out (fun hT => ?_)
      clear hK K hT
      try simp only [Act.put, List.setIfInBounds_toArray, List.set_cons_zero, List.set_cons_succ]
      clear HSS hss HUS2
      have HSS := HSN
      clear HSN
      refine held_take (i := 3) (v := .bool true) rfl rfl (by kernel_rfl) (by kernel_rfl) (by kernel_rfl) (by kernel_rfl) (fun W hS => by go_simp) HSS.out ?_
      simp only [Act.put, List.setIfInBounds_toArray, List.set_cons_zero, List.set_cons_succ]
      refine held_take (i := 4) (v := .string d) rfl rfl (by kernel_rfl) (by kernel_rfl) (by kernel_rfl) (by kernel_rfl) (fun W hS => by obtain ⟨hs0, hs1, hs2⟩ := hS; go_simp) HSS.out ?_
      simp only [Act.put, List.setIfInBounds_toArray, List.set_cons_zero, List.set_cons_succ]
      refine held_take (i := 5) (v := .int .i64 (d.size : Nat)) rfl rfl (by kernel_rfl) (by kernel_rfl) (by kernel_rfl) (by kernel_rfl) (fun W hS => by go_simp) HSS.out ?_
      simp only [Act.put, List.setIfInBounds_toArray, List.set_cons_zero, List.set_cons_succ]
      refine held_take (i := 6) (v := .bool true) rfl rfl (by kernel_rfl) (by kernel_rfl) (by kernel_rfl) (by kernel_rfl) (fun W hS => by go_simp) HSS.out ?_
      simp only [Act.put, List.setIfInBounds_toArray, List.set_cons_zero, List.set_cons_succ]
      refine held_take (i := 7) (v := .bool true) rfl rfl (by kernel_rfl) (by kernel_rfl) (by kernel_rfl) (by kernel_rfl) (fun W hS => by go_simp) HSS.out ?_
      simp only [Act.put, List.setIfInBounds_toArray, List.set_cons_zero, List.set_cons_succ]
      refine held_take (i := 8) (v := .bool true) rfl rfl (by kernel_rfl) (by kernel_rfl) (by kernel_rfl) (by kernel_rfl) (fun W hS => by go_simp) HSS.out ?_
      simp only [Act.put, List.setIfInBounds_toArray, List.set_cons_zero, List.set_cons_succ]
      refine held_take (i := 9) (v := .pointer (some ⟨P, 0, none⟩)) rfl rfl (by kernel_rfl) (by kernel_rfl) (by kernel_rfl) (by kernel_rfl) (fun W hS => by go_simp) HSS.out ?_
      simp only [Act.put, List.setIfInBounds_toArray, List.set_cons_zero, List.set_cons_succ]
      refine held_take (i := 10) (v := .pointer (some ⟨P, 0, none⟩)) rfl rfl (by kernel_rfl) (by kernel_rfl) (by kernel_rfl) (by kernel_rfl) (fun W hS => by go_simp) HSS.out ?_
      simp only [Act.put, List.setIfInBounds_toArray, List.set_cons_zero, List.set_cons_succ]
      refine held_take (i := 11) (v := .pointer (some ⟨P, 0, none⟩)) rfl rfl (by kernel_rfl) (by kernel_rfl) (by kernel_rfl) (by kernel_rfl) (fun W hS => by go_simp) HSS.out ?_
      simp only [Act.put, List.setIfInBounds_toArray, List.set_cons_zero, List.set_cons_succ]
      refine held_take (i := 12) (v := .pointer (some ⟨P, 0, none⟩)) rfl rfl (by kernel_rfl) (by kernel_rfl) (by kernel_rfl) (by kernel_rfl) (fun W hS => by go_simp) HSS.out ?_
      simp only [Act.put, List.setIfInBounds_toArray, List.set_cons_zero, List.set_cons_succ]
      refine held_take (i := 13) (v := .slice a F.ns.length ca) rfl rfl (by kernel_rfl) (by kernel_rfl) (by kernel_rfl) (by kernel_rfl) (fun W hS => by obtain ⟨hs0, hs1, hs2⟩ := hS; go_simp) HSS.out ?_
      simp only [Act.put, List.setIfInBounds_toArray, List.set_cons_zero, List.set_cons_succ]
      refine held_take (i := 14) (v := .int .i64 (k : Nat)) rfl rfl (by kernel_rfl) (by kernel_rfl) (by kernel_rfl) (by kernel_rfl) (fun W hS => by obtain ⟨hs0, hs1, hs2⟩ := hS; go_simp) HSS.out ?_
      simp only [Act.put, List.setIfInBounds_toArray, List.set_cons_zero, List.set_cons_succ]
      obtain ⟨g, gd, rfl, hlg, hlgd, hhold⟩ := HHO.out w1 hb1
      refine held_take (i := 15) (v := .pointer (some ⟨g, k * 5, none⟩)) rfl rfl (by kernel_rfl) (by kernel_rfl) (by kernel_rfl) (by kernel_rfl) (fun W hS => by go_simp) HSS.out ?_
      simp only [Act.put, List.setIfInBounds_toArray, List.set_cons_zero, List.set_cons_succ]
      refine held_take (i := 16) (v := .string d) rfl rfl (by kernel_rfl) (by kernel_rfl) (by kernel_rfl) (by kernel_rfl) (fun W hS => by obtain ⟨hs0, hs1, hs2⟩ := hS; go_simp) HSS.out ?_
      simp only [Act.put, List.setIfInBounds_toArray, List.set_cons_zero, List.set_cons_succ]
      have HHC : Hid (Calls Try.prog 37 #[.pointer (some ⟨P, 0, none⟩), .pointer (some ⟨g, k * 5, none⟩), .string d] w1 fun e w' => e = .returned (.bool (wrOk F (k : Nat) d)) ∧ (wrOk F (k : Nat) d = true → OwnFs w' lo w'.heap.size (.agg #[.slice (some ⟨g, 0, none⟩) F.ns.length ca, .slice b F.ds.length cb]) (wrF F (k : Nat) d)) ∧ Only (fun q => q = g ∨ q = gd ∨ w1.heap.size ≤ q) w1 w') := hhold
      clear hhold HHO
      refine wpAnyH_ready (rs := [17]) (by kernel_rfl) (by simp) (AllReadyH.cons rfl (fun K hK => ?_) AllReadyH.nil)
      go_simp
      refine HHC.out.mono ?_
      rintro e w2 ⟨rfl, hown, hon⟩
      have hzz : lo ≤ w1.heap.size := Nat.le_trans hlo (HOB.out w1 hb1).size
      have HON : Hid (Only (fun q => lo ≤ q) W w2) := (HOB.out w1 hb1).trans (only_lo hon hlg hlgd hzz)
      have HOW : Hid (wrOk F (k : Nat) d = true → OwnFs w2 lo w2.heap.size (.agg #[.slice (some ⟨g, 0, none⟩) F.ns.length ca, .slice b F.ds.length cb]) (wrF F (k : Nat) d)) := hown
      have hss := HCE.out w2 HON.out
      have HSN : Hid (w2.cell? ⟨ki, 0, none⟩ = some (.int .i64 (k : Nat)) ∧ w2.cell? ⟨kd, 0, none⟩ = some (.string d) ∧ w2.cell? ⟨P, 0, none⟩ = some (.slice (some ⟨g, 0, none⟩) F.ns.length ca)) := hss
      refine hK.out _ _ HSN.out (fun hT => ?_)
      clear hK K hT
      try simp only [Act.put, List.setIfInBounds_toArray, List.set_cons_zero, List.set_cons_succ]
      clear HSS hss hown hon HHC HCE HOB hb1
      have HSS := HSN
      clear HSN
      obtain ⟨ok, hok⟩ : ∃ x, wrOk F (k : Nat) d = x := ⟨_, rfl⟩
      have HOKE : Hid (wrOk F (k : Nat) d = ok) := hok
      rw [hok]
      clear hok
      refine held_take (i := 18) (v := .bool ok) rfl rfl (by kernel_rfl) (by kernel_rfl) (by kernel_rfl) (by kernel_rfl) (fun W hS => by go_simp) HSS.out ?_
      simp only [Act.put, List.setIfInBounds_toArray, List.set_cons_zero, List.set_cons_succ]
      refine held_take (i := 19) (v := .bool ok) rfl rfl (by kernel_rfl) (by kernel_rfl) (by kernel_rfl) (by kernel_rfl) (fun W hS => by go_simp) HSS.out ?_
      simp only [Act.put, List.setIfInBounds_toArray, List.set_cons_zero, List.set_cons_succ]
      refine wpAnyH_done (by kernel_rfl) ?_ _
      simp only [NoPanic]
      go_wp2
      go_ret
      exact ⟨by rw [HOKE.out]; rfl, HOW.out, HON.out⟩
    · have HOK : Hid (wrOk F (k : Nat) d = false) := wrOk_no fun h => hds h.2.1
      have hdI : ¬ (d.size : Int) ≤ 80 := by omega
      clear hu hv ho hsm hds
      go_enter Try.func35, Try.ntmps35
      go_upto_region 1 with fail
      refine wp_region_noPanic ?_
      refine wp_region_held_drew (S := (fun W => W.cell? ⟨ki, 0, none⟩ = some (.int .i64 (k : Nat)) ∧ W.cell? ⟨kd, 0, none⟩ = some (.string d) ∧ W.cell? ⟨P, 0, none⟩ = some (.slice a F.ns.length ca))) (by kernel_rfl) HSS.out (fun hT => ?_)
      clear hT
      refine held_take (i := 0) (v := .pointer (some ⟨P, 0, none⟩)) rfl rfl (by kernel_rfl) (by kernel_rfl) (by kernel_rfl) (by kernel_rfl) (fun W hS => by go_simp) HSS.out ?_
      simp only [Act.put, List.setIfInBounds_toArray, List.set_cons_zero, List.set_cons_succ]
      refine held_take (i := 1) (v := .int .i64 (k : Nat)) rfl rfl (by kernel_rfl) (by kernel_rfl) (by kernel_rfl) (by kernel_rfl) (fun W hS => by obtain ⟨hs0, hs1, hs2⟩ := hS; go_simp) HSS.out ?_
      simp only [Act.put, List.setIfInBounds_toArray, List.set_cons_zero, List.set_cons_succ]
      refine wpAnyH_ready (rs := [2]) (by kernel_rfl) (by simp) (AllReadyH.cons rfl (fun K hK => ?_) AllReadyH.nil)
      go_simp
      refine HUS2.out.mono ?_
      rintro e w1 ⟨rfl, hb1⟩
      have hss := HCE.out w1 (HOB.out w1 hb1)
      have HSN : Hid (w1.cell? ⟨ki, 0, none⟩ = some (.int .i64 (k : Nat)) ∧ w1.cell? ⟨kd, 0, none⟩ = some (.string d) ∧ w1.cell? ⟨P, 0, none⟩ = some (.slice a F.ns.length ca)) := hss
      refine hK.out _ _ HSN.out (fun hT => ?_)
      clear hK K hT
      try simp only [Act.put, List.setIfInBounds_toArray, List.set_cons_zero, List.set_cons_succ]
      clear HSS hss HUS2
      have HSS := HSN
      clear HSN
      refine held_take (i := 3) (v := .bool true) rfl rfl (by kernel_rfl) (by kernel_rfl) (by kernel_rfl) (by kernel_rfl) (fun W hS => by go_simp) HSS.out ?_
      simp only [Act.put, List.setIfInBounds_toArray, List.set_cons_zero, List.set_cons_succ]
      refine held_take (i := 4) (v := .string d) rfl rfl (by kernel_rfl) (by kernel_rfl) (by kernel_rfl) (by kernel_rfl) (fun W hS => by obtain ⟨hs0, hs1, hs2⟩ := hS; go_simp) HSS.out ?_
      simp only [Act.put, List.setIfInBounds_toArray, List.set_cons_zero, List.set_cons_succ]
      refine held_take (i := 5) (v := .int .i64 (d.size : Nat)) rfl rfl (by kernel_rfl) (by kernel_rfl) (by kernel_rfl) (by kernel_rfl) (fun W hS => by go_simp) HSS.out ?_
      simp only [Act.put, List.setIfInBounds_toArray, List.set_cons_zero, List.set_cons_succ]
      refine held_take (i := 6) (v := .bool false) rfl rfl (by kernel_rfl) (by kernel_rfl) (by kernel_rfl) (by kernel_rfl) (fun W hS => by go_simp) HSS.out ?_
      simp only [Act.put, List.setIfInBounds_toArray, List.set_cons_zero, List.set_cons_succ]
      refine held_take (i := 7) (v := .bool false) rfl rfl (by kernel_rfl) (by kernel_rfl) (by kernel_rfl) (by kernel_rfl) (fun W hS => by go_simp) HSS.out ?_
      simp only [Act.put, List.setIfInBounds_toArray, List.set_cons_zero, List.set_cons_succ]
      refine held_take (i := 8) (v := .bool false) rfl rfl (by kernel_rfl) (by kernel_rfl) (by kernel_rfl) (by kernel_rfl) (fun W hS => by go_simp) HSS.out ?_
      simp only [Act.put, List.setIfInBounds_toArray, List.set_cons_zero, List.set_cons_succ]
      have HON : Hid (Only (fun q => lo ≤ q) W w1) := HOB.out w1 hb1
      refine held_skip (i := 9) rfl rfl (by kernel_rfl) (by kernel_rfl) (by kernel_rfl) (by kernel_rfl) HSS.out ?_
      simp only [Act.put, List.setIfInBounds_toArray, List.set_cons_zero, List.set_cons_succ]
      refine held_skip (i := 10) rfl rfl (by kernel_rfl) (by kernel_rfl) (by kernel_rfl) (by kernel_rfl) HSS.out ?_
      simp only [Act.put, List.setIfInBounds_toArray, List.set_cons_zero, List.set_cons_succ]
      refine held_skip (i := 11) rfl rfl (by kernel_rfl) (by kernel_rfl) (by kernel_rfl) (by kernel_rfl) HSS.out ?_
      simp only [Act.put, List.setIfInBounds_toArray, List.set_cons_zero, List.set_cons_succ]
      refine held_skip (i := 12) rfl rfl (by kernel_rfl) (by kernel_rfl) (by kernel_rfl) (by kernel_rfl) HSS.out ?_
      simp only [Act.put, List.setIfInBounds_toArray, List.set_cons_zero, List.set_cons_succ]
      refine held_skip (i := 13) rfl rfl (by kernel_rfl) (by kernel_rfl) (by kernel_rfl) (by kernel_rfl) HSS.out ?_
      simp only [Act.put, List.setIfInBounds_toArray, List.set_cons_zero, List.set_cons_succ]
      refine held_skip (i := 14) rfl rfl (by kernel_rfl) (by kernel_rfl) (by kernel_rfl) (by kernel_rfl) HSS.out ?_
      simp only [Act.put, List.setIfInBounds_toArray, List.set_cons_zero, List.set_cons_succ]
      refine held_skip (i := 15) rfl rfl (by kernel_rfl) (by kernel_rfl) (by kernel_rfl) (by kernel_rfl) HSS.out ?_
      simp only [Act.put, List.setIfInBounds_toArray, List.set_cons_zero, List.set_cons_succ]
      refine held_skip (i := 16) rfl rfl (by kernel_rfl) (by kernel_rfl) (by kernel_rfl) (by kernel_rfl) HSS.out ?_
      simp only [Act.put, List.setIfInBounds_toArray, List.set_cons_zero, List.set_cons_succ]
      refine held_skip (i := 17) rfl rfl (by kernel_rfl) (by kernel_rfl) (by kernel_rfl) (by kernel_rfl) HSS.out ?_
      simp only [Act.put, List.setIfInBounds_toArray, List.set_cons_zero, List.set_cons_succ]
      refine held_take (i := 18) (v := .bool false) rfl rfl (by kernel_rfl) (by kernel_rfl) (by kernel_rfl) (by kernel_rfl) (fun W hS => by go_simp) HSS.out ?_
      simp only [Act.put, List.setIfInBounds_toArray, List.set_cons_zero, List.set_cons_succ]
      refine held_take (i := 19) (v := .bool false) rfl rfl (by kernel_rfl) (by kernel_rfl) (by kernel_rfl) (by kernel_rfl) (fun W hS => by go_simp) HSS.out ?_
      simp only [Act.put, List.setIfInBounds_toArray, List.set_cons_zero, List.set_cons_succ]
      refine wpAnyH_done (by kernel_rfl) ?_ _
      simp only [NoPanic]
      go_wp2
      go_ret
      exact ⟨by rw [HOK.out]; rfl, fun h => absurd (HOK.out.symm.trans h) (by decide), HON.out⟩
  · have HU1 : Hid (usB F i = false) := usB_no hu
    rw [HU1.out] at HUS2
    have HOK : Hid (wrOk F i d = false) := wr_no hu
    clear hu hv ho hsm
    go_enter Try.func35, Try.ntmps35
    go_upto_region 1 with fail
    refine wp_region_noPanic ?_
    refine wp_region_held_drew (S := (fun W => W.cell? ⟨ki, 0, none⟩ = some (.int .i64 i) ∧ W.cell? ⟨kd, 0, none⟩ = some (.string d) ∧ W.cell? ⟨P, 0, none⟩ = some (.slice a F.ns.length ca))) (by kernel_rfl) HSS.out (fun hT => ?_)
    clear hT
    refine held_take (i := 0) (v := .pointer (some ⟨P, 0, none⟩)) rfl rfl (by kernel_rfl) (by kernel_rfl) (by kernel_rfl) (by kernel_rfl) (fun W hS => by go_simp) HSS.out ?_
    simp only [Act.put, List.setIfInBounds_toArray, List.set_cons_zero, List.set_cons_succ]
    refine held_take (i := 1) (v := .int .i64 i) rfl rfl (by kernel_rfl) (by kernel_rfl) (by kernel_rfl) (by kernel_rfl) (fun W hS => by obtain ⟨hs0, hs1, hs2⟩ := hS; go_simp) HSS.out ?_
    simp only [Act.put, List.setIfInBounds_toArray, List.set_cons_zero, List.set_cons_succ]
    refine wpAnyH_ready (rs := [2]) (by kernel_rfl) (by simp) (AllReadyH.cons rfl (fun K hK => ?_) AllReadyH.nil)
    go_simp
    refine HUS2.out.mono ?_
    rintro e w1 ⟨rfl, hb1⟩
    have hss := HCE.out w1 (HOB.out w1 hb1)
    have HSN : Hid (w1.cell? ⟨ki, 0, none⟩ = some (.int .i64 i) ∧ w1.cell? ⟨kd, 0, none⟩ = some (.string d) ∧ w1.cell? ⟨P, 0, none⟩ = some (.slice a F.ns.length ca)) := hss
    refine hK.out _ _ HSN.out (fun hT => ?_)
    clear hK K hT
    try simp only [Act.put, List.setIfInBounds_toArray, List.set_cons_zero, List.set_cons_succ]
    clear HSS hss HUS2
    have HSS := HSN
    clear HSN
    refine held_take (i := 3) (v := .bool false) rfl rfl (by kernel_rfl) (by kernel_rfl) (by kernel_rfl) (by kernel_rfl) (fun W hS => by go_simp) HSS.out ?_
    simp only [Act.put, List.setIfInBounds_toArray, List.set_cons_zero, List.set_cons_succ]
    refine held_skip (i := 4) rfl rfl (by kernel_rfl) (by kernel_rfl) (by kernel_rfl) (by kernel_rfl) HSS.out ?_
    simp only [Act.put, List.setIfInBounds_toArray, List.set_cons_zero, List.set_cons_succ]
    refine held_skip (i := 5) rfl rfl (by kernel_rfl) (by kernel_rfl) (by kernel_rfl) (by kernel_rfl) HSS.out ?_
    simp only [Act.put, List.setIfInBounds_toArray, List.set_cons_zero, List.set_cons_succ]
    refine held_skip (i := 6) rfl rfl (by kernel_rfl) (by kernel_rfl) (by kernel_rfl) (by kernel_rfl) HSS.out ?_
    simp only [Act.put, List.setIfInBounds_toArray, List.set_cons_zero, List.set_cons_succ]
    refine held_take (i := 7) (v := .bool false) rfl rfl (by kernel_rfl) (by kernel_rfl) (by kernel_rfl) (by kernel_rfl) (fun W hS => by go_simp) HSS.out ?_
    simp only [Act.put, List.setIfInBounds_toArray, List.set_cons_zero, List.set_cons_succ]
    refine held_take (i := 8) (v := .bool false) rfl rfl (by kernel_rfl) (by kernel_rfl) (by kernel_rfl) (by kernel_rfl) (fun W hS => by go_simp) HSS.out ?_
    simp only [Act.put, List.setIfInBounds_toArray, List.set_cons_zero, List.set_cons_succ]
    have HON : Hid (Only (fun q => lo ≤ q) W w1) := HOB.out w1 hb1
    refine held_skip (i := 9) rfl rfl (by kernel_rfl) (by kernel_rfl) (by kernel_rfl) (by kernel_rfl) HSS.out ?_
    simp only [Act.put, List.setIfInBounds_toArray, List.set_cons_zero, List.set_cons_succ]
    refine held_skip (i := 10) rfl rfl (by kernel_rfl) (by kernel_rfl) (by kernel_rfl) (by kernel_rfl) HSS.out ?_
    simp only [Act.put, List.setIfInBounds_toArray, List.set_cons_zero, List.set_cons_succ]
    refine held_skip (i := 11) rfl rfl (by kernel_rfl) (by kernel_rfl) (by kernel_rfl) (by kernel_rfl) HSS.out ?_
    simp only [Act.put, List.setIfInBounds_toArray, List.set_cons_zero, List.set_cons_succ]
    refine held_skip (i := 12) rfl rfl (by kernel_rfl) (by kernel_rfl) (by kernel_rfl) (by kernel_rfl) HSS.out ?_
    simp only [Act.put, List.setIfInBounds_toArray, List.set_cons_zero, List.set_cons_succ]
    refine held_skip (i := 13) rfl rfl (by kernel_rfl) (by kernel_rfl) (by kernel_rfl) (by kernel_rfl) HSS.out ?_
    simp only [Act.put, List.setIfInBounds_toArray, List.set_cons_zero, List.set_cons_succ]
    refine held_skip (i := 14) rfl rfl (by kernel_rfl) (by kernel_rfl) (by kernel_rfl) (by kernel_rfl) HSS.out ?_
    simp only [Act.put, List.setIfInBounds_toArray, List.set_cons_zero, List.set_cons_succ]
    refine held_skip (i := 15) rfl rfl (by kernel_rfl) (by kernel_rfl) (by kernel_rfl) (by kernel_rfl) HSS.out ?_
    simp only [Act.put, List.setIfInBounds_toArray, List.set_cons_zero, List.set_cons_succ]
    refine held_skip (i := 16) rfl rfl (by kernel_rfl) (by kernel_rfl) (by kernel_rfl) (by kernel_rfl) HSS.out ?_
    simp only [Act.put, List.setIfInBounds_toArray, List.set_cons_zero, List.set_cons_succ]
    refine held_skip (i := 17) rfl rfl (by kernel_rfl) (by kernel_rfl) (by kernel_rfl) (by kernel_rfl) HSS.out ?_
    simp only [Act.put, List.setIfInBounds_toArray, List.set_cons_zero, List.set_cons_succ]
    refine held_take (i := 18) (v := .bool false) rfl rfl (by kernel_rfl) (by kernel_rfl) (by kernel_rfl) (by kernel_rfl) (fun W hS => by go_simp) HSS.out ?_
    simp only [Act.put, List.setIfInBounds_toArray, List.set_cons_zero, List.set_cons_succ]
    refine held_take (i := 19) (v := .bool false) rfl rfl (by kernel_rfl) (by kernel_rfl) (by kernel_rfl) (by kernel_rfl) (fun W hS => by go_simp) HSS.out ?_
    simp only [Act.put, List.setIfInBounds_toArray, List.set_cons_zero, List.set_cons_succ]
    refine wpAnyH_done (by kernel_rfl) ?_ _
    simp only [NoPanic]
    go_wp2
    go_ret
    exact ⟨by rw [HOK.out]; rfl, fun h => absurd (HOK.out.symm.trans h) (by decide), HON.out⟩

set_option maxRecDepth 20000 in
set_option maxHeartbeats 8000000 in
theorem cloDp (lo P ki : Nat) (vn vd : Value) (F : FsD) (i : Int) (W : World) (hsm : SmF F) (hv : Var W P #[vn, vd] 27) (ho : OwnFs W lo W.heap.size (.agg #[vn, vd]) F) (hP : P < lo) (hki : ki < lo) (hlo : lo ≤ W.heap.size)
    (ci : W.cell? ⟨ki, 0, none⟩ = some (.int .i64 i)) :
    Calls Try.prog 58 #[.pointer (some ⟨P, 0, none⟩), .pointer (some ⟨ki, 0, none⟩)] W fun e w' => e = .returned (.bool (dpOk F i)) ∧ (dpOk F i = true → OwnFs w' lo w'.heap.size (.agg #[vn, vd]) (dpD F i)) ∧ Only (fun q => lo ≤ q) W w' := by
  obtain ⟨a, ca, b, cb, hlay⟩ := ho.lay
  simp at hlay
  obtain ⟨rfl, rfl⟩ := hlay
  have hlP := hv.lt
  have p0 : W.cell? ⟨P, 0, none⟩ = some (.slice a F.ns.length ca) := (hv.cell 0).trans rfl
  have p1 : W.cell? ⟨P, 1, none⟩ = some (.slice b F.ds.length cb) := (hv.cell 1).trans rfl
  have HUS2 : Hid (Calls Try.prog 36 #[.pointer (some ⟨P, 0, none⟩), .int .i64 i] W fun e w' => e = .returned (.bool (usB F i)) ∧ Below W.heap.size W w') := implUse P a b ca cb F i W hsm hlP p0 p1 ho.rd
  have HCE : Hid (∀ w', Only (fun q => lo ≤ q) W w' → w'.cell? ⟨ki, 0, none⟩ = some (.int .i64 i) ∧ w'.cell? ⟨P, 0, none⟩ = some (.slice a F.ns.length ca)) := fun w' h => ⟨(h.cell (p := ⟨ki, 0, none⟩) (by show ki < _; omega) (by show ¬ lo ≤ ki; omega)).trans ci, (h.cell (p := ⟨P, 0, none⟩) hlP (by show ¬ lo ≤ P; omega)).trans p0⟩
  have HOB : Hid (∀ w', Below W.heap.size W w' → Only (fun q => lo ≤ q) W w') := fun w' h => (Only.of_below h).mono fun q _ (e : W.heap.size ≤ q) => by omega
  clear p0 p1
  by_cases hi0 : i = 0
  · subst hi0
    have HOK : Hid (dpOk F 0 = false) := dpOk_no fun h => h.2 rfl
    have HON : Hid (Only (fun q => lo ≤ q) W W) := Only.refl _ _
    clear hv ho hsm HUS2 HCE HOB
    go_enter Try.func58, Try.ntmps58
    go_wp2
    go_ret
    exact ⟨by rw [HOK.out]; rfl, fun h => absurd (HOK.out.symm.trans h) (by decide), HON.out⟩
  by_cases hu : UsP F i
  · have HU1 : Hid (usB F i = true) := usB_yes hu
    rw [HU1.out] at HUS2
    have HOK : Hid (dpOk F i = true) := dpOk_yes ⟨hu, hi0⟩
    obtain ⟨k, rfl⟩ := natOf hu.2.1
    have hk0 : ¬ (k : Int) = 0 := hi0
    have hk : k < F.ns.length := by simpa using hu.2.2.1
    have hn1 : 0 < F.ns.length := by omega
    have hd1 : 0 < F.ds.length := hu.1.1.2.2.1
    have hkn : F.ns.length ≤ 10 := hu.1.1.2.1
    obtain ⟨hz1, hz2, hz3⟩ := held_none F (k : Int) (d := ⟨#[]⟩) rfl
    have HDD : Hid (dpD F (k : Int) = ⟨F.ns.set k zeroN, heldDs F (k : Int) ⟨#[]⟩⟩) := by show _ = _; unfold dpD; rw [HOK.out, hz3]; rfl
    have HHO : Hid (∀ w1, Below W.heap.size W w1 → ∃ g gd, a = some ⟨g, 0, none⟩ ∧ b = some ⟨gd, 0, none⟩ ∧ lo ≤ g ∧ lo ≤ gd ∧ Calls Try.prog 37 #[.pointer (some ⟨P, 0, none⟩), .pointer (some ⟨g, k * 5, none⟩), .string ⟨#[]⟩] w1 fun e w' => e = .returned (.bool true) ∧ (∃ M' : List NodeU, M'.map (·.1) = F.ns.set k (wrN F (k : Int) ⟨#[]⟩) ∧ MuF w' lo P g gd F.ns.length F.ds.length ca cb M' (heldDs F (k : Int) ⟨#[]⟩)) ∧ Only (fun q => q = g ∨ q = gd ∨ w1.heap.size ≤ q) w1 w') := by
      intro w1 hbW
      obtain ⟨g, gd, ca', cb', M, he, hM, h1, h2⟩ := ho.open hn1 hd1
      simp at he
      obtain ⟨⟨rfl, rfl⟩, rfl, rfl⟩ := he
      have hmu : MuF w1 lo P g gd F.ns.length F.ds.length ca cb M F.ds := MuF.made (hv.new hbW) h1 h2 hbW (by rw [← hM]; simp) rfl
      refine ⟨g, gd, rfl, rfl, hmu.in_g.1, hmu.in_gd.1, ?_⟩
      have hle : needN ⟨#[]⟩ ≤ (allW F (k : Int)).length := by rw [hz1]; omega
      refine (implHold lo P g gd ca cb k M F ⟨#[]⟩ w1 hmu hM hu (by show 0 ≤ 80; omega)).mono ?_
      rintro e w' ⟨rfl, h3, h4⟩
      exact ⟨by rw [decide_eq_true hle], h3 hle, h4⟩
    have HSET : Hid (∀ M' : List NodeU, M'.map (·.1) = F.ns.set k (wrN F (k : Int) ⟨#[]⟩) → (M'.set k (zeroN, .slice none 0 0)).map (·.1) = F.ns.set k zeroN) := fun M' h => by rw [List.map_set, h, List.set_set]
    clear hu hv ho hsm hi0 hz1 hz2 hz3
    go_enter Try.func58, Try.ntmps58
    go_wp2_with fail
    refine HUS2.out.mono ?_
    rintro e w1 ⟨rfl, hb1⟩
    have HSS : Hid (w1.drew.cell? ⟨ki, 0, none⟩ = some (.int .i64 (k : Nat)) ∧ w1.drew.cell? ⟨P, 0, none⟩ = some (.slice a F.ns.length ca)) := HCE.out w1 (HOB.out w1 hb1)
    obtain ⟨g, gd, rfl, rfl, hlg, hlgd, hhold⟩ := HHO.out w1.drew (hb1.trans ((Below.refl _ _).drew))
    have HHC : Hid (Calls Try.prog 37 #[.pointer (some ⟨P, 0, none⟩), .pointer (some ⟨g, k * 5, none⟩), .string ⟨#[]⟩] w1.drew fun e w' => e = .returned (.bool true) ∧ (∃ M' : List NodeU, M'.map (·.1) = F.ns.set k (wrN F (k : Int) ⟨#[]⟩) ∧ MuF w' lo P g gd F.ns.length F.ds.length ca cb M' (heldDs F (k : Int) ⟨#[]⟩)) ∧ Only (fun q => q = g ∨ q = gd ∨ w1.drew.heap.size ≤ q) w1.drew w') := hhold
    clear hhold HHO HUS2
    go_upto_region 3 with fail
    refine wp_region_noPanic ?_
    refine wp_region_held_drew (S := (fun W => W.cell? ⟨ki, 0, none⟩ = some (.int .i64 (k : Nat)) ∧ W.cell? ⟨P, 0, none⟩ = some (.slice (some ⟨g, 0, none⟩) F.ns.length ca))) (by kernel_rfl) HSS.out (fun hT => ?_)
    clear hT
    refine held_take (i := 0) (v := .pointer (some ⟨P, 0, none⟩)) rfl rfl (by kernel_rfl) (by kernel_rfl) (by kernel_rfl) (by kernel_rfl) (fun W hS => by go_simp) HSS.out ?_
    simp only [Act.put, List.setIfInBounds_toArray, List.set_cons_zero, List.set_cons_succ]
    refine held_take (i := 1) (v := .pointer (some ⟨P, 0, none⟩)) rfl rfl (by kernel_rfl) (by kernel_rfl) (by kernel_rfl) (by kernel_rfl) (fun W hS => by go_simp) HSS.out ?_
    simp only [Act.put, List.setIfInBounds_toArray, List.set_cons_zero, List.set_cons_succ]
    refine held_take (i := 2) (v := .pointer (some ⟨P, 0, none⟩)) rfl rfl (by kernel_rfl) (by kernel_rfl) (by kernel_rfl) (by kernel_rfl) (fun W hS => by go_simp) HSS.out ?_
    simp only [Act.put, List.setIfInBounds_toArray, List.set_cons_zero, List.set_cons_succ]
    refine held_take (i := 3) (v := .pointer (some ⟨P, 0, none⟩)) rfl rfl (by kernel_rfl) (by kernel_rfl) (by kernel_rfl) (by kernel_rfl) (fun W hS => by go_simp) HSS.out ?_
    simp only [Act.put, List.setIfInBounds_toArray, List.set_cons_zero, List.set_cons_succ]
    refine held_take (i := 4) (v := .slice (some ⟨g, 0, none⟩) F.ns.length ca) rfl rfl (by kernel_rfl) (by kernel_rfl) (by kernel_rfl) (by kernel_rfl) (fun W hS => by obtain ⟨hs0, hs1⟩ := hS; go_simp) HSS.out ?_
    simp only [Act.put, List.setIfInBounds_toArray, List.set_cons_zero, List.set_cons_succ]
    refine held_take (i := 5) (v := .int .i64 (k : Nat)) rfl rfl (by kernel_rfl) (by kernel_rfl) (by kernel_rfl) (by kernel_rfl) (fun W hS => by obtain ⟨hs0, hs1⟩ := hS; go_simp) HSS.out ?_
    simp only [Act.put, List.setIfInBounds_toArray, List.set_cons_zero, List.set_cons_succ]
    refine held_take (i := 6) (v := .pointer (some ⟨g, k * 5, none⟩)) rfl rfl (by kernel_rfl) (by kernel_rfl) (by kernel_rfl) (by kernel_rfl) (fun W hS => by go_simp) HSS.out ?_
    simp only [Act.put, List.setIfInBounds_toArray, List.set_cons_zero, List.set_cons_succ]
    refine wpAnyH_ready (rs := [7]) (by kernel_rfl) (by simp) (AllReadyH.cons rfl (fun K hK => ?_) AllReadyH.nil)
    go_simp
    refine HHC.out.mono ?_
    rintro e w2 ⟨rfl, ⟨M', hM', hmu⟩, hon⟩
    have HON : Hid (Only (fun q => lo ≤ q) W w2) := (HOB.out w1 hb1).trans ((Only.of_new ((Below.refl _ _).drew)).trans (only_lo hon hlg hlgd (Nat.le_trans hlo (HOB.out w1 hb1).size)))
    have HMU : Hid (MuF w2 lo P g gd F.ns.length F.ds.length ca cb M' (heldDs F (k : Int) ⟨#[]⟩)) := hmu
    have HMM : Hid ((M'.set k (zeroN, .slice none 0 0)).map (·.1) = F.ns.set k zeroN) := HSET.out M' hM'
    have hkM : k < M'.length := by have := congrArg List.length hM'; simp at this; omega
    have hss := HCE.out w2 HON.out
    have HSN : Hid (w2.cell? ⟨ki, 0, none⟩ = some (.int .i64 (k : Nat)) ∧ w2.cell? ⟨P, 0, none⟩ = some (.slice (some ⟨g, 0, none⟩) F.ns.length ca)) := hss
    refine hK.out _ _ HSN.out (fun hT => ?_)
    clear hK K hT
    try simp only [Act.put, List.setIfInBounds_toArray, List.set_cons_zero, List.set_cons_succ]
    clear HSS hss hmu hon HHC HCE HOB hb1 HSET hM'
    refine wpAnyH_done (by kernel_rfl) ?_ _
    simp only [NoPanic]
    obtain ⟨s0, s1⟩ := HSN.out
    clear HSN
    obtain ⟨d0, d1, d2, d3, d4⟩ := HMU.out.celln hkM
    have f0 := HMU.out.fz (k * 5)
    have f1 := HMU.out.fz (k * 5 + 1)
    have f2 := HMU.out.fz (k * 5 + 2)
    have f3 := HMU.out.fz (k * 5 + 3)
    have f4 := HMU.out.fz (k * 5 + 4)
    have HW : Hid (MuF (((((w2.setCell ⟨g, k * 5, none⟩ (.int .i64 0)).setCell ⟨g, k * 5 + 1, none⟩ (.int .i64 0)).setCell ⟨g, k * 5 + 2, none⟩ (.int .i64 0)).setCell ⟨g, k * 5 + 3, none⟩ (.int .i64 0)).setCell ⟨g, k * 5 + 4, none⟩ (.slice none 0 0)).drew lo P g gd F.ns.length F.ds.length ca cb (M'.set k (zeroN, .slice none 0 0)) (heldDs F (k : Int) ⟨#[]⟩)) := (HMU.out.wipe hkM).new ((Below.refl _ _).drew)
    have HO9 : Hid (Only (fun q => lo ≤ q) W (((((w2.setCell ⟨g, k * 5, none⟩ (.int .i64 0)).setCell ⟨g, k * 5 + 1, none⟩ (.int .i64 0)).setCell ⟨g, k * 5 + 2, none⟩ (.int .i64 0)).setCell ⟨g, k * 5 + 3, none⟩ (.int .i64 0)).setCell ⟨g, k * 5 + 4, none⟩ (.slice none 0 0)).drew) := (HON.out.trans ((wipe_only w2 g k).mono fun q _ e => by omega)).trans (Only.of_new ((Below.refl _ _).drew))
    clear HMU HON
    generalize M'[k] = xk at *
    go_upto_region 4 with fail
    go_region
    all_goals
      clear d0 d1 d2 d3 d4 f0 f1 f2 f3 f4 s0 s1
      generalize (((((w2.setCell ⟨g, k * 5, none⟩ (.int .i64 0)).setCell ⟨g, k * 5 + 1, none⟩ (.int .i64 0)).setCell ⟨g, k * 5 + 2, none⟩ (.int .i64 0)).setCell ⟨g, k * 5 + 3, none⟩ (.int .i64 0)).setCell ⟨g, k * 5 + 4, none⟩ (.slice none 0 0)).drew = W9 at *
      go_wp2
      go_ret
      exact ⟨by rw [HOK.out]; rfl, fun _ => by rw [HDD.out]; exact HW.out.own (F := ⟨F.ns.set k zeroN, heldDs F (k : Int) ⟨#[]⟩⟩) HMM.out rfl, HO9.out⟩
  · have HU1 : Hid (usB F i = false) := usB_no hu
    rw [HU1.out] at HUS2
    have HOK : Hid (dpOk F i = false) := dpOk_no fun h => hu h.1
    clear hu hv ho hsm HCE
    go_enter Try.func58, Try.ntmps58
    go_wp2_with fail
    refine HUS2.out.mono ?_
    rintro e w1 ⟨rfl, hb1⟩
    have HON : Hid (Only (fun q => lo ≤ q) W w1) := HOB.out w1 hb1
    clear HUS2 HOB hb1
    go_wp2
    go_ret
    exact ⟨by rw [HOK.out]; rfl, fun h => absurd (HOK.out.symm.trans h) (by decide), HON.out⟩

end Go.Proofs.Ytbameedfnicnhaa
