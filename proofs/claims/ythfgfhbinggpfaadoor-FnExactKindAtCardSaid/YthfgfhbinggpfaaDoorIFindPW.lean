/-
  Own text: where a path leads, what is there, and what is hidden, by the program.
-/
import Derived.Test.YthfgfhbinggpfaaDoorIWalkFW
import Derived.Test.YthfgfhbinggpfaaDoorIFsOkW
import Derived.Test.YthfgfhbinggpfaaDoorSWalkW
import Derived.Test.YthfgfhbinggpfaaDoorIFindW
namespace Go.Proofs.YthfgfhbinggpfaaDoor
open Go.RowKit

theorem nmT_root {t : ByteArray} (h : bt t = [47]) : nmT t = [] := by rw [← txs_nmT, h, nms_root]; rfl

set_option maxRecDepth 20000 in
set_option maxHeartbeats 4000000 in
theorem implFindPath (P : Nat) (aE : Addr) (a b : Option Addr) (ca cb : Nat) (F : FsD) (t : ByteArray) (w : World) (hf : FsOkP F) (ht : ptOk (bt t) = true) (hP : P < w.heap.size) (he : ErrAt aE w) (hp0 : w.cell? ⟨P, 0, none⟩ = some (.slice a F.ns.length ca)) (hp1 : w.cell? ⟨P, 1, none⟩ = some (.slice b F.ds.length cb)) (r1 : RdNs w a F.ns) (r2 : RdS w b F.ds) :
    Calls Tryd.prog 34 #[.pointer (some ⟨P, 0, none⟩), .string t] w fun e w' => e = .returned (.int .i64 (wlk F 0 (nmT t))) ∧ Below w.heap.size w w' := by
  by_cases hr : bt t = [47]
  · have HR : Hid (wlk F 0 (nmT t) = 0) := by show _ = _; rw [nmT_root hr]; rfl
    have hls := lit_same hr
    clear hp0 hp1 r1 r2 hf ht hr
    go_enter Tryd.func34, Tryd.ntmps34
    go_wp2
    go_ret
    exact ⟨by rw [HR.out]; rfl, Below.refl _ _⟩
  · have hlo := lit_other hr
    have hmf : ∀ (fn : Fn) (first cap : Array Value) (w : World), (Instr.makeFunc fn first cap).run Tryd.prog w = .ok (.func fn first cap) w := fun _ _ _ _ => rfl
    obtain ⟨f, bb, hwk⟩ := find_res hf ht hr
    rw [txs_nmT] at hwk
    have hb1 := below1 w (.cells #[.string t, .int .i64 (-1)] 90)
    have hV1 := Var.made w #[.string t, .int .i64 (-1)] 90
    have hz1 : (w.alloc (.cells #[.string t, .int .i64 (-1)] 90)).heap.size = w.heap.size + 1 := by simp
    have hfr : ∀ W, Only (fun q => (w.alloc (.cells #[.string t, .int .i64 (-1)] 90)).heap.size ≤ q ∨ q = w.heap.size) (w.alloc (.cells #[.string t, .int .i64 (-1)] 90)) W → W.cell? ⟨P, 0, none⟩ = some (.slice a F.ns.length ca) ∧ W.cell? ⟨P, 1, none⟩ = some (.slice b F.ds.length cb) ∧ RdNs W a F.ns ∧ RdS W b F.ds ∧ ErrAt aE W := fun W hO => by
      have hB : Below w.heap.size w W := hb1.trans (hO.below (by omega) (fun q h => by omega))
      exact ⟨(hB.cell (by exact hP)).trans hp0, (hB.cell (by exact hP)).trans hp1, r1.below hB (Nat.le_refl _), r2.below hB (Nat.le_refl _), he.below hB⟩
    have h := implWalkF (seeW t) (fun st W => Var W w.heap.size #[.string t, .int .i64 st] 90) w.heap.size P aE a b ca cb F (w.alloc (.cells #[.string t, .int .i64 (-1)] 90)) hf.1 (by omega) (by omega) hfr
      (fun st W W' _ hO' hI => hI.only hO' (fun h => by omega))
      (fun st p W _ hI => searchSee w.heap.size t st p W hI)
      f (-1) (wlk F 0 (nmT t), bb) hV1 hwk
    have HW : Hid (Calls Tryd.prog 25 #[.pointer (some ⟨P, 0, none⟩), .func (.func 59) #[.pointer (some ⟨w.heap.size, 0, none⟩)] #[]] (w.alloc (.cells #[.string t, .int .i64 (-1)] 90)) fun e w' => e = .returned (.bool bb) ∧ Var w' w.heap.size #[.string t, .int .i64 (wlk F 0 (nmT t))] 90 ∧ Below w.heap.size w w') := by
      refine h.mono ?_
      rintro e w' ⟨rfl, h1, h2⟩
      exact ⟨rfl, h1, hb1.trans (h2.below (by omega) (fun q h => by omega))⟩
    clear h hfr hV1 hb1 hz1 hwk hp0 hp1 r1 r2 hf ht hr he
    generalize wlk F 0 (nmT t) = R at *
    go_enter Tryd.func34, Tryd.ntmps34
    go_wp2_with fail
    refine HW.out.mono ?_
    rintro e w2 ⟨rfl, hV2, hB2⟩
    have v1 := (hV2.cell 1).trans rfl
    clear HW hV2
    go_wp2
    go_ret
    exact ⟨rfl, hB2⟩

set_option maxRecDepth 20000 in
set_option maxHeartbeats 4000000 in
theorem implPWalk (v : Value) (aE : Addr) (F : FsD) (s : ByteArray) (w : World) (hsm : SmF F) (hs : s.size ≤ 1048576) (he : ErrAt aE w) (hr : RdFs w v F) :
    Calls Tryd.prog 13 #[v, .string s] w fun e w' => e = .returned (.int .i64 (wkAt F s)) ∧ Below w.heap.size w w' := by
  have hr' := hr
  obtain ⟨a, ca, b, cb, rfl, _, _, _⟩ := hr
  have HB : Hid (BoxF w (w.alloc (.cells #[.slice a F.ns.length ca, .slice b F.ds.length cb] 30)) a b ca cb F) := BoxF.made hr'
  have HPT : Hid (∀ W, Calls Tryd.prog 33 #[.string s] W fun e w' => e = .returned (.bool (ptOk (bt s))) ∧ Below W.heap.size W w') := fun W => implPath s W (by omega)
  have HFO : Hid (∀ W, BoxF w W a b ca cb F → Calls Tryd.prog 10 #[.agg #[.slice a F.ns.length ca, .slice b F.ds.length cb]] W fun e w' => e = .returned (.bool (foB F)) ∧ Below W.heap.size W w') := fun W h => implFsOk _ aE F W hsm (he.below h.bel) h.rd
  have HFI : Hid (∀ W, FsOkP F → ptOk (bt s) = true → BoxF w W a b ca cb F → Calls Tryd.prog 34 #[.pointer (some ⟨w.heap.size, 0, none⟩), .string s] W fun e w' => e = .returned (.int .i64 (wlk F 0 (nmT s))) ∧ Below W.heap.size W w') := fun W h1 h2 h3 => implFindPath w.heap.size aE a b ca cb F s W h1 h2 (by have := h3.lt; omega) (he.below h3.bel) h3.c0 h3.c1 h3.ns.1 h3.ns.2
  clear hr' he
  go_enter Tryd.func13, Tryd.ntmps13
  go_wp2_with fail
  refine (HPT.out _).mono ?_
  rintro e w1 ⟨rfl, hb1⟩
  have HB1 : Hid (BoxF w w1 a b ca cb F) := HB.out.new hb1
  clear HPT HB hb1
  cases hp : ptOk (bt s) with
  | false =>
    have HR : Hid (wkAt F s = -1) := wkAt_no fun h => by rw [hp] at h; cases h.2
    have hB1 := HB1.out.bel
    clear hp HB1 HFO HFI
    go_wp2
    go_ret
    exact ⟨by rw [HR.out]; rfl, hB1⟩
  | true =>
    have HFC := HFO.out w1 HB1.out
    have HFC2 : Hid (Calls Tryd.prog 10 #[.agg #[.slice a F.ns.length ca, .slice b F.ds.length cb]] w1 fun e w' => e = .returned (.bool (foB F)) ∧ Below w1.heap.size w1 w') := HFC
    have y0 := HB1.out.c0
    have y1 := HB1.out.c1
    have HPT : Hid (ptOk (bt s) = true) := hp
    clear HFO HFC hp
    go_wp2_with fail
    refine HFC2.out.mono ?_
    rintro e w2 ⟨rfl, hb2⟩
    have HB2 : Hid (BoxF w w2 a b ca cb F) := HB1.out.new hb2
    have hB2 := HB2.out.bel
    clear HFC2 HB1 y0 y1 hb2
    cases hfo : foB F with
    | false =>
      have HR : Hid (wkAt F s = -1) := wkAt_no fun h => by rw [hfo] at h; cases h.1
      clear hfo HB2 HFI HPT
      go_wp2
      go_ret
      exact ⟨by rw [HR.out]; rfl, hB2⟩
    | true =>
      have HR : Hid (wkAt F s = wlk F 0 (nmT s)) := wkAt_yes hfo HPT.out
      have HFP := HFI.out w2 (foB_is hfo) HPT.out HB2.out
      have HFP2 : Hid (Calls Tryd.prog 34 #[.pointer (some ⟨w.heap.size, 0, none⟩), .string s] w2 fun e w' => e = .returned (.int .i64 (wlk F 0 (nmT s))) ∧ Below w2.heap.size w2 w') := HFP
      clear hfo HB2 HFI HPT HFP
      go_wp2_with fail
      refine HFP2.out.mono ?_
      rintro e w3 ⟨rfl, hb3⟩
      have hB3 := hB2.trans (hb3.mono hB2.size)
      go_wp2
      go_ret
      exact ⟨by rw [HR.out]; rfl, hB3⟩

set_option maxRecDepth 20000 in
set_option maxHeartbeats 4000000 in
theorem implKindAt (v : Value) (aE : Addr) (F : FsD) (s : ByteArray) (w : World) (hsm : SmF F) (hs : s.size ≤ 1048576) (he : ErrAt aE w) (hr : RdFs w v F) :
    Calls Tryd.prog 15 #[v, .string s] w fun e w' => e = .returned (.int .i64 (kdAt F s)) ∧ Below w.heap.size w w' := by
  have hr' := hr
  obtain ⟨a, ca, b, cb, rfl, _, _, _⟩ := hr
  have HB : Hid (BoxF w (w.alloc (.cells #[.slice a F.ns.length ca, .slice b F.ds.length cb] 30)) a b ca cb F) := BoxF.made hr'
  have HWC : Hid (Calls Tryd.prog 13 #[.agg #[.slice a F.ns.length ca, .slice b F.ds.length cb], .string s] (w.alloc (.cells #[.slice a F.ns.length ca, .slice b F.ds.length cb] 30)) fun e w' => e = .returned (.int .i64 (wkAt F s)) ∧ Below (w.alloc (.cells #[.slice a F.ns.length ca, .slice b F.ds.length cb] 30)).heap.size (w.alloc (.cells #[.slice a F.ns.length ca, .slice b F.ds.length cb] 30)) w') := implPWalk _ aE F s _ hsm hs (he.below (below1 w _)) HB.out.rd
  have HU : Hid (0 ≤ wkAt F s → UsP F (wkAt F s)) := wkAt_used
  have HG : Hid (wkAt F s < 0 → wkAt F s = -1) := wkAt_neg
  have HK : Hid (kdAt F s = kdOf F (wkAt F s)) := rfl
  have y0 := HB.out.c0
  have y1 := HB.out.c1
  clear hr'
  generalize wkAt F s = i at *
  go_enter Tryd.func15, Tryd.ntmps15
  go_wp2_with fail
  refine HWC.out.mono ?_
  rintro e w1 ⟨rfl, hb1⟩
  have HB1 : Hid (BoxF w w1 a b ca cb F) := HB.out.new hb1
  have hB1 := HB1.out.bel
  clear HWC HB y0 y1 hb1
  by_cases hi : i < 0
  · have hi1 := HG.out hi
    have HR : Hid (kdAt F s = 0) := by show _ = _; rw [HK.out]; unfold kdOf; rw [if_pos hi]
    subst hi1
    clear HK HG HU HB1 hi
    go_wp2
    go_ret
    exact ⟨by rw [HR.out]; rfl, hB1⟩
  · have HR : Hid (kdAt F s = (ndAt F i).k) := by show _ = _; rw [HK.out]; unfold kdOf; rw [if_neg hi]
    have hu := HU.out (by omega)
    obtain ⟨m, rfl⟩ := natOf hu.2.1
    have hmn : m < F.ns.length := by have := hu.2.2.1; simpa using this
    have y0 := HB1.out.c0
    have hm1 : ¬ ((m : Int) = -1) := by omega
    have hm2 : ¬ ((m : Int) < 0) := by omega
    obtain ⟨g, off, u, rfl, _, _, c0, _, _, _, _⟩ := HB1.out.ns.1.at m hmn
    have hmI : (m : Int) < (F.ns.length : Int) := by omega
    rw [ndAt_nat hmn] at HR
    clear HK HG HU HB1 hi hu
    generalize F.ns[m].k = kk at *
    go_wp2
    go_ret
    exact ⟨by rw [HR.out]; rfl, hB1⟩


theorem hdA_find {F : FsD} (h : FsOkP F) : dirO F 0 = true ∧ entO F 0 = true ∧ enFind (dirE F 0) (tx [126]) = hdA F := by
  obtain ⟨n, hn0, hk⟩ := h.1.2.1
  have hk0 : (ndAt F ((0 : Nat) : Int)).k = 2 := by unfold ndAt; simp [hn0, hk]
  have hd : dirO F 0 = true := by
    rcases h.2.1 with h1 | h1
    · exact absurd hk0 h1
    · exact h1.1
  have hnn : ∀ s, enFind (dirE F 0) s < 0 → enFind (dirE F 0) s = -1 := fun s hs => by
    unfold enFind at hs ⊢
    split at hs
    · rename_i hh
      have := dirE_nodes _ (List.getElem_mem hh)
      omega
    · rename_i hh; rw [dif_neg hh]
  refine ⟨hd, by unfold entO; rw [if_pos hk0]; exact hd, ?_⟩
  unfold hdA
  rw [if_pos (foB_yes h)]
  simp only [wlk]
  rw [show (0 : Int).toNat = 0 from rfl, if_pos hd]
  split
  · rename_i hh; exact hnn _ hh
  · rfl

set_option maxRecDepth 20000 in
set_option maxHeartbeats 4000000 in
theorem implHiddenOf (v : Value) (aE : Addr) (F : FsD) (w : World) (hsm : SmF F) (he : ErrAt aE w) (hr : RdFs w v F) :
    Calls Tryd.prog 17 #[v] w fun e w' => e = .returned (.tuple #[.string (hdT F), .bool (hdB F)]) ∧ Below w.heap.size w w' := by
  have hr' := hr
  obtain ⟨a, ca, b, cb, rfl, _, _, _⟩ := hr
  have HB : Hid (BoxF w (w.alloc (.cells #[.slice a F.ns.length ca, .slice b F.ds.length cb] 30)) a b ca cb F) := BoxF.made hr'
  have HFO : Hid (Calls Tryd.prog 10 #[.agg #[.slice a F.ns.length ca, .slice b F.ds.length cb]] (w.alloc (.cells #[.slice a F.ns.length ca, .slice b F.ds.length cb] 30)) fun e w' => e = .returned (.bool (foB F)) ∧ Below (w.alloc (.cells #[.slice a F.ns.length ca, .slice b F.ds.length cb] 30)).heap.size (w.alloc (.cells #[.slice a F.ns.length ca, .slice b F.ds.length cb] 30)) w') := implFsOk _ aE F _ hsm (he.below HB.out.bel) HB.out.rd
  have y0 := HB.out.c0
  have y1 := HB.out.c1
  clear hr'
  cases hfo : foB F with
  | false =>
    have hA : hdA F = -1 := by unfold hdA; rw [if_neg (by rw [hfo]; decide)]
    have HR : Hid (hdB F = false ∧ hdT F = ⟨#[]⟩) := hd_no (by rw [hA]; decide)
    rw [hfo] at HFO
    clear hfo hA he
    go_enter Tryd.func17, Tryd.ntmps17
    go_wp2_with fail
    refine HFO.out.mono ?_
    rintro e w1 ⟨rfl, hb1⟩
    have hB1 := (HB.out.new hb1).bel
    clear HFO
    go_wp2
    go_ret2
    exact ⟨by rw [HR.out.1, HR.out.2]; rfl, hB1⟩
  | true =>
    have hfp := foB_is hfo
    obtain ⟨hd0, he0, hfi⟩ := hdA_find hfp
    rw [hfo] at HFO
    have HEN : Hid (∀ W, BoxF w W a b ca cb F → Calls Tryd.prog 36 #[.pointer (some ⟨w.heap.size, 0, none⟩), .int .i64 0] W fun e w' => ∃ x c, e = .returned (.tuple #[.slice x (dirE F 0).length c, .bool true]) ∧ RdF encN 2 w' x (dirE F 0) ∧ Below W.heap.size W w') := fun W h => by
      have hc := implEntries w.heap.size aE a b ca cb F 0 W hfp.1 (by have := hfp.1.1.1; omega) (he.below h.bel) (by have := h.lt; omega) h.c0 h.c1 h.ns.1 h.ns.2
      rw [he0] at hc
      refine hc.mono ?_
      rintro e w' ⟨u, rfl, h1, h2⟩
      obtain ⟨x, c, rfl, h3⟩ := own_srcE h1
      exact ⟨x, c, rfl, h3, h2⟩
    have HDF : Hid (∀ W x c, RdF encN 2 W x (dirE F 0) → Calls Tryd.prog 37 #[.slice x (dirE F 0).length c, .string ⟨#[126]⟩] W fun e w' => e = .returned (.int .i64 (hdA F)) ∧ Below W.heap.size W w') := fun W x c h => by
      rw [← hfi]
      exact implDirFind x c (dirE F 0) (tx [126]) W (Nat.le_trans dirE_len (by decide)) h
    have HHE : Hid (∀ W (m : Nat), UsP F (m : Int) → BoxF w W a b ca cb F → Calls Tryd.prog 38 #[.pointer (some ⟨w.heap.size, 0, none⟩), .int .i64 (m : Nat)] W fun e w' => e = .returned (.string (catD F.ds (ndAt F (m : Int)).b)) ∧ Below W.heap.size W w') := fun W m hu h => implHeld w.heap.size a b ca cb F m W hu (by have := h.lt; omega) h.c0 h.c1 h.ns.1 h.ns.2
    have HNO : Hid (hdA F < 0 → hdB F = false ∧ hdT F = ⟨#[]⟩) := hd_no
    have HNG : Hid (hdA F < 0 → hdA F = -1) := hdA_neg
    have HYE : Hid (0 ≤ hdA F → hdB F = true ∧ hdT F = catD F.ds (ndAt F (hdA F)).b) := hd_yes
    have HU : Hid (0 ≤ hdA F → UsP F (hdA F)) := hdA_used
    clear hfo hfp hd0 he0 hfi he
    generalize hdA F = i at *
    generalize dirE F 0 = es at *
    go_enter Tryd.func17, Tryd.ntmps17
    go_wp2_with fail
    refine HFO.out.mono ?_
    rintro e w1 ⟨rfl, hb1⟩
    have HB1 : Hid (BoxF w w1 a b ca cb F) := HB.out.new hb1
    clear HFO HB y0 y1 hb1
    go_wp2_with fail
    refine (HEN.out w1 HB1.out).mono ?_
    rintro e w2 ⟨x, c, rfl, hrx, hb2⟩
    have HB2 : Hid (BoxF w w2 a b ca cb F) := HB1.out.new hb2
    have HRX : Hid (RdF encN 2 w2 x es) := hrx
    clear HEN HB1 hb2 hrx
    go_wp2_with fail
    refine (HDF.out w2 x c HRX.out).mono ?_
    rintro e w3 ⟨rfl, hb3⟩
    have HB3 : Hid (BoxF w w3 a b ca cb F) := HB2.out.new hb3
    have hB3 := HB3.out.bel
    clear HDF HRX HB2 hb3
    by_cases hi : i < 0
    · have HR : Hid (hdB F = false ∧ hdT F = ⟨#[]⟩) := HNO.out hi
      have hi1 := HNG.out hi
      subst hi1
      clear HNO HYE HU HB3 HHE HNG hi
      go_wp2
      go_ret2
      exact ⟨by rw [HR.out.1, HR.out.2]; rfl, hB3⟩
    · have HR : Hid (hdB F = true ∧ hdT F = catD F.ds (ndAt F i).b) := HYE.out (by omega)
      have hu := HU.out (by omega)
      obtain ⟨m, rfl⟩ := natOf hu.2.1
      have hm2 : ¬ ((m : Int) = -1) := by omega
      have HRD := HHE.out w3 m hu HB3.out
      have HRD2 : Hid (Calls Tryd.prog 38 #[.pointer (some ⟨w.heap.size, 0, none⟩), .int .i64 (m : Nat)] w3 fun e w' => e = .returned (.string (catD F.ds (ndAt F (m : Int)).b)) ∧ Below w3.heap.size w3 w') := HRD
      clear HNO HYE HU HB3 hu hi HHE HRD HNG
      go_wp2_with fail
      refine HRD2.out.mono ?_
      rintro e w4 ⟨rfl, hb4⟩
      have hB4 := hB3.trans (hb4.mono hB3.size)
      go_wp2
      go_ret2
      exact ⟨by rw [HR.out.1, HR.out.2]; rfl, hB4⟩
end Go.Proofs.YthfgfhbinggpfaaDoor
