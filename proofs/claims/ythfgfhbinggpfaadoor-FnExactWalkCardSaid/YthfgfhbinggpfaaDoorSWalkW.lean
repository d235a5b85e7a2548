/-
  Own text: where a path leads, what is there, and what is hidden, by the other program.
-/
import Derived.Test.YthfgfhbinggpfaaDoorBunZJ
import Derived.Test.YthfgfhbinggpfaaDoorSFsOkW
namespace Go.Proofs.YthfgfhbinggpfaaDoor
open Go.RowKit

theorem own_srcE {w : World} {lo hi : Nat} {u : Value} {l : List EntD} (h : OwnEn w lo hi u l) : ∃ a c, u = .slice a l.length c ∧ RdF encN 2 w a l := by
  obtain ⟨x, c, he, _, hr⟩ := own_rdF encN_len h.1 rfl
  exact ⟨x, c, he, hr⟩
/-- Where the walk stands: at a node of the branch, all below it right. -/
def At9 (F : FsD) (i : Int) : Prop := 0 ≤ i ∧ i.toNat < F.ns.length ∧ ∃ d, okD F d i.toNat
theorem At9.root {F : FsD} (h : FsOkP F) : At9 F 0 := ⟨by omega, by have := h.1.1.1; simp; omega, 5, h.2.1⟩
theorem At9.next {F : FsD} {i : Int} {n : ByteArray} (h : At9 F i) (hd : dirO F i.toNat = true) (hf : ¬ enFind (dirE F i.toNat) n < 0) : At9 F (enFind (dirE F i.toNat) n) := by
  obtain ⟨h0, h1, d, hk⟩ := h
  obtain ⟨e, he, _, f2⟩ := dirE_found hf
  cases d with
  | zero => exact hk.elim
  | succ d =>
    rcases hk with h | h
    · exact absurd (dirO_kind hd) h
    · have hE := h.2 e he
      have hn := dirE_nodes e he
      rw [← f2]
      exact ⟨by omega, by have := hE.1.1; omega, d, hE.2⟩

set_option maxRecDepth 20000 in
set_option maxHeartbeats 4000000 in
theorem specL9Walk (v : Value) (F : FsD) (ns : List ByteArray) (x : Option Addr) (cap : Nat) (w : World) (hf : FsOkP F) (hns : ns.length ≤ 8) (hr : RdFs w v F) (hrs : RdS w x ns) :
    Calls Tryd.prog 31 #[v, .slice x ns.length cap] w fun e w' => e = .returned (.int .i64 (wlk F 0 ns)) ∧ Below w.heap.size w w' := by
  obtain ⟨a, ca, b, cb, rfl, hq, r1, r2⟩ := hr
  have HRF : Hid (∀ W, Below w.heap.size w W → RdFs W (.agg #[.slice a F.ns.length ca, .slice b F.ds.length cb]) F) := fun W h => RdFs.below ⟨a, ca, b, cb, rfl, hq, r1, r2⟩ h (Nat.le_refl _)
  have hV := Var.made w #[.slice a F.ns.length ca, .slice b F.ds.length cb] 30
  have HV : Hid (∀ W, Below (w.heap.size + 1) (w.alloc (.cells #[.slice a F.ns.length ca, .slice b F.ds.length cb] 30)) W → W.cell? ⟨w.heap.size, 0, none⟩ = some (.slice a F.ns.length ca) ∧ W.cell? ⟨w.heap.size, 1, none⟩ = some (.slice b F.ds.length cb) ∧ Below w.heap.size w W ∧ w.heap.size + 1 ≤ W.heap.size) := fun W h => ⟨by have := (hV.below h (by omega)).cell 0; simpa using this, by have := (hV.below h (by omega)).cell 1; simpa using this, (below1 w _).trans (h.mono (by omega)), by have := h.size; simp at this; omega⟩
  have HRS : Hid (∀ W, Below w.heap.size w W → RdS W x ns) := fun W h => hrs.below h (Nat.le_refl _)
  have HL : Hid (∀ W (k : Nat), Below w.heap.size w W → k < F.ns.length → Calls Tryd.prog 44 #[.agg #[.slice a F.ns.length ca, .slice b F.ds.length cb], .int .i64 (k : Nat)] W fun e w' => ∃ u, e = .returned (.tuple #[u, .bool (dirO F k)]) ∧ OwnEn w' W.heap.size w'.heap.size u (dirE F k) ∧ Below W.heap.size W w') := fun W k h hk => specDir9 _ F k W hf.1 hk (HRF.out W h)
  have HA0 : Hid (At9 F 0) := At9.root hf
  clear hV r1 r2 hq hrs hf HRF
  go_enter Tryd.func31, Tryd.ntmps31
  go_wp2
  go_loopw [5, 6] (fun vi vk wr => ∃ (i : Int) (k : Nat), vi = .int .i64 i ∧ vk = .int .i64 k ∧ k ≤ ns.length ∧ Hid (At9 F i ∧ wlk F 0 ns = wlk F i (ns.drop k)) ∧ Below (w.heap.size + 1) (w.alloc (.cells #[.slice a F.ns.length ca, .slice b F.ds.length cb] 30)) wr) (fun _ vk _ => ns.length - (intOf vk).toNat)
  case atStart => exact ⟨0, 0, rfl, rfl, Nat.zero_le _, ⟨HA0.out, rfl⟩, Below.refl _ _⟩
  case round =>
    obtain ⟨i, k, rfl, rfl, hk, HI, hB⟩ := hrel
    obtain ⟨y0, y1, hBw, hzw⟩ := HV.out wr hB
    by_cases hlt : k < ns.length
    · obtain ⟨m, rfl⟩ := natOf HI.out.1.1
      have hmn : m < F.ns.length := by have := HI.out.1.2.1; simpa using this
      have HLC := HL.out wr m hBw hmn
      have HLC2 : Hid (Calls Tryd.prog 44 #[.agg #[.slice a F.ns.length ca, .slice b F.ds.length cb], .int .i64 (m : Nat)] wr fun e w' => ∃ u, e = .returned (.tuple #[u, .bool (dirO F m)]) ∧ OwnEn w' wr.heap.size w'.heap.size u (dirE F m) ∧ Below wr.heap.size wr w') := HLC
      have hltI : (k : Int) < (ns.length : Int) := by omega
      have HWK : Hid (wlk F 0 ns = if dirO F m = true then (if enFind (dirE F m) ns[k] < 0 then -1 else wlk F (enFind (dirE F m) ns[k]) (ns.drop (k + 1))) else -1) := by
        show _ = _
        rw [HI.out.2, List.drop_eq_getElem_cons hlt]
        rfl
      have HNX : Hid (dirO F m = true → 0 ≤ enFind (dirE F m) ns[k] → At9 F (enFind (dirE F m) ns[k])) := fun h1 h2 => by
        have h := HI.out.1.next (n := ns[k]) (by simpa using h1) (by have h3 : 0 ≤ enFind (dirE F ((m : Int)).toNat) ns[k] := by simpa using h2
                                                                     omega)
        simpa using h
      have HDL : Hid ((dirE F m).length ≤ 80) := dirE_len
      clear HLC HI hmn
      go_wp2_with fail
      refine HLC2.out.mono ?_
      rintro e w2 ⟨u, rfl, hu, hb2⟩
      obtain ⟨ae, ce, rfl, hre⟩ := own_srcE hu
      have hB2 := hB.trans (hb2.mono (by omega))
      obtain ⟨z0, z1, hBw2, hzw2⟩ := HV.out w2 hB2
      clear hu hb2 HLC2
      cases hd : dirO F m with
      | false =>
        have HR : Hid (wlk F 0 ns = -1) := by show _ = _; rw [HWK.out, hd]; rfl
        clear HWK HNX hre hd
        go_wp2
        go_ret
        exact ⟨by rw [HR.out]; rfl, hBw2⟩
      | true =>
        rw [hd] at HWK HNX
        have HWK2 : Hid (wlk F 0 ns = if enFind (dirE F m) ns[k] < 0 then -1 else wlk F (enFind (dirE F m) ns[k]) (ns.drop (k + 1))) := by show _ = _; rw [HWK.out, if_pos rfl]
        have HNX2 : Hid (0 ≤ enFind (dirE F m) ns[k] → At9 F (enFind (dirE F m) ns[k])) := HNX.out rfl
        obtain ⟨gs, os, rfl, _, hcs⟩ := (HRS.out w2 hBw2).cellT k hlt
        have HFI : Hid (Calls Tryd.prog 56 #[.slice ae (dirE F m).length ce, .string ns[k]] w2 fun e w' => e = .returned (.int .i64 (enFind (dirE F m) ns[k])) ∧ w' = w2) := specDirFind ae ce (dirE F m) ns[k] w2 (by have := HDL.out; omega) hre
        clear HWK HNX hre hd HDL
        generalize enFind (dirE F m) ns[k] = j at *
        generalize dirE F m = es at *
        generalize ns[k] = nk at *
        go_wp2_with fail
        refine HFI.out.mono ?_
        rintro e w3 ⟨rfl, hw3⟩
        subst hw3
        clear HFI hcs
        by_cases hj : j < 0
        · have HR : Hid (wlk F 0 ns = -1) := by show _ = _; rw [HWK2.out, if_pos hj]
          clear HWK2 HNX2
          go_wp2
          go_ret
          exact ⟨by rw [HR.out]; rfl, hBw2⟩
        · have HI2 : Hid (At9 F j ∧ wlk F 0 ns = wlk F j (ns.drop (k + 1))) := ⟨HNX2.out (by omega), by rw [HWK2.out, if_neg hj]⟩
          clear HWK2 HNX2
          go_wp2
          go_roundw
          case rel => exact ⟨j, k + 1, rfl, by go_num, by omega, HI2, hB2⟩
          case measure => simp [intOf]; omega
    · have hke : k = ns.length := by omega
      subst hke
      have HR : Hid (wlk F 0 ns = i) := by show _ = _; rw [HI.out.2, List.drop_length]; rfl
      clear HI HL HRS
      go_wp2
      go_ret
      exact ⟨by rw [HR.out]; rfl, hBw⟩

theorem txs_nmT (s : ByteArray) : txs (nms (bt s)) = nmT s := by
  rw [← nmT_bt]
  unfold txs
  rw [List.map_map]
  have : (tx ∘ bt) = id := funext tx_bt
  rw [this, List.map_id]
theorem wkAt_yes {F : FsD} {s : ByteArray} (h1 : foB F = true) (h2 : ptOk (bt s) = true) : wkAt F s = wlk F 0 (nmT s) := by unfold wkAt; rw [if_pos ⟨h1, h2⟩, txs_nmT]
theorem wkAt_no {F : FsD} {s : ByteArray} (h : ¬ (foB F = true ∧ ptOk (bt s) = true)) : wkAt F s = -1 := by unfold wkAt; rw [if_neg h]
theorem foB_is {F : FsD} (h : foB F = true) : FsOkP F := by unfold foB at h; exact @of_decide_eq_true _ (Classical.propDecidable _) h
theorem wkAt_used {F : FsD} {s : ByteArray} (h : 0 ≤ wkAt F s) : UsP F (wkAt F s) := by
  by_cases hc : foB F = true ∧ ptOk (bt s) = true
  · unfold wkAt at h ⊢
    rw [if_pos hc] at h ⊢
    exact walk_used (foB_is hc.1) _ h
  · rw [wkAt_no hc] at h; omega
theorem wkAt_neg {F : FsD} {s : ByteArray} (h : wkAt F s < 0) : wkAt F s = -1 := by
  by_cases hc : foB F = true ∧ ptOk (bt s) = true
  · unfold wkAt at h ⊢
    rw [if_pos hc] at h ⊢
    exact wlk_neg (by omega) h
  · exact wkAt_no hc
def kdOf (F : FsD) (i : Int) : Int := if i < 0 then 0 else (ndAt F i).k
noncomputable def kdAt (F : FsD) (s : ByteArray) : Int := kdOf F (wkAt F s)
noncomputable def hdA (F : FsD) : Int := if foB F = true then wlk F 0 [tx [126]] else -1
noncomputable def hdB (F : FsD) : Bool := decide (0 ≤ hdA F)
noncomputable def hdT (F : FsD) : ByteArray := if 0 ≤ hdA F then catD F.ds (ndAt F (hdA F)).b else ⟨#[]⟩

/-- The branch in its variable: what is known in each later world. -/
structure BoxF (w W : World) (a b : Option Addr) (ca cb : Nat) (F : FsD) : Prop where
  c0 : W.cell? ⟨w.heap.size, 0, none⟩ = some (.slice a F.ns.length ca)
  c1 : W.cell? ⟨w.heap.size, 1, none⟩ = some (.slice b F.ds.length cb)
  bel : Below w.heap.size w W
  lt : w.heap.size + 1 ≤ W.heap.size
  rd : RdFs W (.agg #[.slice a F.ns.length ca, .slice b F.ds.length cb]) F
theorem BoxF.new {w W W' : World} {a b : Option Addr} {ca cb : Nat} {F : FsD} (h : BoxF w W a b ca cb F) (hb : Below W.heap.size W W') : BoxF w W' a b ca cb F :=
  ⟨(hb.cell (by exact h.lt)).trans h.c0, (hb.cell (by exact h.lt)).trans h.c1, h.bel.trans (hb.mono h.bel.size), Nat.le_trans h.lt hb.size, h.rd.below hb (Nat.le_refl _)⟩
theorem BoxF.made {w : World} {a b : Option Addr} {ca cb : Nat} {F : FsD} (h : RdFs w (.agg #[.slice a F.ns.length ca, .slice b F.ds.length cb]) F) : BoxF w (w.alloc (.cells #[.slice a F.ns.length ca, .slice b F.ds.length cb] 30)) a b ca cb F := by
  have hV := Var.made w #[.slice a F.ns.length ca, .slice b F.ds.length cb] 30
  exact ⟨(hV.cell 0).trans rfl, (hV.cell 1).trans rfl, below1 w _, by simp, h.below (below1 w _) (Nat.le_refl _)⟩

set_option maxRecDepth 20000 in
set_option maxHeartbeats 4000000 in
theorem specWalk (v : Value) (F : FsD) (s : ByteArray) (w : World) (hsm : SmF F) (hs : s.size ≤ 1048576) (hr : RdFs w v F) :
    Calls Tryd.prog 12 #[v, .string s] w fun e w' => e = .returned (.int .i64 (wkAt F s)) ∧ Below w.heap.size w w' := by
  have hr' := hr
  obtain ⟨a, ca, b, cb, rfl, _, _, _⟩ := hr
  have HB : Hid (BoxF w (w.alloc (.cells #[.slice a F.ns.length ca, .slice b F.ds.length cb] 30)) a b ca cb F) := BoxF.made hr'
  have HFO : Hid (Calls Tryd.prog 8 #[.agg #[.slice a F.ns.length ca, .slice b F.ds.length cb]] (w.alloc (.cells #[.slice a F.ns.length ca, .slice b F.ds.length cb] 30)) fun e w' => e = .returned (.bool (foB F)) ∧ Below (w.alloc (.cells #[.slice a F.ns.length ca, .slice b F.ds.length cb] 30)).heap.size (w.alloc (.cells #[.slice a F.ns.length ca, .slice b F.ds.length cb] 30)) w') := specFsOk _ F _ hsm HB.out.rd
  have y0 := HB.out.c0
  have y1 := HB.out.c1
  clear hr'
  cases hfo : foB F with
  | false =>
    have HR : Hid (wkAt F s = -1) := wkAt_no fun h => by rw [hfo] at h; cases h.1
    rw [hfo] at HFO
    clear hfo
    go_enter Tryd.func12, Tryd.ntmps12
    go_wp2_with fail
    refine HFO.out.mono ?_
    rintro e w1 ⟨rfl, hb1⟩
    have hB1 := (HB.out.new hb1).bel
    clear HFO
    go_wp2
    go_ret
    exact ⟨by rw [HR.out]; rfl, hB1⟩
  | true =>
    rw [hfo] at HFO
    have HFP : Hid (FsOkP F) := foB_is hfo
    have HPT : Hid (∀ W, Calls Tryd.prog 30 #[.string s] W fun e w' => e = .returned (.bool (ptOk (bt s))) ∧ Below W.heap.size W w') := fun W => specPath s W (by omega)
    have HNO : Hid (ptOk (bt s) = false → wkAt F s = -1) := fun h => wkAt_no fun h2 => by rw [h] at h2; cases h2.2
    have HYE : Hid (ptOk (bt s) = true → wkAt F s = wlk F 0 (nmT s)) := fun h => wkAt_yes hfo h
    have HN : Hid (∀ W, Calls Tryd.prog 32 #[.string s] W fun e w' => ∃ x c, e = .returned (.slice x (nmT s).length c) ∧ RdS w' x (nmT s) ∧ Below W.heap.size W w') := fun W => by
      refine (specNames s W (by omega)).mono ?_
      rintro e w' ⟨u, rfl, h1, h2⟩
      obtain ⟨x, c, rfl, _, h3⟩ := own_rdS h1
      exact ⟨x, c, rfl, h3, h2⟩
    have HLW : Hid (∀ W x c, BoxF w W a b ca cb F → RdS W x (nmT s) → Calls Tryd.prog 31 #[.agg #[.slice a F.ns.length ca, .slice b F.ds.length cb], .slice x (nmT s).length c] W fun e w' => e = .returned (.int .i64 (wlk F 0 (nmT s))) ∧ Below W.heap.size W w') := fun W x c h1 h2 => specL9Walk _ F (nmT s) x c W HFP.out (by have := nmT_le s; omega) h1.rd h2
    clear hfo HFP
    go_enter Tryd.func12, Tryd.ntmps12
    go_wp2_with fail
    refine HFO.out.mono ?_
    rintro e w1 ⟨rfl, hb1⟩
    have HB1 : Hid (BoxF w w1 a b ca cb F) := HB.out.new hb1
    clear HFO HB y0 y1 hb1
    go_wp2_with fail
    refine (HPT.out w1).mono ?_
    rintro e w2 ⟨rfl, hb2⟩
    have HB2 : Hid (BoxF w w2 a b ca cb F) := HB1.out.new hb2
    clear HB1 hb2 HPT
    cases hp : ptOk (bt s) with
    | false =>
      have HR : Hid (wkAt F s = -1) := HNO.out hp
      have hB2 := HB2.out.bel
      clear HB2 hp HLW HN HYE HNO
      go_wp2
      go_ret
      exact ⟨by rw [HR.out]; rfl, hB2⟩
    | true =>
      have HR : Hid (wkAt F s = wlk F 0 (nmT s)) := HYE.out hp
      have q0 := HB2.out.c0
      have q1 := HB2.out.c1
      have HB3 : Hid (∀ W, Below w2.heap.size w2 W → BoxF w W a b ca cb F) := fun W h => HB2.out.new h
      clear HB2 hp HNO HYE
      go_wp2
      go_region_held3 (fun W => W.cell? ⟨w.heap.size, 0, none⟩ = some (.slice a F.ns.length ca) ∧ W.cell? ⟨w.heap.size, 1, none⟩ = some (.slice b F.ds.length cb)) (go_keep) (first
        | (go_at_call 32
           refine (HN.out _).mono ?_
           rintro e w4 ⟨x4, c4, rfl, hrs4, hb4⟩
           have hb24 : Below w2.heap.size w2 w4 := ((Below.refl _ _).drew).trans hb4
           have HB4 := HB3.out w4 hb24
           have k0 := HB4.c0
           have k1 := HB4.c1
           skip)
        | (go_at_call 31
           refine (HLW.out _ _ _ HB4 hrs4).mono ?_
           rintro e w5 ⟨rfl, hb5⟩
           have HB5 := HB4.new hb5
           have l0 := HB5.c0
           have l1 := HB5.c1
           skip))
      have hB5 := HB5.bel
      clear HB4 HB5 k0 k1 l0 l1 hrs4 hb24 HB3 HLW HN
      go_wp2
      go_ret
      exact ⟨by rw [HR.out]; rfl, hB5⟩

theorem BoxF.ns {w W : World} {a b : Option Addr} {ca cb : Nat} {F : FsD} (h : BoxF w W a b ca cb F) : RdNs W a F.ns ∧ RdS W b F.ds := by
  obtain ⟨a', ca', b', cb', he, _, r1, r2⟩ := h.rd
  injection he with he
  simp at he
  obtain ⟨⟨rfl, rfl⟩, rfl, rfl⟩ := he
  exact ⟨r1, r2⟩

set_option maxRecDepth 20000 in
set_option maxHeartbeats 4000000 in
theorem specKindAt (v : Value) (F : FsD) (s : ByteArray) (w : World) (hsm : SmF F) (hs : s.size ≤ 1048576) (hr : RdFs w v F) :
    Calls Tryd.prog 14 #[v, .string s] w fun e w' => e = .returned (.int .i64 (kdAt F s)) ∧ Below w.heap.size w w' := by
  have hr' := hr
  obtain ⟨a, ca, b, cb, rfl, _, _, _⟩ := hr
  have HB : Hid (BoxF w (w.alloc (.cells #[.slice a F.ns.length ca, .slice b F.ds.length cb] 30)) a b ca cb F) := BoxF.made hr'
  have HWC : Hid (Calls Tryd.prog 12 #[.agg #[.slice a F.ns.length ca, .slice b F.ds.length cb], .string s] (w.alloc (.cells #[.slice a F.ns.length ca, .slice b F.ds.length cb] 30)) fun e w' => e = .returned (.int .i64 (wkAt F s)) ∧ Below (w.alloc (.cells #[.slice a F.ns.length ca, .slice b F.ds.length cb] 30)).heap.size (w.alloc (.cells #[.slice a F.ns.length ca, .slice b F.ds.length cb] 30)) w') := specWalk _ F s _ hsm hs HB.out.rd
  have HU : Hid (0 ≤ wkAt F s → UsP F (wkAt F s)) := wkAt_used
  have HG : Hid (wkAt F s < 0 → wkAt F s = -1) := wkAt_neg
  have HK : Hid (kdAt F s = kdOf F (wkAt F s)) := rfl
  have y0 := HB.out.c0
  have y1 := HB.out.c1
  clear hr'
  generalize wkAt F s = i at *
  go_enter Tryd.func14, Tryd.ntmps14
  go_wp2_with fail
  refine HWC.out.mono ?_
  rintro e w1 ⟨rfl, hb1⟩
  have HB1 : Hid (BoxF w w1 a b ca cb F) := HB.out.new hb1
  have hB1 := HB1.out.bel
  clear HWC HB y0 y1 hb1
  by_cases hi : i < 0
  · have hi1 := HG.out hi
    have HR : Hid (kdAt F s = 0) := by show _ = _; rw [HK.out]; unfold kdOf; rw [if_pos hi]
    subst hi1
    clear HK HG HU HB1 hi
    go_wp2
    go_ret
    exact ⟨by rw [HR.out]; rfl, hB1⟩
  · have HR : Hid (kdAt F s = (ndAt F i).k) := by show _ = _; rw [HK.out]; unfold kdOf; rw [if_neg hi]
    have hu := HU.out (by omega)
    obtain ⟨m, rfl⟩ := natOf hu.2.1
    have hmn : m < F.ns.length := by have := hu.2.2.1; simpa using this
    have y0 := HB1.out.c0
    have hm1 : ¬ ((m : Int) = -1) := by omega
    have hm2 : ¬ ((m : Int) < 0) := by omega
    obtain ⟨g, off, u, rfl, _, _, c0, _, _, _, _⟩ := HB1.out.ns.1.at m hmn
    have hmI : (m : Int) < (F.ns.length : Int) := by omega
    rw [ndAt_nat hmn] at HR
    clear HK HG HU HB1 hi hu
    generalize F.ns[m].k = kk at *
    go_wp2
    go_ret
    exact ⟨by rw [HR.out]; rfl, hB1⟩

theorem hdA_used {F : FsD} (h : 0 ≤ hdA F) : UsP F (hdA F) := by
  unfold hdA at h ⊢
  split at h
  · rename_i hc
    rw [if_pos hc]
    exact walk_used (foB_is hc) _ h
  · omega
theorem hdA_neg {F : FsD} (h : hdA F < 0) : hdA F = -1 := by
  unfold hdA at h ⊢
  split at h
  · rename_i hc
    rw [if_pos hc]
    exact wlk_neg (by omega) h
  · rename_i hc; rw [if_neg hc]
theorem hd_no {F : FsD} (h : hdA F < 0) : hdB F = false ∧ hdT F = ⟨#[]⟩ := by
  unfold hdB hdT
  rw [decide_eq_false (by omega), if_neg (by omega)]
  exact ⟨rfl, rfl⟩
theorem hd_yes {F : FsD} (h : 0 ≤ hdA F) : hdB F = true ∧ hdT F = catD F.ds (ndAt F (hdA F)).b := by
  unfold hdB hdT
  rw [decide_eq_true h, if_pos h]
  exact ⟨rfl, rfl⟩

set_option maxRecDepth 20000 in
set_option maxHeartbeats 4000000 in
theorem specHiddenOf (v : Value) (F : FsD) (w : World) (hsm : SmF F) (hr : RdFs w v F) :
    Calls Tryd.prog 16 #[v] w fun e w' => e = .returned (.tuple #[.string (hdT F), .bool (hdB F)]) ∧ Below w.heap.size w w' := by
  have hr' := hr
  obtain ⟨a, ca, b, cb, rfl, _, _, _⟩ := hr
  have HB : Hid (BoxF w (w.alloc (.cells #[.slice a F.ns.length ca, .slice b F.ds.length cb] 30)) a b ca cb F) := BoxF.made hr'
  have HFO : Hid (Calls Tryd.prog 8 #[.agg #[.slice a F.ns.length ca, .slice b F.ds.length cb]] (w.alloc (.cells #[.slice a F.ns.length ca, .slice b F.ds.length cb] 30)) fun e w' => e = .returned (.bool (foB F)) ∧ Below (w.alloc (.cells #[.slice a F.ns.length ca, .slice b F.ds.length cb] 30)).heap.size (w.alloc (.cells #[.slice a F.ns.length ca, .slice b F.ds.length cb] 30)) w') := specFsOk _ F _ hsm HB.out.rd
  have y0 := HB.out.c0
  have y1 := HB.out.c1
  clear hr'
  cases hfo : foB F with
  | false =>
    have hA : hdA F = -1 := by unfold hdA; rw [if_neg (by rw [hfo]; decide)]
    have HR : Hid (hdB F = false ∧ hdT F = ⟨#[]⟩) := hd_no (by rw [hA]; decide)
    rw [hfo] at HFO
    clear hfo hA
    go_enter Tryd.func16, Tryd.ntmps16
    go_wp2_with fail
    refine HFO.out.mono ?_
    rintro e w1 ⟨rfl, hb1⟩
    have hB1 := (HB.out.new hb1).bel
    clear HFO
    go_wp2
    go_ret2
    exact ⟨by rw [HR.out.1, HR.out.2]; rfl, hB1⟩
  | true =>
    have HA : Hid (hdA F = wlk F 0 [tx [126]]) := by show _ = _; unfold hdA; rw [if_pos hfo]
    rw [hfo] at HFO
    have HFP : Hid (FsOkP F) := foB_is hfo
    have HLW : Hid (∀ W g, BoxF w W a b ca cb F → RdS W (some ⟨g, 0, none⟩) [tx [126]] → Calls Tryd.prog 31 #[.agg #[.slice a F.ns.length ca, .slice b F.ds.length cb], .slice (some ⟨g, 0, none⟩) 1 1] W fun e w' => e = .returned (.int .i64 (hdA F)) ∧ Below W.heap.size W w') := fun W g h1 h2 => by
      rw [HA.out]
      exact specL9Walk _ F [tx [126]] (some ⟨g, 0, none⟩) 1 W HFP.out (by decide) h1.rd h2
    have HNO : Hid (hdA F < 0 → hdB F = false ∧ hdT F = ⟨#[]⟩) := hd_no
    have HYE : Hid (0 ≤ hdA F → hdB F = true ∧ hdT F = catD F.ds (ndAt F (hdA F)).b) := hd_yes
    have HU : Hid (0 ≤ hdA F → UsP F (hdA F)) := hdA_used
    clear hfo HFP HA
    generalize hdA F = i at *
    go_enter Tryd.func16, Tryd.ntmps16
    go_wp2_with fail
    refine HFO.out.mono ?_
    rintro e w1 ⟨rfl, hb1⟩
    have HB1 : Hid (BoxF w w1 a b ca cb F) := HB.out.new hb1
    have HB2 : Hid (BoxF w (w1.alloc (.cells #[.string ⟨#[126]⟩] 9)) a b ca cb F) := HB1.out.new (below1 w1 _)
    have HRS : Hid (RdS (w1.alloc (.cells #[.string ⟨#[126]⟩] 9)) (some ⟨w1.heap.size, 0, none⟩) [tx [126]]) := by
      have h : (w1.alloc (.cells #[.string ⟨#[126]⟩] 9)).ownsRow w1.heap.size 9 1 (.slice (some ⟨w1.heap.size, 0, none⟩) 1 1) 1 ([tx [126]].map Value.string) :=
        ⟨by simp, .inr ⟨w1.heap.size, 1, #[.string ⟨#[126]⟩], rfl, Nat.le_refl _, heap_alloc_new w1 _, Nat.le_refl _, by unfold maxLen; omega, rfl, rfl⟩⟩
      obtain ⟨x, c, he, _, hr⟩ := own_rdS h
      injection he with he _ _
      rw [he]; exact hr
    have HLC := HLW.out _ w1.heap.size HB2.out HRS.out
    have HLC2 : Hid (Calls Tryd.prog 31 #[.agg #[.slice a F.ns.length ca, .slice b F.ds.length cb], .slice (some ⟨w1.heap.size, 0, none⟩) 1 1] (w1.alloc (.cells #[.string ⟨#[126]⟩] 9)) fun e w' => e = .returned (.int .i64 i) ∧ Below (w1.alloc (.cells #[.string ⟨#[126]⟩] 9)).heap.size (w1.alloc (.cells #[.string ⟨#[126]⟩] 9)) w') := HLC
    have z0 := HB1.out.c0
    have z1 := HB1.out.c1
    clear HFO HB y0 y1 hb1 HLC HLW HRS
    go_wp2_with fail
    refine HLC2.out.mono ?_
    rintro e w2 ⟨rfl, hb2⟩
    have HB3 : Hid (BoxF w w2 a b ca cb F) := HB2.out.new hb2
    have hB3 := HB3.out.bel
    clear HLC2 HB2 HB1 z0 z1 hb2
    by_cases hi : i < 0
    · have HR : Hid (hdB F = false ∧ hdT F = ⟨#[]⟩) := HNO.out hi
      clear HNO HYE HU HB3
      go_wp2
      go_ret2
      exact ⟨by rw [HR.out.1, HR.out.2]; rfl, hB3⟩
    · have HR : Hid (hdB F = true ∧ hdT F = catD F.ds (ndAt F i).b) := HYE.out (by omega)
      have hu := HU.out (by omega)
      obtain ⟨m, rfl⟩ := natOf hu.2.1
      have hm2 : ¬ ((m : Int) < 0) := by omega
      have HRD : Hid (Calls Tryd.prog 35 #[.agg #[.slice a F.ns.length ca, .slice b F.ds.length cb], .int .i64 (m : Nat)] w2 fun e w' => e = .returned (.string (catD F.ds (ndAt F (m : Int)).b)) ∧ Below w2.heap.size w2 w') := specReadW _ F m w2 hu HB3.out.rd
      have z0 := HB3.out.c0
      have z1 := HB3.out.c1
      clear HNO HYE HU HB3 hu hi
      go_wp2_with fail
      refine HRD.out.mono ?_
      rintro e w3 ⟨rfl, hb3⟩
      have hB4 := hB3.trans (hb3.mono hB3.size)
      go_wp2
      go_ret2
      exact ⟨by rw [HR.out.1, HR.out.2]; rfl, hB4⟩
end Go.Proofs.YthfgfhbinggpfaaDoor
