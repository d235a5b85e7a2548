/-
  Own text: what FnFlushed and FnFallen draw.
-/
import Derived.Test.YtlidmnehpcodkaaDoorDDiskW
namespace Go.Proofs.YtlidmnehpcodkaaDoor
open Go.RowKit

theorem results_row_tmp2 {P : Program} {fn : Func} {p u v : Tmp} {ty : TypeId} (h : fn.results = #[.cell p ty, .tmp u, .tmp v]) (tmps : Array Value) (w : World) (g : Nat) (t : TypeId) (cs : Array Value) (d : TypeDesc)
    (hp : tmps.getD p undef = .pointer (some ⟨g, 0, none⟩)) (hg : Var w g cs t)
    (hu : P.underlying ty = some d) (hd : (match d with | .struct _ | .array _ _ => true | _ => false) = true) (hi : (P.info? ty).map (·.size) = some cs.size) :
    (results fn tmps).run P w = .ok (.tuple #[.agg cs, tmps.getD u undef, tmps.getD v undef]) w := by
  have hp' : tmps[p]?.getD undef = .pointer (some ⟨g, 0, none⟩) := by simpa using hp
  simp [results, h, hp', asAddr, run_loadVar_row w g t ty cs (0, 0) d hg hu hd hi, Result.andThen]

set_option maxRecDepth 20000 in
set_option maxHeartbeats 1000000 in
theorem drawFall (x : Option Addr) (cap : Nat) (l : List Int) (w : World) (hl : l.length ≤ 1048576) (hu : U8 l) (hr : Rd .u8 w x l) :
    Calls Tryd.prog 11 #[.slice x l.length cap] w fun e w' => ∃ (v : Value) (d : DiskD) (q : Option Addr) (qc : Nat) (ks : List Bool), e = .returned (.tuple #[v, .slice q ks.length qc]) ∧ OwnD w' w.heap.size v d ∧ d.1.length ≤ 121 ∧ d.2.length ≤ 401 ∧ SmD d ∧ ks.length ≤ 9 ∧ RdF encB 1 w' q ks ∧ Below w.heap.size w w' := by
  have HR : Hid (Rd .u8 (w.alloc (.cells #[.slice none 0 0, .slice none 0 0] 27)) x l) := hr.below (below1 w _) (Nat.le_refl _)
  have HU : Hid (U8 l) := hu
  clear hr hu
  go_enter Tryd.func11, Tryd.ntmps11
  go_wp2_with fail
  refine (newD x cap l _ hl HU.out HR.out).mono ?_
  rintro e w1 ⟨P, rfl, hP, hd1, hb1⟩
  have hP' : w.heap.size + 1 ≤ P := by simpa using hP
  have HR1 : Hid (Var w1 w.heap.size #[.slice none 0 0, .slice none 0 0] 27) := (Var.made w _ _).new hb1
  have hB1 : Below w.heap.size w w1 := (below1 w _).trans (hb1.mono (by simp))
  have HD1 : Hid (Drw w1 P x cap l) := hd1
  have hlt1 := hd1.lt
  clear hd1 hb1 hP
  go_wp2_with fail
  refine (drawO P x cap l _ HD1.out).mono ?_
  rintro e w2 ⟨v2, d, rfl, hO2, hd1, hd2, hd3, hsm, hdr2, hon2⟩
  have HSM : Hid (SmD d) := hsm
  clear hsm
  obtain ⟨a1, c1, b1, e1, rfl⟩ := hO2.shape
  have hR2 : Var w2 w.heap.size #[.slice none 0 0, .slice none 0 0] 27 := HR1.out.onlyP hon2 (by omega)
  have hB2 : Below w.heap.size w w2 := hB1.trans (OnlyP.belowB hon2 hB1.size (by omega))
  have hs2 : w1.heap.size ≤ w2.heap.size := hon2.size
  have HD3 : Hid (Drw (w2.alloc (.cells #[.slice a1 d.1.length c1, .slice b1 d.2.length e1] 27)) P x cap l) := hdr2.alloc _
  have HR3 : Hid (Var (w2.alloc (.cells #[.slice a1 d.1.length c1, .slice b1 d.2.length e1] 27)) w.heap.size #[.slice none 0 0, .slice none 0 0] 27) := hR2.alloc _
  have HV3 : Hid (Var (w2.alloc (.cells #[.slice a1 d.1.length c1, .slice b1 d.2.length e1] 27)) w2.heap.size #[.slice a1 d.1.length c1, .slice b1 d.2.length e1] 27) := Var.made w2 _ _
  have HO3 : Hid (OwnD (w2.alloc (.cells #[.slice a1 d.1.length c1, .slice b1 d.2.length e1] 27)) w1.heap.size (.agg #[.slice a1 d.1.length c1, .slice b1 d.2.length e1]) d) := hO2.below (below1 _ _)
  have hB3 : Below w.heap.size w (w2.alloc (.cells #[.slice a1 d.1.length c1, .slice b1 d.2.length e1] 27)) := hB2.alloc hB2.size _
  have hv0 := HV3.out.cell 0
  simp at hv0
  clear hO2 hR2 hB2 hdr2 hon2 HR1 HD1 hB1
  clear hv0
  go_wp2_with fail
  generalize w2.alloc (.cells #[.slice a1 d.1.length c1, .slice b1 d.2.length e1] 27) = w4 at *
  have hu0 : w4.cell? ⟨w2.heap.size, 0, none⟩ = some (.slice a1 d.1.length c1) := HV3.out.cell 0
  have hu1 : w4.cell? ⟨w2.heap.size, 1, none⟩ = some (.slice b1 d.2.length e1) := HV3.out.cell 1
  have HW : Hid (∀ w5, OnlyP P w4.drew w5 → Drw w5 P x cap l → w5.cell? ⟨w2.heap.size, 0, none⟩ = some (.slice a1 d.1.length c1) ∧ w5.cell? ⟨w2.heap.size, 1, none⟩ = some (.slice b1 d.2.length e1) ∧ w5.cell? ⟨w.heap.size, 0, none⟩ = some (.slice none 0 0) ∧ (w5.setCell ⟨w.heap.size, 0, none⟩ (.slice a1 d.1.length c1)).cell? ⟨w.heap.size, 1, none⟩ = some (.slice none 0 0) ∧ w5.frozen? ⟨w.heap.size, 0, none⟩ = false ∧ w5.frozen? ⟨w.heap.size, 1, none⟩ = false ∧ Hid (Var ((w5.setCell ⟨w.heap.size, 0, none⟩ (.slice a1 d.1.length c1)).setCell ⟨w.heap.size, 1, none⟩ (.slice b1 d.2.length e1)) w.heap.size #[.slice a1 d.1.length c1, .slice b1 d.2.length e1] 27 ∧ OwnD ((w5.setCell ⟨w.heap.size, 0, none⟩ (.slice a1 d.1.length c1)).setCell ⟨w.heap.size, 1, none⟩ (.slice b1 d.2.length e1)) w.heap.size (.agg #[.slice a1 d.1.length c1, .slice b1 d.2.length e1]) d ∧ Below w.heap.size w ((w5.setCell ⟨w.heap.size, 0, none⟩ (.slice a1 d.1.length c1)).setCell ⟨w.heap.size, 1, none⟩ (.slice b1 d.2.length e1)))) := by
    intro w5 hon hdr
    have hon' : OnlyP P w4 w5 := ⟨hon.os, hon.tape, hon.output, hon.size, hon.block⟩
    have hV5 := HV3.out.onlyP hon' (by omega)
    have hR5 := HR3.out.onlyP hon' (by omega)
    have hO5 := HO3.out.onlyP hon' (by omega)
    have hB5 : Below w.heap.size w w5 := hB3.trans (OnlyP.belowB hon' hB3.size (by omega))
    obtain ⟨h1, h2, h3, h4⟩ := fin_cells hR5 (.slice a1 d.1.length c1)
    exact ⟨hV5.cell 0, hV5.cell 1, h1, h2, h3, h4, hR5.two _ _, ((hO5.setVar hR5 0 _).setVar (hR5.set 0 _) 1 _).base (by omega), (hB5.setCell (p := ⟨w.heap.size, 0, none⟩) (Nat.le_refl _) _).setCell (p := ⟨w.heap.size, 1, none⟩) (Nat.le_refl _) _⟩
  have HDd : Hid (Drw w4.drew P x cap l) := HD3.out
  have hs4 : w.heap.size + 1 ≤ w4.heap.size := HR3.out.lt
  go_region_with (go_at_call 44; refine (keepO P x cap l w4.drew HDd.out).mono ?_; rintro e w5 ⟨vq, ks, rfl, hks, hoq, hd5, hon5⟩; obtain ⟨k0, k1, k2, k3, k4, k5, HE⟩ := HW.out w5 hon5 hd5; obtain ⟨q, qc, rfl, _, _⟩ := own_rdF encB_len hoq rfl; have HQ : Hid (RdF encB 1 ((w5.setCell ⟨w.heap.size, 0, none⟩ (.slice a1 d.1.length c1)).setCell ⟨w.heap.size, 1, none⟩ (.slice b1 d.2.length e1)) q ks) := rdB (own_set (own_set hoq (Q := w.heap.size) (by exact hs4) 0 _) (Q := w.heap.size) (by exact hs4) 1 _); clear hd5 hon5 hoq)
  all_goals
    go_wp2
    refine bodyPost_ret (results_row_tmp rfl _ _ w.heap.size 27 #[.slice a1 d.1.length c1, .slice b1 d.2.length e1] _ rfl HE.out.1 Tryd.underlying27 rfl Tryd.sizeDisk) rfl ?_
    exact ⟨_, d, q, qc, ks, rfl, HE.out.2.1, hd2, hd3, HSM.out, hks, HQ.out, HE.out.2.2⟩
end Go.Proofs.YtlidmnehpcodkaaDoor
