/-
  Own text: a node is dropped, and what it holds written, by the program.
-/
import Derived.Test.YtbameedfnicnhaaIBegW
import Derived.Test.YtbameedfnicnhaaICloW
namespace Go.Proofs.Ytbameedfnicnhaa
open Go.RowKit

theorem prm_keep {w W W' : World} {P0 : Nat} {a b : Option Addr} {na ca nb cb : Nat} {F : FsD} {X : Nat → Prop} (hv : Var W P0 #[.slice a na ca, .slice b nb cb] 27) (r1 : RdNs w a F.ns) (r2 : RdS w b F.ds) (hB : w.heap.size ≤ W.heap.size) (hb : Below w.heap.size w W) (hO : Only (fun q => W.heap.size ≤ q ∨ X q) W W') (hX : ∀ q, X q → w.heap.size ≤ q ∧ q ≠ P0) (hP : P0 < W.heap.size) :
    W'.cell? ⟨P0, 0, none⟩ = some (.slice a na ca) ∧ W'.cell? ⟨P0, 1, none⟩ = some (.slice b nb cb) ∧ RdNs W' a F.ns ∧ RdS W' b F.ds := by
  have hv' : Var W' P0 #[.slice a na ca, .slice b nb cb] 27 := hv.only hO (fun h => h.elim (fun h => by omega) (fun h => (hX _ h).2 rfl))
  have hb' : Below w.heap.size w W' := hb.trans (hO.below hB (fun q h => h.elim (fun h => by omega) (fun h => (hX _ h).1)))
  exact ⟨(hv'.cell 0).trans rfl, (hv'.cell 1).trans rfl, r1.below hb' (Nat.le_refl _), r2.below hb' (Nat.le_refl _)⟩

set_option maxRecDepth 20000 in
set_option maxHeartbeats 2000000 in
theorem implNodeDrop (v : Value) (F : FsD) (i : Int) (w : World) (hsm : SmF F) (hr : RdFs w v F) :
    Calls Try.prog 22 #[v, .int .i64 i] w fun e w' => ∃ u, e = .returned (.tuple #[u, .bool (dpOk F i)]) ∧ OwnFs w' w.heap.size w'.heap.size u (dpD F i) ∧ Below w.heap.size w w' := by
  obtain ⟨a, ca, b, cb, rfl, hq, r1, r2⟩ := hr
  obtain ⟨W0, hW0⟩ : ∃ x, x = ((w.alloc (.cells #[.slice a F.ns.length ca, .slice b F.ds.length cb] 27)).alloc (.cells #[.int .i64 i] 3)).alloc (.cells #[.slice none 0 0, .slice none 0 0] 27) := ⟨_, rfl⟩
  have hz : W0.heap.size = w.heap.size + 3 := by rw [hW0]; simp
  have hb0 : Below w.heap.size w W0 := by rw [hW0]; exact below3 _ _ _ _
  have hv0 : Var W0 w.heap.size #[.slice a F.ns.length ca, .slice b F.ds.length cb] 27 := by rw [hW0]; exact ((Var.made w _ _).alloc _).alloc _
  have hv1 : Var W0 (w.heap.size + 1) #[.int .i64 i] 3 := by rw [hW0]; exact (Var.made2 w _ _ _).alloc _
  have hv2 : Var W0 (w.heap.size + 1 + 1) #[.slice none 0 0, .slice none 0 0] 27 := by rw [hW0]; exact Var.made3 w _ _ _ _
  have hq : dpD F i = (if dpOk F i = true then dpD F i else F) := by
    by_cases h : dpOk F i = true
    · rw [if_pos h]
    · rw [if_neg h]; unfold dpD; rw [if_neg h]
  have HBG := beginDp w.heap.size (w.heap.size + 1) a b ca cb F (dpD F i) (dpOk F i) (fun _ => False) (fun _ => True) W0 hsm (by omega) (fun _ h => h.elim) (fun _ _ _ _ _ => trivial)
    (fun W' hO => prm_keep hv0 r1 r2 (by omega) hb0 hO (fun _ h => h.elim) (by omega))
    (fun W' vn vd hvc ho hb hl => by
      have ci : W'.cell? ⟨w.heap.size + 1, 0, none⟩ = some (.int .i64 i) := ((hv1.new hb).cell 0).trans rfl
      refine (cloDp (W0.heap.size + 3) (W0.heap.size + 1) (w.heap.size + 1) vn vd F i W' hsm hvc ho (by omega) (by omega) hl ci).mono ?_
      rintro e w' ⟨h1, h2, h3⟩
      exact ⟨h1, h2, h3.mono fun q _ e => .inl e, trivial⟩)
  have HB : Hid (Calls Try.prog 34 #[.pointer (some ⟨w.heap.size, 0, none⟩), .func (.func 58) #[] #[.pointer (some ⟨w.heap.size + 1, 0, none⟩)]] W0 fun e w' => ∃ u, e = .returned (.tuple #[u, .bool (dpOk F i)]) ∧ OwnFs w' (w.heap.size + 3) w'.heap.size u (dpD F i) ∧ Below W0.heap.size W0 w') := by
    refine HBG.mono ?_
    rintro e w' ⟨u, h1, h2, h3, _⟩
    rw [← hq, hz] at h2
    exact ⟨u, h1, h2, h3.below (Nat.le_refl _) (fun q h => h.elim id (fun h => h.elim))⟩
  have HV2 : Hid (Var W0 (w.heap.size + 1 + 1) #[.slice none 0 0, .slice none 0 0] 27) := hv2
  have HB0 : Hid (Below w.heap.size w W0) := hb0
  subst hW0
  clear HBG hv0 hv1 hv2 hb0 r1 r2 hsm
  have hmf : ∀ (fn : Fn) (first cap : Array Value) (w : World), (Instr.makeFunc fn first cap).run Try.prog w = .ok (.func fn first cap) w := fun _ _ _ _ => rfl
  generalize dpOk F i = ok at *
  clear hq
  go_enter Try.func22, Try.ntmps22
  go_wp2_with fail
  refine HB.out.mono ?_
  rintro e w1 ⟨u, rfl, ho, hb⟩
  obtain ⟨a1, c1, b1, e1, hu⟩ : ∃ a1 c1 b1 e1, u = .agg #[.slice a1 (dpD F i).ns.length c1, .slice b1 (dpD F i).ds.length e1] := ho.lay
  subst hu
  have hV1 := HV2.out.new hb
  have x0 := hV1.cell 0
  have x1 := hV1.cell 1
  have z0 := hV1.frozen 0
  have z1 := hV1.frozen 1
  simp at x0 x1
  have hv := (hV1.set 0 (.slice a1 (dpD F i).ns.length c1)).set 1 (.slice b1 (dpD F i).ds.length e1)
  have HV9 : Hid (Var ((w1.setCell ⟨w.heap.size + 1 + 1, 0, none⟩ (.slice a1 (dpD F i).ns.length c1)).setCell ⟨w.heap.size + 1 + 1, 1, none⟩ (.slice b1 (dpD F i).ds.length e1)) (w.heap.size + 1 + 1) #[.slice a1 (dpD F i).ns.length c1, .slice b1 (dpD F i).ds.length e1] 27) := by show Var _ _ _ _; simpa using hv
  have hO : Only (fun q => q = w.heap.size + 1 + 1) w1 ((w1.setCell ⟨w.heap.size + 1 + 1, 0, none⟩ (.slice a1 (dpD F i).ns.length c1)).setCell ⟨w.heap.size + 1 + 1, 1, none⟩ (.slice b1 (dpD F i).ds.length e1)) := (Only.setCell (S := fun q => q = w.heap.size + 1 + 1) (Only.refl _ _) (p := ⟨w.heap.size + 1 + 1, 0, none⟩) rfl _).setCell (p := ⟨w.heap.size + 1 + 1, 1, none⟩) rfl _
  have HO9 : Hid (OwnFs ((w1.setCell ⟨w.heap.size + 1 + 1, 0, none⟩ (.slice a1 (dpD F i).ns.length c1)).setCell ⟨w.heap.size + 1 + 1, 1, none⟩ (.slice b1 (dpD F i).ds.length e1)) w.heap.size ((w1.setCell ⟨w.heap.size + 1 + 1, 0, none⟩ (.slice a1 (dpD F i).ns.length c1)).setCell ⟨w.heap.size + 1 + 1, 1, none⟩ (.slice b1 (dpD F i).ds.length e1)).heap.size (.agg #[.slice a1 (dpD F i).ns.length c1, .slice b1 (dpD F i).ds.length e1]) (dpD F i)) := ((ho.only hO (fun k h1 _ e => by omega)).hi hO.size).base (by omega)
  have hbw : Below w.heap.size w w1 := HB0.out.trans (hb.mono (by omega))
  have HB9 : Hid (Below w.heap.size w ((w1.setCell ⟨w.heap.size + 1 + 1, 0, none⟩ (.slice a1 (dpD F i).ns.length c1)).setCell ⟨w.heap.size + 1 + 1, 1, none⟩ (.slice b1 (dpD F i).ds.length e1))) := hbw.trans (hO.below hbw.size (fun q e => by omega))
  clear hV1 hv hO hbw ho hb HB HV2 HB0
  go_wp2
  refine bodyPost_ret (res_fs1 rfl _ _ (w.heap.size + 1 + 1) 27 #[.slice a1 (dpD F i).ns.length c1, .slice b1 (dpD F i).ds.length e1] _ rfl HV9.out Try.underlying27 rfl Try.sizeFs) rfl ?_
  exact ⟨_, rfl, HO9.out, HB9.out⟩
end Go.Proofs.Ytbameedfnicnhaa
