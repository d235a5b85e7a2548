/-
  Own text: a contract of the program's FsOf.
-/
import Derived.Test.YtaabcfgjmankgaaDoorIFsAtW
import Derived.Test.YtaabcfgjmankgaaDoorIBlkW
import Derived.Test.YtaabcfgjmankgaaDoorBunU
import Derived.Test.YtaabcfgjmankgaaDoorTextsW
import Derived.Test.YtaabcfgjmankgaaDoorNodeB
namespace Go.Proofs.YtaabcfgjmankgaaDoor
open Go.RowKit

theorem zeroOwn (W : World) (lo hi : Nat) : OwnFs W lo hi (.agg #[.slice none 0 0, .slice none 0 0]) zeroF :=
  ⟨_, _, rfl, ⟨[], rfl, ⟨World.ownsRow_nil _ _ _ _, by simp, by simp, (fun j hj => by cases hj), by simp⟩⟩, World.ownsRow_nil _ _ _ _, (fun j hj => by cases hj)⟩

set_option maxRecDepth 20000 in
set_option maxHeartbeats 8000000 in
theorem implFsOf (a : Option Addr) (cap : Nat) (l : List ByteArray) (er : Addr) (w : World) (hl : l.length ≤ 1048576) (hs : ∀ s ∈ l, s.size ≤ 1048576) (hr : RdS w a l) (he : ErrAt er w) :
    Calls Tryd.prog 7 #[.slice a l.length cap] w fun e w' => ∃ v, e = .returned (.tuple #[v, .bool (ofFsOk l)]) ∧ OwnFs w' w.heap.size w'.heap.size v (ofFs l) ∧ Below w.heap.size w w' := by
  have HR : Hid (∀ W, Below w.heap.size w W → RdS W a l) := fun W h => hr.below h (Nat.le_refl _)
  have hR0 := Var.made w #[.slice none 0 0, .slice none 0 0] 26
  have hb0 := below1 w (.cells #[.slice none 0 0, .slice none 0 0] 26)
  have HAT : Hid (Calls Tryd.prog 18 #[.slice a l.length cap] (w.alloc (.cells #[.slice none 0 0, .slice none 0 0] 26)) fun e w' => ∃ v k, e = .returned v ∧ HeadN l k ∧ OwnFs w' (w.alloc (.cells #[.slice none 0 0, .slice none 0 0] 26)).heap.size w'.heap.size v (readF l k) ∧ Below (w.alloc (.cells #[.slice none 0 0, .slice none 0 0] 26)).heap.size (w.alloc (.cells #[.slice none 0 0, .slice none 0 0] 26)) w') :=
    implFsAt a cap l er _ hl hs (HR.out _ hb0) (he.below hb0)
  have HSM : Hid (∀ k, SmF (readF l k)) := fun k => smF_read k hl hs
  clear hr he hs
  go_enter Tryd.func7, Tryd.ntmps7
  go_wp2_with fail
  refine HAT.out.mono ?_
  clear HAT
  rintro e w1 ⟨v, k, rfl, hq, ho, hb1⟩
  have ht := told hq.told
  have hsm := HSM.out k
  have hR1 := hR0.new hb1
  have hB1 : Below w.heap.size w w1 := hb0.trans (hb1.mono hb0.size)
  have ho1 := ho.base (show w.heap.size + 1 ≤ (w.alloc (.cells #[.slice none 0 0, .slice none 0 0] 26)).heap.size by simp)
  clear hq HSM hR0 hb0 hb1 ho
  generalize readF l k = F at *
  obtain ⟨a1, c1, a2, c2, rfl⟩ := ho1.lay
  have hbA := below1 w1 (.cells #[.slice a1 F.ns.length c1, .slice a2 F.ds.length c2] 26)
  have hV2 := Var.made w1 #[.slice a1 F.ns.length c1, .slice a2 F.ds.length c2] 26
  have hR2 := hR1.new hbA
  have ho2 := (ho1.below hbA).hi (show w1.heap.size ≤ w1.heap.size from Nat.le_refl _)
  have hB2 := hB1.trans (hbA.mono hB1.size)
  have HT : Hid ((ofFsOk l = (shOk F && decide (fsBl F = l))) ∧ (ofFsOk l = true → ofFs l = F) ∧ (ofFsOk l = false → ofFs l = zeroF)) := ht
  have HSM : Hid (SmF F) := hsm
  have HO2 : Hid (OwnFs (w1.alloc (.cells #[.slice a1 F.ns.length c1, .slice a2 F.ds.length c2] 26)) (w.heap.size + 1) w1.heap.size (.agg #[.slice a1 F.ns.length c1, .slice a2 F.ds.length c2]) F) := ho2
  have HR2 : Hid (Var (w1.alloc (.cells #[.slice a1 F.ns.length c1, .slice a2 F.ds.length c2] 26)) w.heap.size #[.slice none 0 0, .slice none 0 0] 26) := hR2
  have HV2 : Hid (Var (w1.alloc (.cells #[.slice a1 F.ns.length c1, .slice a2 F.ds.length c2] 26)) w1.heap.size #[.slice a1 F.ns.length c1, .slice a2 F.ds.length c2] 26) := hV2
  have HB2 : Hid (Below w.heap.size w (w1.alloc (.cells #[.slice a1 F.ns.length c1, .slice a2 F.ds.length c2] 26))) := hB2
  have x0 := hV2.cell 0
  have x1 := hV2.cell 1
  simp at x0 x1
  have hQ : w.heap.size < w1.heap.size := hR1.lt
  clear ht hsm ho1 ho2 hR1 hR2 hV2 hB1 hB2 hbA
  go_wp2_with fail
  refine (implShapeOk _ F _ HSM.out HO2.out.rd).mono ?_
  clear x0 x1
  rintro e w3 ⟨rfl, hb3⟩
  generalize hW : w1.alloc (.cells #[.slice a1 F.ns.length c1, .slice a2 F.ds.length c2] 26) = W2 at *
  clear hW
  generalize w1.heap.size = Q at *
  have HR3 : Hid (Var w3 w.heap.size #[.slice none 0 0, .slice none 0 0] 26) := HR2.out.new hb3
  have HV3 : Hid (Var w3 Q #[.slice a1 F.ns.length c1, .slice a2 F.ds.length c2] 26) := HV2.out.new hb3
  have HO3 : Hid (OwnFs w3 (w.heap.size + 1) Q (.agg #[.slice a1 F.ns.length c1, .slice a2 F.ds.length c2]) F) := HO2.out.below hb3
  have HB3 : Hid (Below w.heap.size w w3) := HB2.out.trans (hb3.mono HB2.out.size)
  clear HR2 HV2 HO2 HB2 hb3
  obtain ⟨q, hq⟩ : ∃ q, shOk F = q := ⟨_, rfl⟩
  rw [hq]
  cases q with
  | false =>
    have HE : Hid (ofFsOk l = false ∧ ofFs l = zeroF) := by
      show _ ∧ _
      have h1 := HT.out.1
      rw [hq, Bool.false_and] at h1
      exact ⟨h1, HT.out.2.2 h1⟩
    have r0 := HR3.out.cell 0
    have r1 := HR3.out.cell 1
    have q0 := HR3.out.frozen 0
    have q1 := HR3.out.frozen 1
    simp at r0 r1
    have HR9 : Hid (Var ((w3.setCell ⟨w.heap.size, 0, none⟩ (.slice none 0 0)).setCell ⟨w.heap.size, 1, none⟩ (.slice none 0 0)) w.heap.size #[.slice none 0 0, .slice none 0 0] 26) := (HR3.out.set 0 (.slice none 0 0)).set 1 (.slice none 0 0)
    have HB9 : Hid (Below w.heap.size w ((w3.setCell ⟨w.heap.size, 0, none⟩ (.slice none 0 0)).setCell ⟨w.heap.size, 1, none⟩ (.slice none 0 0))) := (HB3.out.setCell (p := ⟨w.heap.size, 0, none⟩) (Nat.le_refl _) (.slice none 0 0)).setCell (p := ⟨w.heap.size, 1, none⟩) (Nat.le_refl _) (.slice none 0 0)
    clear HR3 HB3 HT HO3 HV3 HSM HR
    go_wp2
    refine bodyPost_ret (res_row1 rfl _ _ w.heap.size 26 #[.slice none 0 0, .slice none 0 0] _ rfl HR9.out Tryd.underlying26 rfl Tryd.sizeFs) rfl ?_
    exact ⟨_, by rw [HE.out.1]; rfl, by rw [HE.out.2]; exact zeroOwn _ _ _, HB9.out⟩
  | true =>
    have HLN : Hid ((fsBl F).length ≤ 4194304) := by
      have h1 := fsBl_len (shOk_iff.1 hq)
      have h2 := HSM.out.1
      have h3 := HSM.out.2.2.1
      show _ ≤ _
      omega
    have x0 := HV3.out.cell 0
    have x1 := HV3.out.cell 1
    simp at x0 x1
    go_wp2_with fail
    refine (implFsBlocks _ F _ HSM.out HO3.out.rd).mono ?_
    clear x0 x1
    rintro e w4 ⟨u, rfl, hou, hb4⟩
    have HR4 : Hid (Var w4 w.heap.size #[.slice none 0 0, .slice none 0 0] 26) := HR3.out.new hb4
    have HV4 : Hid (Var w4 Q #[.slice a1 F.ns.length c1, .slice a2 F.ds.length c2] 26) := HV3.out.new hb4
    have HO4 : Hid (OwnFs w4 (w.heap.size + 1) Q (.agg #[.slice a1 F.ns.length c1, .slice a2 F.ds.length c2]) F) := HO3.out.below hb4
    have HB4 : Hid (Below w.heap.size w w4) := HB3.out.trans (hb4.mono HB3.out.size)
    clear HR3 HV3 HO3 HB3 hb4
    obtain ⟨a5, c5, rfl, hl5, hr5⟩ := own_rdS hou
    clear hl5 hou
    go_wp2_with fail
    refine (equalT a5 a c5 cap (fsBl F) l w4 HLN.out hr5 (HR.out w4 HB4.out)).mono ?_
    rintro e w5 ⟨rfl, hb5⟩
    have HR5 : Hid (Var w5 w.heap.size #[.slice none 0 0, .slice none 0 0] 26) := HR4.out.new hb5
    have HV5 : Hid (Var w5 Q #[.slice a1 F.ns.length c1, .slice a2 F.ds.length c2] 26) := HV4.out.new hb5
    have HO5 : Hid (OwnFs w5 (w.heap.size + 1) Q (.agg #[.slice a1 F.ns.length c1, .slice a2 F.ds.length c2]) F) := HO4.out.below hb5
    have HB5 : Hid (Below w.heap.size w w5) := HB4.out.trans (hb5.mono HB4.out.size)
    clear HR4 HV4 HO4 HB4 hb5
    clear hr5 HLN
    by_cases hfl : fsBl F = l
    · have HE : Hid (ofFsOk l = true ∧ ofFs l = F) := by
        show _ ∧ _
        have h1 := HT.out.1
        rw [hq, decide_eq_true hfl] at h1
        exact ⟨h1, HT.out.2.1 h1⟩
      rw [decide_eq_true hfl]
      clear hfl
      have x0 := HV5.out.cell 0
      have x1 := HV5.out.cell 1
      have r0 := HR5.out.cell 0
      have q0 := HR5.out.frozen 0
      have r1 := (HR5.out.set 0 (.slice a1 F.ns.length c1)).cell 1
      have q1 := (HR5.out.set 0 (.slice a1 F.ns.length c1)).frozen 1
      simp at x0 x1 r0 r1
      have HR9 : Hid (Var ((w5.setCell ⟨w.heap.size, 0, none⟩ (.slice a1 F.ns.length c1)).setCell ⟨w.heap.size, 1, none⟩ (.slice a2 F.ds.length c2)) w.heap.size #[.slice a1 F.ns.length c1, .slice a2 F.ds.length c2] 26) := (HR5.out.set 0 _).set 1 _
      have HB9 : Hid (Below w.heap.size w ((w5.setCell ⟨w.heap.size, 0, none⟩ (.slice a1 F.ns.length c1)).setCell ⟨w.heap.size, 1, none⟩ (.slice a2 F.ds.length c2))) := (HB5.out.setCell (p := ⟨w.heap.size, 0, none⟩) (Nat.le_refl _) _).setCell (p := ⟨w.heap.size, 1, none⟩) (Nat.le_refl _) _
      have HO9 : Hid (OwnFs ((w5.setCell ⟨w.heap.size, 0, none⟩ (.slice a1 F.ns.length c1)).setCell ⟨w.heap.size, 1, none⟩ (.slice a2 F.ds.length c2)) w.heap.size ((w5.setCell ⟨w.heap.size, 0, none⟩ (.slice a1 F.ns.length c1)).setCell ⟨w.heap.size, 1, none⟩ (.slice a2 F.ds.length c2)).heap.size (.agg #[.slice a1 F.ns.length c1, .slice a2 F.ds.length c2]) F) := by
        have hO : Only (fun k => k = w.heap.size) w5 ((w5.setCell ⟨w.heap.size, 0, none⟩ (.slice a1 F.ns.length c1)).setCell ⟨w.heap.size, 1, none⟩ (.slice a2 F.ds.length c2)) := (Only.setCell (S := fun k => k = w.heap.size) (Only.refl _ _) (p := ⟨w.heap.size, 0, none⟩) rfl _).setCell (p := ⟨w.heap.size, 1, none⟩) rfl _
        have hz : Q ≤ ((w5.setCell ⟨w.heap.size, 0, none⟩ (.slice a1 F.ns.length c1)).setCell ⟨w.heap.size, 1, none⟩ (.slice a2 F.ds.length c2)).heap.size := by have := HV5.out.lt; simp [World.setCell]; omega
        exact (((HO5.out.only hO (fun k h1 _ e => by omega)).base (by omega)).hi hz)
      have hne : ¬ w.heap.size = Q := by omega
      clear HR5 HB5 HT HO5 HV5 HSM HR
      go_wp2
      refine bodyPost_ret (res_row1 rfl _ _ w.heap.size 26 #[.slice a1 F.ns.length c1, .slice a2 F.ds.length c2] _ rfl HR9.out Tryd.underlying26 rfl Tryd.sizeFs) rfl ?_
      exact ⟨_, by rw [HE.out.1]; rfl, by rw [HE.out.2]; exact HO9.out, HB9.out⟩
    · rw [decide_eq_false hfl]
      have HE : Hid (ofFsOk l = false ∧ ofFs l = zeroF) := by
        show _ ∧ _
        have h1 := HT.out.1
        rw [hq, decide_eq_false hfl, Bool.true_and] at h1
        exact ⟨h1, HT.out.2.2 h1⟩
      have r0 := HR5.out.cell 0
      have r1 := HR5.out.cell 1
      have q0 := HR5.out.frozen 0
      have q1 := HR5.out.frozen 1
      simp at r0 r1
      have HR9 : Hid (Var ((w5.setCell ⟨w.heap.size, 0, none⟩ (.slice none 0 0)).setCell ⟨w.heap.size, 1, none⟩ (.slice none 0 0)) w.heap.size #[.slice none 0 0, .slice none 0 0] 26) := (HR5.out.set 0 (.slice none 0 0)).set 1 (.slice none 0 0)
      have HB9 : Hid (Below w.heap.size w ((w5.setCell ⟨w.heap.size, 0, none⟩ (.slice none 0 0)).setCell ⟨w.heap.size, 1, none⟩ (.slice none 0 0))) := (HB5.out.setCell (p := ⟨w.heap.size, 0, none⟩) (Nat.le_refl _) (.slice none 0 0)).setCell (p := ⟨w.heap.size, 1, none⟩) (Nat.le_refl _) (.slice none 0 0)
      clear HR5 HB5 HT HO5 HV5 HSM HR
      go_wp2
      refine bodyPost_ret (res_row1 rfl _ _ w.heap.size 26 #[.slice none 0 0, .slice none 0 0] _ rfl HR9.out Tryd.underlying26 rfl Tryd.sizeFs) rfl ?_
      exact ⟨_, by rw [HE.out.1]; rfl, by rw [HE.out.2]; exact zeroOwn _ _ _, HB9.out⟩
end Go.Proofs.YtaabcfgjmankgaaDoor
