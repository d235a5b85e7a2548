/-
  Own text: a flush, as the program does it: the fall at which nothing is lost.
-/
import Derived.Test.YtlidmnehpcodkaaDoorIWriteW
import Derived.Test.YtlidmnehpcodkaaDoorRepW
import Derived.Test.YtlidmnehpcodkaaDoorBunC
namespace Go.Proofs.YtlidmnehpcodkaaDoor
open Go.RowKit

set_option maxRecDepth 20000 in
set_option maxHeartbeats 2000000 in
theorem implFlush (v : Value) (d : DiskD) (w : World) (hl : d.1.length ≤ 4194303 ∧ d.2.length ≤ 4194303) (hs : SmD d) (hr : RdD w v d) :
    Calls Tryd.prog 62 #[v] w fun e w' => ∃ v', e = .returned v' ∧ OwnD w' w.heap.size v' (dkFlush d) ∧ Below w.heap.size w w' := by
  have HRD : Hid (∀ W, Below w.heap.size w W → RdD W v d) := fun W h => hr.below h (Nat.le_refl _)
  obtain ⟨a, ca, b, cb, rfl, _, _⟩ := hr
  obtain ⟨hl1, hl2⟩ := hl
  have HFA : Hid (∀ W q qc, Below w.heap.size w W → RdF encB 1 W q (List.replicate d.2.length true) → Calls Tryd.prog 19 #[.agg #[.slice a d.1.length ca, .slice b d.2.length cb], .slice q d.2.length qc] W fun e w' => ∃ v', e = .returned v' ∧ OwnD w' W.heap.size v' (dkFlush d) ∧ Below W.heap.size W w') := by
    intro W q qc h hq
    have h := implFall _ d q qc (List.replicate d.2.length true) W ⟨by omega, by omega⟩ hs (HRD.out W h) hq
    rw [fall_all, List.length_replicate] at h
    exact h
  have hX0 : Var ((w.alloc (.cells #[.slice a d.1.length ca, .slice b d.2.length cb] 27)).alloc (.cells #[.slice none 0 0, .slice none 0 0] 27)) w.heap.size #[.slice a d.1.length ca, .slice b d.2.length cb] 27 := (Var.made w _ _).alloc _
  have hR0 : Var ((w.alloc (.cells #[.slice a d.1.length ca, .slice b d.2.length cb] 27)).alloc (.cells #[.slice none 0 0, .slice none 0 0] 27)) (w.heap.size + 1) #[.slice none 0 0, .slice none 0 0] 27 := Var.made2 w _ _ _
  have hb0 := below2 w (.cells #[.slice a d.1.length ca, .slice b d.2.length cb] 27) (.cells #[.slice none 0 0, .slice none 0 0] 27)
  clear hs
  go_enter Tryd.func62, Tryd.ntmps62
  go_wp2
  generalize (w.alloc (.cells #[.slice a d.1.length ca, .slice b d.2.length cb] 27)).alloc (.cells #[.slice none 0 0, .slice none 0 0] 27) = W0 at *
  have HB0 : Hid (Below w.heap.size w (W0.alloc (.cells #[.bool true] 4))) := hb0.alloc hb0.size _
  have HX0 : Hid (Var (W0.alloc (.cells #[.bool true] 4)) w.heap.size #[.slice a d.1.length ca, .slice b d.2.length cb] 27) := hX0.alloc _
  have HR0 : Hid (Var (W0.alloc (.cells #[.bool true] 4)) (w.heap.size + 1) #[.slice none 0 0, .slice none 0 0] 27) := hR0.alloc _
  have HT0 : Hid ((W0.alloc (.cells #[.bool true] 4)).cell? ⟨W0.heap.size, 0, none⟩ = some (.bool true)) := (Var.made W0 #[.bool true] 4).cell 0
  have hx0 : W0.cell? ⟨w.heap.size, 0, none⟩ = some (.slice a d.1.length ca) := hX0.cell 0
  have hx1 : W0.cell? ⟨w.heap.size, 1, none⟩ = some (.slice b d.2.length cb) := hX0.cell 1
  have hy0 : (W0.alloc (.cells #[.bool true] 4)).cell? ⟨w.heap.size, 0, none⟩ = some (.slice a d.1.length ca) := HX0.out.cell 0
  have hy1 : (W0.alloc (.cells #[.bool true] 4)).cell? ⟨w.heap.size, 1, none⟩ = some (.slice b d.2.length cb) := HX0.out.cell 1
  clear hX0 hR0 hb0
  go_region_law (first
    | (go_simp
       go_at_call 102
       refine (repT W0.heap.size d.2.length (W0.alloc (.cells #[.bool true] 4)).drew (by omega) (by exact HT0.out)).mono ?_
       rintro e w1 ⟨q, qc, rfl, hq1, hb1'⟩
       have hb1 : Below (W0.alloc (.cells #[.bool true] 4)).heap.size (W0.alloc (.cells #[.bool true] 4)) w1 := (Below.refl _ _).drew.trans hb1'
       have HX1 : Hid (Var w1 w.heap.size #[.slice a d.1.length ca, .slice b d.2.length cb] 27) := HX0.out.new hb1
       have HR1 : Hid (Var w1 (w.heap.size + 1) #[.slice none 0 0, .slice none 0 0] 27) := HR0.out.new hb1
       have HB1 : Hid (Below w.heap.size w w1) := HB0.out.trans (hb1.mono HB0.out.size)
       have HQ1 : Hid (RdF encB 1 w1 q (List.replicate d.2.length true)) := hq1
       have hz0 : w1.cell? ⟨w.heap.size, 0, none⟩ = some (.slice a d.1.length ca) := HX1.out.cell 0
       have hz1 : w1.cell? ⟨w.heap.size, 1, none⟩ = some (.slice b d.2.length cb) := HX1.out.cell 1
       clear hq1 hb1' hb1)
    | (go_simp
       go_at_call 19
       refine (HFA.out w1 q qc HB1.out HQ1.out).mono ?_
       rintro e w2 ⟨v2, rfl, hO2, hb2⟩
       obtain ⟨a2, c2, b2, d2, rfl⟩ := hO2.shape
       have HR2 : Hid (Var w2 (w.heap.size + 1) #[.slice none 0 0, .slice none 0 0] 27) := HR1.out.new hb2
       have hb02 : Below w.heap.size w w2 := HB1.out.trans (hb2.mono HB1.out.size)
       have hlt := HR1.out.lt
       have HO10 : Hid (OwnD ((w2.setCell ⟨w.heap.size + 1, 0, none⟩ (.slice a2 (dkFlush d).1.length c2)).setCell ⟨w.heap.size + 1, 1, none⟩ (.slice b2 (dkFlush d).2.length d2)) w.heap.size (.agg #[.slice a2 (dkFlush d).1.length c2, .slice b2 (dkFlush d).2.length d2]) (dkFlush d)) := ((hO2.setVar HR2.out 0 _).setVar (HR2.out.set 0 _) 1 _).base (by omega)
       have HR10 : Hid (Var ((w2.setCell ⟨w.heap.size + 1, 0, none⟩ (.slice a2 (dkFlush d).1.length c2)).setCell ⟨w.heap.size + 1, 1, none⟩ (.slice b2 (dkFlush d).2.length d2)) (w.heap.size + 1) #[.slice a2 (dkFlush d).1.length c2, .slice b2 (dkFlush d).2.length d2] 27) := HR2.out.two _ _
       have HB10 : Hid (Below w.heap.size w ((w2.setCell ⟨w.heap.size + 1, 0, none⟩ (.slice a2 (dkFlush d).1.length c2)).setCell ⟨w.heap.size + 1, 1, none⟩ (.slice b2 (dkFlush d).2.length d2))) := (hb02.setCell (p := ⟨w.heap.size + 1, 0, none⟩) (by show _ ≤ w.heap.size + 1; omega) _).setCell (p := ⟨w.heap.size + 1, 1, none⟩) (by show _ ≤ w.heap.size + 1; omega) _
       have hq0 := HR2.out.cell 0
       have hq1 := (HR2.out.set 0 (.slice a2 (dkFlush d).1.length c2)).cell 1
       have hk0 := HR2.out.frozen 0
       have hk1 := HR2.out.frozen 1
       simp at hq0 hq1
       clear hO2 hb2 hb02 HR2 hlt))
  all_goals
    go_simp
    go_wp2
    refine bodyPost_ret (results_cell_row rfl _ _ (w.heap.size + 1) 27 #[.slice a2 (dkFlush d).1.length c2, .slice b2 (dkFlush d).2.length d2] (0, 0) _ rfl HR10.out Tryd.underlying27 rfl Tryd.sizeDisk) rfl ?_
    exact ⟨_, rfl, HO10.out, HB10.out⟩
end Go.Proofs.YtlidmnehpcodkaaDoor
