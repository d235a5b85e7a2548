/-
  Own text: what the program reads of a node.
-/
import Derived.Test.YtioecnfgliponaaIDataW
import Derived.Test.YtioecnfgliponaaIHeldW
namespace Go.Proofs.Ytioecnfgliponaa
open Go.RowKit

set_option maxRecDepth 20000 in
set_option maxHeartbeats 4000000 in
theorem implNodeRead (v : Value) (F : FsD) (i : Int) (w : World) (hsm : SmF F) (hr : RdFs w v F) :
    Calls Try.prog 10 #[v, .int .i64 i] w fun e w' => e = .returned (.tuple #[.string (ndRead F i), .bool (usB F i)]) ∧ Below w.heap.size w w' := by
  obtain ⟨a, ca, b, cb, rfl, hq, r1, r2⟩ := hr
  have HRF : Hid (∀ W, Below w.heap.size w W → RdFs W (.agg #[.slice a F.ns.length ca, .slice b F.ds.length cb]) F) := fun W h => RdFs.below ⟨a, ca, b, cb, rfl, hq, r1, r2⟩ h (Nat.le_refl _)
  have hV := Var.made w #[.slice a F.ns.length ca, .slice b F.ds.length cb] 31
  have hz0 : (w.alloc (.cells #[.slice a F.ns.length ca, .slice b F.ds.length cb] 31)).heap.size = w.heap.size + 1 := by simp
  have HI0 : Hid (∀ k, Calls Try.prog 26 #[.pointer (some ⟨w.heap.size, 0, none⟩), .int .i64 k] (w.alloc (.cells #[.slice a F.ns.length ca, .slice b F.ds.length cb] 31)) fun e w' => e = .returned (.bool (usB F k)) ∧ Below (w.heap.size + 1) (w.alloc (.cells #[.slice a F.ns.length ca, .slice b F.ds.length cb] 31)) w') := by
    intro k
    have := implUse w.heap.size a b ca cb F k (w.alloc (.cells #[.slice a F.ns.length ca, .slice b F.ds.length cb] 31)) hsm (by simp) ((hV.cell 0).trans rfl) ((hV.cell 1).trans rfl) (HRF.out _ (below1 _ _))
    rw [hz0] at this
    exact this
  have HV : Hid (∀ W, Below (w.heap.size + 1) (w.alloc (.cells #[.slice a F.ns.length ca, .slice b F.ds.length cb] 31)) W → W.cell? ⟨w.heap.size, 0, none⟩ = some (.slice a F.ns.length ca) ∧ W.cell? ⟨w.heap.size, 1, none⟩ = some (.slice b F.ds.length cb) ∧ Below w.heap.size w W) := fun W h => ⟨by have := (hV.below h (by omega)).cell 0; simpa using this, by have := (hV.below h (by omega)).cell 1; simpa using this, (below1 w _).trans (h.mono (by omega))⟩
  clear hV hz0
  by_cases hu : UsP F i
  · have HA : Hid (usB F i = true) := usB_yes hu
    have HRD : Hid (ndRead F i = catD F.ds (ndAt F i).b) := by show _ = _; unfold ndRead; rw [usB_yes hu]; rfl
    obtain ⟨k, rfl⟩ := natOf hu.2.1
    have HI2 : Hid (Calls Try.prog 26 #[.pointer (some ⟨w.heap.size, 0, none⟩), .int .i64 (k : Nat)] (w.alloc (.cells #[.slice a F.ns.length ca, .slice b F.ds.length cb] 31)) fun e w' => e = .returned (.bool true) ∧ Below (w.heap.size + 1) (w.alloc (.cells #[.slice a F.ns.length ca, .slice b F.ds.length cb] 31)) w') := by rw [← HA.out]; exact HI0.out (k : Int)
    have HL : Hid (∀ W, Below (w.heap.size + 1) (w.alloc (.cells #[.slice a F.ns.length ca, .slice b F.ds.length cb] 31)) W → Calls Try.prog 27 #[.pointer (some ⟨w.heap.size, 0, none⟩), .int .i64 (k : Nat)] W fun e w' => e = .returned (.string (catD F.ds (ndAt F (k : Int)).b)) ∧ Below W.heap.size W w') := by
      intro W hb
      obtain ⟨v0, v1, hB⟩ := HV.out W hb
      have hz : w.heap.size < W.heap.size := by have := hb.size; simp at this; omega
      exact implHeld w.heap.size a b ca cb F k W hu hz v0 v1 (r1.below hB (Nat.le_refl _)) (r2.below hB (Nat.le_refl _))
    clear hu r1 r2 HI0 HRF hq
    go_enter Try.func10, Try.ntmps10
    go_wp2_with fail
    refine HI2.out.mono ?_
    rintro e w1 ⟨rfl, hb1⟩
    have hB1 := (HV.out w1 hb1).2.2
    go_wp2_with fail
    refine (HL.out w1 hb1).mono ?_
    rintro e w2 ⟨rfl, hb2⟩
    go_wp2
    go_ret2
    exact ⟨by rw [HA.out, HRD.out]; rfl, hB1.trans (hb2.mono hB1.size)⟩
  · have HA : Hid (usB F i = false) := usB_no hu
    have HRD : Hid (ndRead F i = ⟨#[]⟩) := by show _ = _; unfold ndRead; rw [usB_no hu]; rfl
    have HI2 : Hid (Calls Try.prog 26 #[.pointer (some ⟨w.heap.size, 0, none⟩), .int .i64 i] (w.alloc (.cells #[.slice a F.ns.length ca, .slice b F.ds.length cb] 31)) fun e w' => e = .returned (.bool false) ∧ Below (w.heap.size + 1) (w.alloc (.cells #[.slice a F.ns.length ca, .slice b F.ds.length cb] 31)) w') := by rw [← HA.out]; exact HI0.out i
    clear hu HI0 HRF
    go_enter Try.func10, Try.ntmps10
    go_wp2_with fail
    refine HI2.out.mono ?_
    rintro e w1 ⟨rfl, hb1⟩
    have hB1 := (HV.out w1 hb1).2.2
    clear hb1 HI2
    go_wp2
    go_ret2
    exact ⟨by rw [HA.out, HRD.out]; rfl, hB1⟩
end Go.Proofs.Ytioecnfgliponaa
