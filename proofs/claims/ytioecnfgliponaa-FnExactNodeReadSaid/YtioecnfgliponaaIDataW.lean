/-
  Own text: whether the program takes a node for one that is in use.
-/
import Derived.Test.YtioecnfgliponaaIThereW
import Derived.Test.YtioecnfgliponaaIShapeW
namespace Go.Proofs.Ytioecnfgliponaa
open Go.RowKit

set_option maxRecDepth 20000 in
set_option maxHeartbeats 4000000 in
theorem implUse (P : Nat) (a b : Option Addr) (ca cb : Nat) (F : FsD) (i : Int) (w : World) (hsm : SmF F) (hP : P < w.heap.size) (hp0 : w.cell? ⟨P, 0, none⟩ = some (.slice a F.ns.length ca)) (hp1 : w.cell? ⟨P, 1, none⟩ = some (.slice b F.ds.length cb)) (hr : RdFs w (.agg #[.slice a F.ns.length ca, .slice b F.ds.length cb]) F) :
    Calls Try.prog 26 #[.pointer (some ⟨P, 0, none⟩), .int .i64 i] w fun e w' => e = .returned (.bool (usB F i)) ∧ Below w.heap.size w w' := by
  have r1 : RdNs w a F.ns := by
    obtain ⟨a', ca', b', cb', he, _, r1, _⟩ := hr
    injection he with he
    simp at he
    obtain ⟨⟨rfl, rfl⟩, _⟩ := he
    exact r1
  have HSH : Hid (Calls Try.prog 46 #[.agg #[.slice a F.ns.length ca, .slice b F.ds.length cb]] w fun e w' => e = .returned (.bool (shOk F)) ∧ Below w.heap.size w w') := implShapeOk _ F w hsm hr
  have HV : Hid (∀ W, Below w.heap.size w W → W.cell? ⟨P, 0, none⟩ = some (.slice a F.ns.length ca)) := fun W h => (h.cell hP).trans hp0
  have HNS : Hid (∀ W, Below w.heap.size w W → RdNs W a F.ns) := fun W h => r1.below h (Nat.le_refl _)
  by_cases hS : ShapeP F
  · have HT : Hid (∀ W, Below w.heap.size w W → Calls Try.prog 51 #[.pointer (some ⟨P, 0, none⟩), .int .i64 i] W fun e w' => e = .returned (.bool (thB F i)) ∧ w' = W) := fun W h => implThere P a ca F i W (HV.out W h) (HNS.out W h)
    have HE : Hid (usB F i = thB F i) := by
      show _ = _
      by_cases hu : UsP F i
      · rw [usB_yes hu, thB_yes ⟨hu.2.1, hu.2.2.1, hu.2.2.2⟩]
      · rw [usB_no hu, thB_no fun h => hu ⟨hS, h.1, h.2.1, h.2.2⟩]
    have HSO : shOk F = true := shOk_yes hS
    rw [HSO] at HSH
    clear HSO hS r1 hr hsm HNS
    go_enter Try.func26, Try.ntmps26
    go_wp2_with fail
    refine HSH.out.mono ?_
    rintro e w1 ⟨rfl, hb1⟩
    go_wp2_with fail
    refine (HT.out w1 hb1).mono ?_
    rintro e w2 ⟨rfl, hx⟩
    subst hx
    go_wp2
    go_ret
    exact ⟨by rw [HE.out]; rfl, hb1⟩
  · have HSO : shOk F = false := shOk_no hS
    have HA : Hid (usB F i = false) := usB_no fun h => hS h.1
    rw [HSO] at HSH
    clear hS HSO HNS r1 hr hsm
    go_enter Try.func26, Try.ntmps26
    go_wp2_with fail
    refine HSH.out.mono ?_
    rintro e w1 ⟨rfl, hb1⟩
    clear HSH HV
    go_wp2
    go_ret
    exact ⟨by rw [HA.out]; rfl, hb1⟩
end Go.Proofs.Ytioecnfgliponaa
