/-
  Own text: whether the program takes a node for one that is in use.
-/
import Derived.Test.YtbameedfnicnhaaSDataW
import Derived.Test.YtbameedfnicnhaaIShapeW
namespace Go.Proofs.Ytbameedfnicnhaa
open Go.RowKit

set_option maxRecDepth 20000 in
set_option maxHeartbeats 4000000 in
theorem implUse (P : Nat) (a b : Option Addr) (ca cb : Nat) (F : FsD) (i : Int) (w : World) (hsm : SmF F) (hP : P < w.heap.size) (hp0 : w.cell? ⟨P, 0, none⟩ = some (.slice a F.ns.length ca)) (hp1 : w.cell? ⟨P, 1, none⟩ = some (.slice b F.ds.length cb)) (hr : RdFs w (.agg #[.slice a F.ns.length ca, .slice b F.ds.length cb]) F) :
    Calls Try.prog 36 #[.pointer (some ⟨P, 0, none⟩), .int .i64 i] w fun e w' => e = .returned (.bool (usB F i)) ∧ Below w.heap.size w w' := by
  have r1 : RdNs w a F.ns := by
    obtain ⟨a', ca', b', cb', he, _, r1, _⟩ := hr
    injection he with he
    simp at he
    obtain ⟨⟨rfl, rfl⟩, _⟩ := he
    exact r1
  have HSH : Hid (Calls Try.prog 15 #[.agg #[.slice a F.ns.length ca, .slice b F.ds.length cb]] w fun e w' => e = .returned (.bool (shOk F)) ∧ Below w.heap.size w w') := implShapeOk _ F w hsm hr
  have hs1 := hsm.1
  have HV : Hid (∀ W, Below w.heap.size w W → W.cell? ⟨P, 0, none⟩ = some (.slice a F.ns.length ca)) := fun W h => (h.cell hP).trans hp0
  have HNS : Hid (∀ W, Below w.heap.size w W → RdNs W a F.ns) := fun W h => r1.below h (Nat.le_refl _)
  clear r1 hr hsm
  by_cases hS : ShapeP F
  · have HSO : shOk F = true := shOk_yes hS
    rw [HSO] at HSH
    by_cases hi0 : 0 ≤ i
    · obtain ⟨k, rfl⟩ := natOf hi0
      by_cases hk : k < F.ns.length
      · have HU : Hid (F.ns[k].k ≠ 0 ↔ UsP F (k : Int)) := ⟨fun h => ⟨hS, by omega, by simpa using hk, by rw [ndAt_nat hk]; exact h⟩, fun h => by have := h.2.2.2; rw [ndAt_nat hk] at this; exact this⟩
        have hkI : (k : Int) < (F.ns.length : Int) := by omega
        clear HSO hS
        go_enter Try.func36, Try.ntmps36
        go_wp2_with fail
        refine HSH.out.mono ?_
        rintro e w1 ⟨rfl, hb1⟩
        have y0 := HV.out w1 hb1
        obtain ⟨g, off, u, rfl, hblt, _, c0, _, _, _, _⟩ := (HNS.out w1 hb1).at k hk
        clear HSH HV HNS
        by_cases h0 : F.ns[k].k = 0
        · have HA : Hid (usB F (k : Int) = false) := usB_no fun h => HU.out.2 h h0
          rw [h0] at c0
          clear h0
          go_wp2
          go_ret
          exact ⟨by rw [HA.out]; rfl, hb1⟩
        · have HA : Hid (usB F (k : Int) = true) := usB_yes (HU.out.1 h0)
          clear HU
          generalize F.ns[k].k = y at *
          go_wp2
          go_ret
          exact ⟨by rw [HA.out]; simp [h0], hb1⟩
      · have HA : Hid (usB F (k : Int) = false) := usB_no fun h => hk (by simpa using h.2.2.1)
        have hkI : ¬ (k : Int) < (F.ns.length : Int) := by omega
        clear HSO hS HNS
        go_enter Try.func36, Try.ntmps36
        go_wp2_with fail
        refine HSH.out.mono ?_
        rintro e w1 ⟨rfl, hb1⟩
        have y0 := HV.out w1 hb1
        clear HSH HV
        go_wp2
        go_ret
        exact ⟨by rw [HA.out]; rfl, hb1⟩
    · have HA : Hid (usB F i = false) := usB_no fun h => hi0 h.2.1
      clear HSO hS HNS
      go_enter Try.func36, Try.ntmps36
      go_wp2_with fail
      refine HSH.out.mono ?_
      rintro e w1 ⟨rfl, hb1⟩
      have y0 := HV.out w1 hb1
      clear HSH HV
      go_wp2
      go_ret
      exact ⟨by rw [HA.out]; rfl, hb1⟩
  · have HSO : shOk F = false := shOk_no hS
    have HA : Hid (usB F i = false) := usB_no fun h => hS h.1
    rw [HSO] at HSH
    clear hS HSO HNS
    go_enter Try.func36, Try.ntmps36
    go_wp2_with fail
    refine HSH.out.mono ?_
    rintro e w1 ⟨rfl, hb1⟩
    have y0 := HV.out w1 hb1
    clear HSH HV
    go_wp2
    go_ret
    exact ⟨by rw [HA.out]; rfl, hb1⟩
end Go.Proofs.Ytbameedfnicnhaa
