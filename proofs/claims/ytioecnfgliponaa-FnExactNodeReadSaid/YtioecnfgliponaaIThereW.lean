/-
  Own text: whether a node is there and not free, by the program.
-/
import Derived.Test.YtioecnfgliponaaSDataW
namespace Go.Proofs.Ytioecnfgliponaa
open Go.RowKit

def thP (F : FsD) (i : Int) : Prop := 0 ≤ i ∧ i.toNat < F.ns.length ∧ (ndAt F i).k ≠ 0
noncomputable def thB (F : FsD) (i : Int) : Bool := @decide (thP F i) (Classical.propDecidable _)
theorem thB_yes {F : FsD} {i : Int} (h : thP F i) : thB F i = true := @decide_eq_true _ (Classical.propDecidable _) h
theorem thB_no {F : FsD} {i : Int} (h : ¬ thP F i) : thB F i = false := @decide_eq_false _ (Classical.propDecidable _) h

set_option maxRecDepth 20000 in
set_option maxHeartbeats 4000000 in
theorem implThere (P : Nat) (a : Option Addr) (ca : Nat) (F : FsD) (i : Int) (w : World) (hp0 : w.cell? ⟨P, 0, none⟩ = some (.slice a F.ns.length ca)) (r1 : RdNs w a F.ns) :
    Calls Try.prog 51 #[.pointer (some ⟨P, 0, none⟩), .int .i64 i] w fun e w' => e = .returned (.bool (thB F i)) ∧ w' = w := by
  by_cases hi0 : 0 ≤ i
  · obtain ⟨k, rfl⟩ := natOf hi0
    by_cases hk : k < F.ns.length
    · have HU : Hid (F.ns[k].k ≠ 0 ↔ thP F (k : Int)) := ⟨fun h => ⟨by omega, by simpa using hk, by rw [ndAt_nat hk]; exact h⟩, fun h => by have := h.2.2; rw [ndAt_nat hk] at this; exact this⟩
      have hkI : (k : Int) < (F.ns.length : Int) := by omega
      obtain ⟨g, off, u, rfl, hblt, _, c0, _, _, _, _⟩ := r1.at k hk
      clear r1
      by_cases h0 : F.ns[k].k = 0
      · have HA : Hid (thB F (k : Int) = false) := thB_no fun h => HU.out.2 h h0
        rw [h0] at c0
        clear h0
        go_enter Try.func51, Try.ntmps51
        go_wp2
        go_ret
        exact ⟨by rw [HA.out]; rfl, rfl⟩
      · have HA : Hid (thB F (k : Int) = true) := thB_yes (HU.out.1 h0)
        clear HU
        generalize F.ns[k].k = y at *
        go_enter Try.func51, Try.ntmps51
        go_wp2
        go_ret
        exact ⟨by rw [HA.out]; simp [h0], rfl⟩
    · have HA : Hid (thB F (k : Int) = false) := thB_no fun h => hk (by simpa using h.2.1)
      have hkI : ¬ (k : Int) < (F.ns.length : Int) := by omega
      clear r1
      go_enter Try.func51, Try.ntmps51
      go_wp2
      go_ret
      exact ⟨by rw [HA.out]; rfl, rfl⟩
  · have HA : Hid (thB F i = false) := thB_no fun h => hi0 h.1
    clear r1
    go_enter Try.func51, Try.ntmps51
    go_wp2
    go_ret
    exact ⟨by rw [HA.out]; rfl, rfl⟩
end Go.Proofs.Ytioecnfgliponaa
