/-
  Own text: where the number ends that begins at a place; a panic with the program's own error, where it does not.
-/
import Derived.Test.YtogpgocldgdeaaaDoorNumW
import Derived.Test.YtogpgocldgdeaaaDoorGetBase
import Derived.Test.YtogpgocldgdeaaaDoorErrW
import Derived.WalkLawsBesides
namespace Go.Proofs.YtogpgocldgdeaaaDoor
open Go.RowKit

/-- The panic that is meant to be recovered. -/
def thePanic (a : Addr) : Ending := .panicked [{ v := .iface 86 (.pointer (some a)), recovered := false }]

theorem max_len : (putNum 2147483647).length = 5 := by decide

set_option maxRecDepth 20000 in
set_option maxHeartbeats 400000 in
theorem endOut (x : Option Addr) (cap len : Nat) (at' : Int) (a : Addr) (w : World) (h : at' < 0 ∨ (len : Int) ≤ at') (hg : w.cell? ⟨errG, 0, none⟩ = some (.iface 86 (.pointer (some a)))) :
    Calls Tryd.prog 60 #[.slice x len cap, .int .i64 at'] w fun e w' => e = thePanic a ∧ w' = w := by
  unfold errG at hg
  unfold thePanic
  by_cases hn : at' < 0
  · go_enter Tryd.func60, Tryd.ntmps60
    go_wp2
    exact ⟨rfl, rfl, rfl⟩
  · have hge : (len : Int) ≤ at' := by omega
    clear h
    go_enter Tryd.func60, Tryd.ntmps60
    go_wp2
    exact ⟨rfl, rfl, rfl⟩

theorem noStop {l : List Int} {p M : Nat} (hM : M = 5 ∨ p + M = l.length) (hall : ∀ j, j < M → 128 ≤ l.getD (p + j) 0) : ∀ k, ¬ Stop l p k := by
  rintro k ⟨h1, h2, h3, _⟩
  have := hall k (by omega)
  omega

set_option maxRecDepth 20000 in
set_option maxHeartbeats 400000 in
theorem endIn (b off cap : Nat) (l : List Int) (p : Nat) (a : Addr) (w : World) (hl : l.length ≤ 1048581) (hu : U8 l) (hcap : l.length ≤ cap) (hm : cap ≤ maxLen) (hp : p < l.length) (hb : b < w.heap.size)
    (hc : ∀ i, i < l.length → w.cell? ⟨b, off + i, none⟩ = some (.int .u8 (l.getD i 0))) (hgl : errG < w.heap.size) (hg : w.cell? ⟨errG, 0, none⟩ = some (.iface 86 (.pointer (some a)))) :
    Calls Tryd.prog 60 #[.slice (some ⟨b, off, none⟩) l.length cap, .int .i64 p] w fun e w' => ((∃ k, Stop l p k ∧ e = .returned (.int .i64 ((p + k + 1 : Nat) : Int))) ∨ ((∀ k, ¬ Stop l p k) ∧ e = thePanic a)) ∧ Below w.heap.size w w' := by
  unfold maxLen at hm
  have hml := max_len
  have HC : Hid (∀ i, i < l.length → w.cell? ⟨b, off + i, none⟩ = some (.int .u8 (l.getD i 0))) := hc
  have HG : Hid (w.cell? ⟨errG, 0, none⟩ = some (.iface 86 (.pointer (some a)))) := hg
  have HU : Hid (U8 l) := hu
  clear hc hg hu
  have hpn : ¬ ((p : Int) < 0) := by omega
  by_cases hbig : l.length ≤ p + 5
  · have hge : (l.length : Int) ≤ (p : Int) + 5 := by omega
    obtain ⟨M, hM⟩ : ∃ M, l.length = p + M := ⟨l.length - p, by omega⟩
    have HM : Hid (l.length = p + M) := hM
    have e1 : l.length - p = M := by omega
    have hM5 : M ≤ 5 := by omega
    clear hM
    go_enter Tryd.func60, Tryd.ntmps60
    go_wp2_with (go_at_call 35; refine (implPutNum 2147483647 _).mono ?_; rintro e w1 ⟨v1, rfl, ho1, hb1⟩; obtain ⟨a1, c1, rfl, hn1, hr1⟩ := own_rd ho1)
    clear ho1 hr1 hn1 e1
    go_loop [27] (fun i => ∃ k : Nat, k ≤ M ∧ i = .int .i64 k ∧ Hid (∀ j, j < k → 128 ≤ l.getD (p + j) 0)) (fun i => M - (intOf i).toNat)
    case atStart => exact ⟨0, Nat.zero_le _, rfl, fun j hj => by omega⟩
    case round =>
      obtain ⟨k, hk, rfl, HA⟩ := hrel
      by_cases hkM : k < M
      · have hcell : w1.cell? ⟨b, off + p + k, none⟩ = some (.int .u8 (l.getD (p + k) 0)) := by
          rw [hb1.cell (by exact hb), Nat.add_assoc]; exact HC.out (p + k) (by have := HM.out; omega)
        have hub := HU.out.at (p + k)
        have HD : Hid (∀ d, d = l.getD (p + k) 0 → (d < 128 → Stop l p k) ∧ (128 ≤ d → ∀ j, j < k + 1 → 128 ≤ l.getD (p + j) 0)) := by
          rintro d rfl
          exact ⟨fun h => ⟨by omega, by have := HM.out; omega, h, HA.out⟩, fun h j hj => by
            rcases Nat.lt_succ_iff_lt_or_eq.1 hj with h' | h'
            · exact HA.out j h'
            · subst h'; exact h⟩
        generalize hd : l.getD (p + k) 0 = d at *
        have HD' := HD.out d rfl
        clear hd HD
        have H1 : Hid (d < 128 → Stop l p k) := HD'.1
        have H2 : Hid (128 ≤ d → ∀ j, j < k + 1 → 128 ≤ l.getD (p + j) 0) := HD'.2
        clear HD' HA
        by_cases hlow : d < 128
        · go_wp2
          go_ret
          exact ⟨.inl ⟨k, H1.out hlow, by go_num⟩, hb1⟩
        · go_wp2
          go_round
          case rel => exact ⟨k + 1, by omega, by go_num, H2.out (by omega)⟩
          case measure => simp [intOf]; omega
      · obtain rfl : k = M := by omega
        have hge2 : w1.cell? ⟨errG, 0, none⟩ = some (.iface 86 (.pointer (some a))) := (hb1.cell (by exact hgl)).trans HG.out
        unfold errG at hge2
        go_wp2
        exact ⟨rfl, .inr ⟨noStop (.inr HM.out.symm) HA.out, rfl⟩, hb1⟩
  · have hge : (p : Int) + 5 < (l.length : Int) := by omega
    have e1 : ((p : Int) + 5).toNat - p = 5 := by omega
    go_enter Tryd.func60, Tryd.ntmps60
    go_wp2_with (go_at_call 35; refine (implPutNum 2147483647 _).mono ?_; rintro e w1 ⟨v1, rfl, ho1, hb1⟩; obtain ⟨a1, c1, rfl, hn1, hr1⟩ := own_rd ho1)
    clear ho1 hr1 hn1
    go_loop [27] (fun i => ∃ k : Nat, k ≤ 5 ∧ i = .int .i64 k ∧ Hid (∀ j, j < k → 128 ≤ l.getD (p + j) 0)) (fun i => 5 - (intOf i).toNat)
    case atStart => exact ⟨0, Nat.zero_le _, rfl, fun j hj => by omega⟩
    case round =>
      obtain ⟨k, hk, rfl, HA⟩ := hrel
      by_cases hkM : k < 5
      · have hcell : w1.cell? ⟨b, off + p + k, none⟩ = some (.int .u8 (l.getD (p + k) 0)) := by
          rw [hb1.cell (by exact hb), Nat.add_assoc]; exact HC.out (p + k) (by omega)
        have hub := HU.out.at (p + k)
        have HD : Hid (∀ d, d = l.getD (p + k) 0 → (d < 128 → Stop l p k) ∧ (128 ≤ d → ∀ j, j < k + 1 → 128 ≤ l.getD (p + j) 0)) := by
          rintro d rfl
          exact ⟨fun h => ⟨by omega, by omega, h, HA.out⟩, fun h j hj => by
            rcases Nat.lt_succ_iff_lt_or_eq.1 hj with h' | h'
            · exact HA.out j h'
            · subst h'; exact h⟩
        generalize hd : l.getD (p + k) 0 = d at *
        have HD' := HD.out d rfl
        clear hd HD
        have H1 : Hid (d < 128 → Stop l p k) := HD'.1
        have H2 : Hid (128 ≤ d → ∀ j, j < k + 1 → 128 ≤ l.getD (p + j) 0) := HD'.2
        clear HD' HA
        by_cases hlow : d < 128
        · go_wp2
          go_ret
          exact ⟨.inl ⟨k, H1.out hlow, by go_num⟩, hb1⟩
        · go_wp2
          go_round
          case rel => exact ⟨k + 1, by omega, by go_num, H2.out (by omega)⟩
          case measure => simp [intOf]; omega
      · obtain rfl : k = 5 := by omega
        have hge2 : w1.cell? ⟨errG, 0, none⟩ = some (.iface 86 (.pointer (some a))) := (hb1.cell (by exact hgl)).trans HG.out
        unfold errG at hge2
        go_wp2
        exact ⟨rfl, .inr ⟨noStop (.inl rfl) HA.out, rfl⟩, hb1⟩
end Go.Proofs.YtogpgocldgdeaaaDoor
