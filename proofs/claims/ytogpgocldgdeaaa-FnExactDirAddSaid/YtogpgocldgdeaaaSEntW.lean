/-
  Own text: entries as the other program finds and copies them.
-/
import Derived.Test.YtogpgocldgdeaaaEntMath
import Derived.Test.YtogpgocldgdeaaaAppSrc
namespace Go.Proofs.Ytogpgocldgdeaaa
open Go.RowKit

theorem strEq {a b : ByteArray} : (a.toList == b.toList) = decide (a = b) := by
  by_cases h : a = b
  · subst h; simp
  · rw [decide_eq_false h, beq_eq_false_iff_ne]
    intro h2
    apply h
    rw [ByteArray.toList_eq, ByteArray.toList_eq] at h2
    obtain ⟨⟨x⟩⟩ := a
    obtain ⟨⟨y⟩⟩ := b
    simp at h2
    rw [h2]

set_option maxRecDepth 20000 in
set_option maxHeartbeats 1000000 in
theorem specDirFind (a : Option Addr) (c : Nat) (l : List EntD) (s : ByteArray) (w : World) (hl : l.length ≤ 4194304) (hr : RdF encN 2 w a l) :
    Calls Try.prog 15 #[.slice a l.length c, .string s] w fun e w' => e = .returned (.int .i64 (enFind l s)) ∧ w' = w := by
  have HCS : Hid (∀ k (hk : k < l.length), ∃ b off, a = some ⟨b, off, none⟩ ∧ b < w.heap.size ∧ ∀ j, j < 2 → w.cell? ⟨b, off + k * 2 + j, none⟩ = (encN l[k])[j]?) := fun k hk => hr.at k hk
  have HAT : Hid (∀ k (hk : k < l.length), (l[k]).1 = s → (∀ j (hj : j < l.length), j < k → (l[j]).1 ≠ s) → enFind l s = (l[k]).2) := fun k hk h0 h => enFind_at hk h0 h
  have HNO : Hid ((∀ j (hj : j < l.length), (l[j]).1 ≠ s) → enFind l s = -1) := fun h => enFind_none h
  clear hr
  go_enter Try.func15, Try.ntmps15
  go_wp2
  go_loop [5] (fun i => ∃ k : Nat, k ≤ l.length ∧ i = .int .i64 k ∧ Hid (∀ j (hj : j < l.length), j < k → (l[j]).1 ≠ s)) (fun i => l.length - (intOf i).toNat)
  case atStart => exact ⟨0, Nat.zero_le _, rfl, fun j _ h => by omega⟩
  case round =>
    obtain ⟨k, hk, rfl, HL⟩ := hrel
    by_cases hlt : k < l.length
    · obtain ⟨b, off, rfl, hblt, hcell⟩ := HCS.out k hlt
      have hc0 : w.cell? ⟨b, off + k * 2, none⟩ = some (.string l[k].1) := hcell 0 (by omega)
      have hc1 : w.cell? ⟨b, off + k * 2 + 1, none⟩ = some (.int .i64 l[k].2) := hcell 1 (by omega)
      by_cases h0 : (l[k]).1 = s
      · have HF : Hid (enFind l s = (l[k]).2) := HAT.out k hlt h0 HL.out
        have hes : ((l[k]).1.toList == s.toList) = true := by rw [strEq]; exact decide_eq_true h0
        clear hcell h0 HL
        generalize (l[k]).1 = t at *
        generalize (l[k]).2 = n at *
        go_wp2
        go_ret
        exact ⟨by rw [HF.out]; rfl, rfl⟩
      · have HL2 : Hid (∀ j (hj : j < l.length), j < k + 1 → (l[j]).1 ≠ s) := fun j hj hjk => by
          by_cases e : j = k
          · subst e; exact h0
          · exact HL.out j hj (by omega)
        have hes : ((l[k]).1.toList == s.toList) = false := by rw [strEq]; exact decide_eq_false h0
        clear hcell h0 HL
        generalize (l[k]).1 = t at *
        generalize (l[k]).2 = n at *
        go_wp2
        go_round
        case rel => exact ⟨k + 1, by omega, by go_num, HL2⟩
        case measure => simp [intOf]; omega
    · obtain rfl : k = l.length := by omega
      have HF : Hid (enFind l s = -1) := HNO.out fun j hj => HL.out j hj hj
      go_wp2
      go_ret
      exact ⟨by rw [HF.out]; rfl, rfl⟩

theorem srcEn {w : World} {a : Option Addr} {l : List EntD} (cap : Nat) (h : RdF encN 2 w a l) : Src Try.prog 2 25 (.slice a l.length cap) l.length (l.flatMap encN) w := by
  rcases h with rfl | ⟨b, off, rfl, hb, hc⟩
  · cases a with
    | none => exact Src.ofNil w Try.underlying25 cap
    | some x => exact Src.ofSlice w Try.underlying25 x 0 cap [] rfl (fun j u h => by simp at h) (fun u hu => by simp at hu)
  · refine Src.ofSlice w Try.underlying25 ⟨b, off, none⟩ l.length cap (l.flatMap encN) (flat_len_c encN_len l) (fun j u hj => ?_) (fun u hu => ?_)
    · have hjl : j < l.length * 2 := by
        rcases Nat.lt_or_ge j (l.flatMap encN).length with h | h
        · rw [flat_len_c encN_len] at h; exact h
        · rw [List.getElem?_eq_none h] at hj; cases hj
      have e := flat_get encN_len l (j / 2) (by omega) (j % 2) (by omega)
      rw [show j / 2 * 2 + j % 2 = j by omega, hj] at e
      rw [Go.WideShapes.add_plain]
      have := hc (j / 2) (by omega) (j % 2) (by omega)
      rw [show off + j / 2 * 2 + j % 2 = off + j by omega] at this
      rw [this, ← e]
    · obtain ⟨p, _, hp⟩ := List.mem_flatMap.1 hu
      simp [encN] at hp
      rcases hp with rfl | rfl <;> rfl

set_option maxRecDepth 20000 in
set_option maxHeartbeats 400000 in
theorem copyEn (a : Option Addr) (cap : Nat) (l : List EntD) (w : World) (hl : l.length ≤ 4194305) (hr : RdF encN 2 w a l) :
    Calls Try.prog 36 #[.slice a l.length cap] w fun e w' => ∃ v, e = .returned v ∧ w'.ownsRow w.heap.size 41 2 v l.length (l.flatMap encN) ∧ Below w.heap.size w w' := by
  obtain ⟨i0, hi, hz0, hz1, hz2⟩ := info_parts Try.infoEnt
  have ho0 : (w.alloc (.cells #[] 41)).ownsRow w.heap.size 41 2 (.slice (some ⟨w.heap.size, 0, none⟩) 0 0) 0 [] := World.ownsRow_made w #[] 0 (Nat.le_refl _) (Nat.zero_le _) rfl
  have hb0 : Below w.heap.size w (w.alloc (.cells #[] 41)) := (Below.refl _ _).alloc (Nat.le_refl _) _
  have HR : Hid (RdF encN 2 (w.alloc (.cells #[] 41)) a l) := hr.below hb0 (Nat.le_refl _)
  clear hr
  go_enter Try.func36, Try.ntmps36
  go_wp2_with (at_builtin; refine wpList_append_own_src _ rfl _ _ 25 25 rfl w.heap.size 41 i0 _ 2 24 Try.underlying25 hi hz0 hz1 hz2 rfl _ _ _ rfl ho0 _ l.length (l.flatMap encN) rfl (srcEn cap HR.out) (by unfold maxLen; omega) (by omega) hb0.size ?_)
  intro v' w2 ho2 hg2
  have hb2 : Below w.heap.size w w2 := hb0.grown hg2 hb0.size (fun k hk => (ho0.lt k hk).1)
  clear hg2
  go_wp2
  go_ret
  exact ⟨_, rfl, by simpa using ho2, hb2⟩
end Go.Proofs.Ytogpgocldgdeaaa
