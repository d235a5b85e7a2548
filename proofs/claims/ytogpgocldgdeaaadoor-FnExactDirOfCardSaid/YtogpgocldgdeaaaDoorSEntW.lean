/-
  Own text: entries as the other program finds and copies them.
-/
import Derived.Test.YtogpgocldgdeaaaDoorEntMath
import Derived.Test.YtogpgocldgdeaaaDoorAppSrc
namespace Go.Proofs.YtogpgocldgdeaaaDoor
open Go.RowKit

theorem strEq {a b : ByteArray} : (a.toList == b.toList) = decide (a = b) := by
  by_cases h : a = b
  · subst h; simp
  · rw [decide_eq_false h, beq_eq_false_iff_ne]
    intro h2
    apply h
    rw [ByteArray.toList_eq, ByteArray.toList_eq] at h2
    obtain ⟨⟨x⟩⟩ := a
    obtain ⟨⟨y⟩⟩ := b
    simp at h2
    rw [h2]

theorem srcEn {w : World} {a : Option Addr} {l : List EntD} (cap : Nat) (h : RdF encN 2 w a l) : Src Tryd.prog 2 24 (.slice a l.length cap) l.length (l.flatMap encN) w := by
  rcases h with rfl | ⟨b, off, rfl, hb, hc⟩
  · cases a with
    | none => exact Src.ofNil w Tryd.underlying24 cap
    | some x => exact Src.ofSlice w Tryd.underlying24 x 0 cap [] rfl (fun j u h => by simp at h) (fun u hu => by simp at hu)
  · refine Src.ofSlice w Tryd.underlying24 ⟨b, off, none⟩ l.length cap (l.flatMap encN) (flat_len_c encN_len l) (fun j u hj => ?_) (fun u hu => ?_)
    · have hjl : j < l.length * 2 := by
        rcases Nat.lt_or_ge j (l.flatMap encN).length with h | h
        · rw [flat_len_c encN_len] at h; exact h
        · rw [List.getElem?_eq_none h] at hj; cases hj
      have e := flat_get encN_len l (j / 2) (by omega) (j % 2) (by omega)
      rw [show j / 2 * 2 + j % 2 = j by omega, hj] at e
      rw [Go.WideShapes.add_plain]
      have := hc (j / 2) (by omega) (j % 2) (by omega)
      rw [show off + j / 2 * 2 + j % 2 = off + j by omega] at this
      rw [this, ← e]
    · obtain ⟨p, _, hp⟩ := List.mem_flatMap.1 hu
      simp [encN] at hp
      rcases hp with rfl | rfl <;> rfl

set_option maxRecDepth 20000 in
set_option maxHeartbeats 400000 in
theorem copyEn (a : Option Addr) (cap : Nat) (l : List EntD) (w : World) (hl : l.length ≤ 4194305) (hr : RdF encN 2 w a l) :
    Calls Tryd.prog 25 #[.slice a l.length cap] w fun e w' => ∃ v, e = .returned v ∧ w'.ownsRow w.heap.size 32 2 v l.length (l.flatMap encN) ∧ Below w.heap.size w w' := by
  obtain ⟨i0, hi, hz0, hz1, hz2⟩ := info_parts Tryd.infoEnt
  have ho0 : (w.alloc (.cells #[] 32)).ownsRow w.heap.size 32 2 (.slice (some ⟨w.heap.size, 0, none⟩) 0 0) 0 [] := World.ownsRow_made w #[] 0 (Nat.le_refl _) (Nat.zero_le _) rfl
  have hb0 : Below w.heap.size w (w.alloc (.cells #[] 32)) := (Below.refl _ _).alloc (Nat.le_refl _) _
  have HR : Hid (RdF encN 2 (w.alloc (.cells #[] 32)) a l) := hr.below hb0 (Nat.le_refl _)
  clear hr
  go_enter Tryd.func25, Tryd.ntmps25
  go_wp2_with (at_builtin; refine wpList_append_own_src _ rfl _ _ 24 24 rfl w.heap.size 32 i0 _ 2 24 Tryd.underlying24 hi hz0 hz1 hz2 rfl _ _ _ rfl ho0 _ l.length (l.flatMap encN) rfl (srcEn cap HR.out) (by unfold maxLen; omega) (by omega) hb0.size ?_)
  intro v' w2 ho2 hg2
  have hb2 : Below w.heap.size w w2 := hb0.grown hg2 hb0.size (fun k hk => (ho0.lt k hk).1)
  clear hg2
  go_wp2
  go_ret
  exact ⟨_, rfl, by simpa using ho2, hb2⟩
end Go.Proofs.YtogpgocldgdeaaaDoor
