/-
  Own text: an entry is dropped, by the program.
-/
import Derived.Test.YtogpgocldgdeaaaIDelW
import Derived.Test.YtogpgocldgdeaaaIFindW
namespace Go.Proofs.Ytogpgocldgdeaaa
open Go.RowKit

set_option maxRecDepth 20000 in
set_option maxHeartbeats 1000000 in
theorem implWithout (a : Option Addr) (c i : Nat) (l : List EntD) (w : World) (hi : i < l.length) (hl : ShE l) (hr : RdF encN 2 w a l) :
    Calls Try.prog 40 #[.slice a l.length c, .int .i64 (i : Nat)] w fun e w' => ∃ v, e = .returned v ∧ w'.ownsRow w.heap.size 41 2 v (l.length - 1) ((l.eraseIdx i).flatMap encN) ∧ Below w.heap.size w w' := by
  have hll := hl.1
  have HD : Hid (∀ v W, W.ownsRow w.heap.size 41 2 v l.length (l.flatMap encN) → Calls Try.prog 47 #[v, .int .i64 (i : Nat), .int .i64 ((i : Int) + 1)] W fun e w' => ∃ v', e = .returned v' ∧ w'.ownsRow w.heap.size 41 2 v' (l.length - 1) ((l.eraseIdx i).flatMap encN) ∧ Only (blk v) W w') := fun v W h => delEn w.heap.size i v l W hi hll h
  have HF : Hid (Calls Try.prog 38 #[.slice a l.length c] w fun e w' => ∃ v, e = .returned v ∧ w'.ownsRow w.heap.size 41 2 v l.length (l.flatMap encN) ∧ Below w.heap.size w w') := freshEn a c l w hl hr
  generalize l.eraseIdx i = M at *
  clear hr hl
  go_enter Try.func40, Try.ntmps40
  go_wp2_with fail
  refine HF.out.mono ?_
  rintro e w1 ⟨v1, rfl, ho1, hb1⟩
  go_wp2_with fail
  refine (HD.out v1 _ ho1).mono ?_
  rintro e w2 ⟨v2, rfl, ho2, hon⟩
  have hB := hb1.trans (hon.below hb1.size (fun k hk => (ho1.lt k hk).1))
  go_wp2
  go_ret
  exact ⟨_, rfl, ho2, hB⟩

set_option maxRecDepth 20000 in
set_option maxHeartbeats 1000000 in
theorem implDirDrop (a : Option Addr) (c : Nat) (l : List EntD) (s : ByteArray) (w : World) (hl : ShE l) (hr : RdF encN 2 w a l) :
    Calls Try.prog 22 #[.slice a l.length c, .string s] w fun e w' => ∃ v, e = .returned (.tuple #[v, .bool (enHas l s)]) ∧ OwnEn w' w.heap.size w'.heap.size v (enDropped l s) ∧ Below w.heap.size w w' := by
  have hll := hl.1
  have HF : Hid (Calls Try.prog 35 #[.slice a l.length c, .string s] w fun e w' => e = .returned (.int .i64 (idxF l (isN s))) ∧ Below w.heap.size w w') := implFind a c l s w hll hr
  by_cases h : l.findIdx (isN s) < l.length
  · have hi : idxF l (isN s) = ((l.findIdx (isN s) : Nat) : Int) := by unfold idxF; rw [if_pos h]
    have hD : enDropped l s = l.eraseIdx (l.findIdx (isN s)) := by unfold enDropped; rw [if_pos (by exact h)]; rfl
    have hH : enHas l s = true := by unfold enHas; exact decide_eq_true h
    have hlen : (l.eraseIdx (l.findIdx (isN s))).length = l.length - 1 := List.length_eraseIdx_of_lt h
    have HW : Hid (∀ W, Below w.heap.size w W → Calls Try.prog 40 #[.slice a l.length c, .int .i64 ((l.findIdx (isN s) : Nat) : Int)] W fun e w' => ∃ v, e = .returned v ∧ OwnEn w' w.heap.size w'.heap.size v (enDropped l s) ∧ Below W.heap.size W w') := fun W hb => by
      refine (implWithout a c _ l W h hl (hr.below hb (Nat.le_refl _))).mono ?_
      rintro e w' ⟨v, rfl, h1, h2⟩
      refine ⟨v, rfl, ?_, h2⟩
      rw [hD]
      exact OwnEn.of (by rw [hlen]; exact ownsRow_base h1 hb.size)
    rw [hi] at HF
    rw [hH]
    clear hD hH hlen hi hr hl h
    generalize l.findIdx (isN s) = k at *
    generalize enDropped l s = D at *
    go_enter Try.func22, Try.ntmps22
    go_wp2_with fail
    refine HF.out.mono ?_
    rintro e w1 ⟨rfl, hb1⟩
    go_wp2_with fail
    refine (HW.out _ hb1).mono ?_
    rintro e w2 ⟨v2, rfl, ho2, hb2⟩
    have hB := hb1.trans (hb2.mono hb1.size)
    go_wp2
    go_returns
    exact ⟨_, rfl, ho2, hB⟩
  · have hi : idxF l (isN s) = -1 := by unfold idxF; rw [if_neg h]
    have hD : enDropped l s = l := by unfold enDropped; rw [if_neg (by exact h)]
    have hH : enHas l s = false := by unfold enHas; exact decide_eq_false h
    have HW : Hid (∀ W, Below w.heap.size w W → Calls Try.prog 38 #[.slice a l.length c] W fun e w' => ∃ v, e = .returned v ∧ OwnEn w' w.heap.size w'.heap.size v l ∧ Below W.heap.size W w') := fun W hb => by
      refine (freshEn a c l W hl (hr.below hb (Nat.le_refl _))).mono ?_
      rintro e w' ⟨v, rfl, h1, h2⟩
      exact ⟨v, rfl, OwnEn.of (ownsRow_base h1 hb.size), h2⟩
    rw [hi] at HF
    rw [hH, hD]
    clear hD hH hi hr hl h
    go_enter Try.func22, Try.ntmps22
    go_wp2_with fail
    refine HF.out.mono ?_
    rintro e w1 ⟨rfl, hb1⟩
    go_wp2_with fail
    refine (HW.out _ hb1).mono ?_
    rintro e w2 ⟨v2, rfl, ho2, hb2⟩
    have hB := hb1.trans (hb2.mono hb1.size)
    go_wp2
    go_returns
    exact ⟨_, rfl, ho2, hB⟩
end Go.Proofs.Ytogpgocldgdeaaa
