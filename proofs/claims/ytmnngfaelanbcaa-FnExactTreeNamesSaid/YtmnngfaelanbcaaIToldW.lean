/-
  Own text: what is told of a map of items: all but the root, in order.
-/
import Derived.Test.YtmnngfaelanbcaaIItemsW
import Derived.Test.YtmnngfaelanbcaaSortIt
import Derived.Test.YtmnngfaelanbcaaRangeIt
import Derived.Test.YtmnngfaelanbcaaAppSrc
namespace Go.Proofs.Ytmnngfaelanbcaa
open Go.RowKit Go.Maps

/-- Each item lies at its own path. -/
def KeyP (F : ByteArray → Option ItD) : Prop := ∀ s x, F s = some x → x.p = s
theorem itF_key (l : List ItD) : KeyP (itF l) := by
  intro s x h
  unfold itF at h
  split at h
  · rename_i e
    injection h with h
    rw [← h, e]; rfl
  · have := List.find?_some h
    simpa using this
/-- What is told: all that is there, but the root, in order. -/
def ToldP (F : ByteArray → Option ItD) (l : List ItD) : Prop := (∀ x, x ∈ l ↔ F x.p = some x ∧ x.p ≠ rootS) ∧ Rise l
theorem ToldP.unique {F : ByteArray → Option ItD} {l m : List ItD} (h : ToldP F l) (k : ToldP F m) : l = m :=
  rise_unique h.2 k.2 fun x => (h.1 x).trans (k.1 x).symm
/-- What has been gathered of a map, behind which keys are still to come. -/
structure Gath (F : ByteArray → Option ItD) (lf : ByteArray → Bool) (acc : List ItD) : Prop where
  mem : ∀ x, x ∈ acc ↔ F x.p = some x ∧ x.p ≠ rootS ∧ lf x.p = false
  once : acc.Pairwise fun x y => x.p ≠ y.p
theorem Gath.start (F : ByteArray → Option ItD) : Gath F (fun s => (F s).isSome) [] :=
  ⟨fun x => ⟨fun h => by simp at h, fun h => by have := h.2.2; rw [h.1] at this; cases this⟩, List.Pairwise.nil⟩
theorem Gath.step {F : ByteArray → Option ItD} {lf : ByteArray → Bool} {acc : List ItD} {s : ByteArray} {x : ItD} (h : Gath F lf acc) (hk : KeyP F) (hl : lf s = true) (hF : F s = some x) (hs : s ≠ rootS) :
    Gath F (fun z => lf z && !decide (z = s)) (acc ++ [x]) := by
  have hp := hk s x hF
  refine ⟨fun y => ?_, ?_⟩
  · rw [List.mem_append, h.mem y, List.mem_singleton]
    by_cases e : y.p = s
    · constructor
      · rintro (h1 | h1)
        · rw [e, hl] at h1; cases h1.2.2
        · subst h1; exact ⟨by rw [hp]; exact hF, by rw [hp]; exact hs, by simp [hp]⟩
      · rintro ⟨h1, _⟩
        rw [e, hF] at h1
        injection h1 with h1
        exact .inr h1.symm
    · constructor
      · rintro (h1 | h1)
        · exact ⟨h1.1, h1.2.1, by simp [h1.2.2]⟩
        · subst h1; exact absurd hp e
      · rintro ⟨h1, h2, h3⟩
        exact .inl ⟨h1, h2, by simpa [e] using h3⟩
  · rw [List.pairwise_append]
    refine ⟨h.once, by simp, fun y hy z hz => ?_⟩
    rw [List.mem_singleton] at hz
    subst hz
    intro e
    have := ((h.mem y).1 hy).2.2
    rw [e, hp, hl] at this
    cases this
theorem Gath.root {F : ByteArray → Option ItD} {lf : ByteArray → Bool} {acc : List ItD} (h : Gath F lf acc) : Gath F (fun z => lf z && !decide (z = rootS)) acc := by
  refine ⟨fun y => ?_, h.once⟩
  rw [h.mem y]
  constructor
  · rintro ⟨h1, h2, h3⟩; exact ⟨h1, h2, by simp [h3]⟩
  · rintro ⟨h1, h2, h3⟩; exact ⟨h1, h2, by simpa [h2] using h3⟩
theorem Gath.done {F : ByteArray → Option ItD} {lf : ByteArray → Bool} {acc l : List ItD} (h : Gath F lf acc) (hl : ∀ s, lf s = false) (hp : l.Perm acc) (hr : Rise l) : ToldP F l :=
  ⟨fun x => by rw [hp.mem_iff, h.mem x]; exact ⟨fun h => ⟨h.1, h.2.1⟩, fun h => ⟨h.1, h.2, hl _⟩⟩, hr⟩
theorem srcItem {W : World} (x : ItD) : Src Try.prog 4 27 (.slice (some ⟨W.heap.size, 0, none⟩) 1 1) 1 ([x].flatMap encI) (W.alloc (.cells #[.string x.p, .int .i64 x.k, .string x.d, .int .i64 x.t] 34)) := by
  refine Src.ofSlice _ Try.underlying27 ⟨W.heap.size, 0, none⟩ 1 1 [.string x.p, .int .i64 x.k, .string x.d, .int .i64 x.t] rfl ?_ (fun y hy => by simp at hy; rcases hy with rfl | rfl | rfl | rfl <;> rfl)
  intro j y hj
  obtain ⟨hj1, rfl⟩ := List.getElem?_eq_some_iff.1 hj
  rw [Go.WideShapes.add_plain, Nat.zero_add]
  have hV := Var.made W #[.string x.p, .int .i64 x.k, .string x.d, .int .i64 x.t] 34
  match j, hj1 with
  | 0, _ => exact hV.cell 0
  | 1, _ => exact hV.cell 1
  | 2, _ => exact hV.cell 2
  | 3, _ => exact hV.cell 3

set_option maxRecDepth 20000 in
set_option maxHeartbeats 1000000 in
theorem implTold (b n : Nat) (F : ByteArray → Option ItD) (w : World) (hn : n ≤ 1048577) (hk : KeyP F) (hM : MapIt w b n F) :
    Calls Try.prog 31 #[.map (some b)] w fun e w' => ∃ v l, e = .returned v ∧ ToldP F l ∧ l.length ≤ n ∧ w'.ownsRow w.heap.size 34 4 v l.length (l.flatMap encI) ∧ Below w.heap.size w w' := by
  obtain ⟨i0, hi, hz0, hz1, hz2⟩ := info_parts Try.infoIt
  have HK : Hid (KeyP F) := hk
  clear hk
  go_enter Try.func31, Try.ntmps31
  go_wp2_with (at_range; refine wp_rangeIt _ rfl _ 51 rfl Try.underlying51 b n F rfl hM ?_; intro w0 cnt0 hR0 hc0 hB0 hs0)
  go_frame
  have hRl := hM.lt
  go_loopw [3] (fun v wr => ∃ (acc : List ItD) (lf : ByteArray → Bool) (cnt : Nat), RgIt wr b w.heap.size n F lf cnt ∧ wr.ownsRow (w.heap.size + 1) 34 4 v acc.length (acc.flatMap encI) ∧ Below w.heap.size w wr ∧ w.heap.size + 1 ≤ wr.heap.size ∧ acc.length + cnt ≤ n ∧ Hid (Gath F lf acc)) (fun _ wr => wr.rangeLeft b w.heap.size)
  case atStart => exact ⟨[], _, cnt0, hR0, World.ownsRow_nil _ _ _ _, hB0, by omega, by simpa using hc0, Gath.start F⟩
  case round =>
    obtain ⟨acc, lf, cnt, hR, ho, hB, hsz, hac, HG⟩ := hrel
    clear hR0 hB0 hs0 hc0
    go_wp2_with (at_next; refine wp_nextIt _ rfl _ rfl b w.heap.size n F lf cnt rfl hR ?_ ?_)
    · intro hl
      have hpw := HG.out.once
      go_wp2_with (go_at_call 47; refine (sortIt (w.heap.size + 1) _ acc _ hpw (by omega) ho).mono ?_; rintro e w2 ⟨rfl, l', hp, hr, ho2, hon⟩)
      have HT : Hid (ToldP F l') := HG.out.done hl hp hr
      have hll : l'.length ≤ n := by rw [hp.length_eq]; omega
      have ho3 := ownsRow_base ho2 (show w.heap.size ≤ w.heap.size + 1 by omega)
      have hB2 : Below w.heap.size w w2 := hB.trans (hon.below hB.size (fun j hj => by have := (ho.lt j hj).1; omega))
      go_ret
      exact ⟨_, l', rfl, HT.out, hll, ho3, hB2⟩
    · intro s x w1 cnt1 hls hF hR1 hlt hO1 hs1 hen
      unfold aggI at hen ⊢
      have hB1 : Below w.heap.size w w1 := hB.trans (hO1.below hB.size (fun j hj => by omega))
      have ho1 := own_only ho hO1 (fun j hj e => by have := (ho.lt j hj).1; omega)
      have hy1 : w.heap.size + 1 ≤ w1.heap.size := by omega
      have HR1 : Hid (RgIt w1 b w.heap.size n F (fun z => lf z && !decide (z = s)) cnt1) := hR1
      have hle := hR.left_eq
      by_cases he : s = rootS
      · have hq : (s.toList == [47]) = true := by rw [he, ByteArray.toList_eq]; rfl
        have HG2 : Hid (Gath F (fun z => lf z && !decide (z = s)) acc) := by rw [he]; exact HG.out.root
        clear hR hR1 hO1 ho hB HG he
        go_wp2
        have hR3 := HR1.out.new (below1 w1 (.cells #[.string x.p, .int .i64 x.k, .string x.d, .int .i64 x.t] 34))
        have hB3 : Below w.heap.size w (w1.alloc (.cells #[.string x.p, .int .i64 x.k, .string x.d, .int .i64 x.t] 34)) := hB1.alloc hB1.size _
        go_roundw
        case rel => exact ⟨acc, _, cnt1, hR3, ownsRow_below ho1 (below1 _ _) (Nat.le_refl _), hB3, by simp; omega, by omega, HG2⟩
        case measure => rw [hR3.left_eq, hle]; omega
      · have hq : (s.toList == [47]) = false := by
          rw [beq_eq_false_iff_ne, ByteArray.toList_eq]
          exact fun e => he (Go.WideShapes.bytes_inj (b := rootS) e)
        have HG2 : Hid (Gath F (fun z => lf z && !decide (z = s)) (acc ++ [x])) := HG.out.step HK.out hls hF he
        have hR3 := HR1.out.new (below2 w1 (.cells #[.string x.p, .int .i64 x.k, .string x.d, .int .i64 x.t] 34) (.cells #[.string x.p, .int .i64 x.k, .string x.d, .int .i64 x.t] 34))
        have hB3 : Below w.heap.size w ((w1.alloc (.cells #[.string x.p, .int .i64 x.k, .string x.d, .int .i64 x.t] 34)).alloc (.cells #[.string x.p, .int .i64 x.k, .string x.d, .int .i64 x.t] 34)) := hB1.trans ((below2 w1 _ _).mono hB1.size)
        have ho3 := ownsRow_below ho1 (below2 w1 (.cells #[.string x.p, .int .i64 x.k, .string x.d, .int .i64 x.t] 34) (.cells #[.string x.p, .int .i64 x.k, .string x.d, .int .i64 x.t] 34)) (Nat.le_refl _)
        have HS7 : Hid (Src Try.prog 4 27 (.slice (some ⟨wr.heap.size + 1, 0, none⟩) 1 1) 1 ([x].flatMap encI) ((w1.alloc (.cells #[.string x.p, .int .i64 x.k, .string x.d, .int .i64 x.t] 34)).alloc (.cells #[.string x.p, .int .i64 x.k, .string x.d, .int .i64 x.t] 34))) := by
          have h7 := srcItem (W := w1.alloc (.cells #[.string x.p, .int .i64 x.k, .string x.d, .int .i64 x.t] 34)) x
          rw [show (w1.alloc (.cells #[.string x.p, .int .i64 x.k, .string x.d, .int .i64 x.t] 34)).heap.size = wr.heap.size + 1 by simp [hs1]] at h7
          exact h7
        have hz3 : w.heap.size + 1 ≤ ((w1.alloc (.cells #[.string x.p, .int .i64 x.k, .string x.d, .int .i64 x.t] 34)).alloc (.cells #[.string x.p, .int .i64 x.k, .string x.d, .int .i64 x.t] 34)).heap.size := by simp; omega
        clear hR hR1 hO1 ho hB HG he hB1
        go_wp2_with (at_builtin; refine wpList_append_own_src _ rfl (.tmp 15) (.tmp 17) 27 27 rfl (w.heap.size + 1) 34 i0 (.agg #[.string ⟨#[]⟩, .int .i64 0, .string ⟨#[]⟩, .int .i64 0]) 4 48 Try.underlying27 hi hz0 hz1 hz2 rfl _ _ _ rfl ho3 _ 1 ([x].flatMap encI) rfl HS7.out (by unfold maxLen; omega) (by omega) hz3 ?_)
        intro v8 w8 ho8 hg8
        have hon : Only (blk _) _ w8 := Only.of_grown hg8
        have hR8 := hR3.only hon (fun h => by have := (ho3.lt b h).1; omega) (fun h => by have := (ho3.lt _ h).1; omega)
        have hB8 := hB3.trans (hon.below hB3.size (fun j hj => by have := (ho3.lt j hj).1; omega))
        have ho9 : w8.ownsRow (w.heap.size + 1) 34 4 v8 (acc ++ [x]).length ((acc ++ [x]).flatMap encI) := by rw [List.flatMap_append, List.length_append]; exact ho8
        have hz8 : w.heap.size + 1 ≤ w8.heap.size := Nat.le_trans hz3 hon.size
        have hac8 : (acc ++ [x]).length + cnt1 ≤ n := by rw [List.length_append]; simp; omega
        clear ho8 hg8 ho3 HS7 hR3 hB3 hon
        go_wp2
        go_roundw
        case rel => exact ⟨acc ++ [x], _, cnt1, hR8, ho9, hB8, hz8, hac8, HG2⟩
        case measure => rw [hR8.left_eq, hle]; omega
end Go.Proofs.Ytmnngfaelanbcaa
