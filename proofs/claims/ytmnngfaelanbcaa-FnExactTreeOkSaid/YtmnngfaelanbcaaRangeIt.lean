/-
  Own text: a range over a map of items.
-/
import Derived.Test.YtmnngfaelanbcaaItM
namespace Go.Proofs.Ytmnngfaelanbcaa
open Go.RowKit Go.Maps

/-- A range over block b, which holds F, is under way in block r: which keys are still to come, how many. -/
def RgIt (w : World) (b r n : Nat) (F : ByteArray → Option ItD) (lf : ByteArray → Bool) (cnt : Nat) : Prop :=
  ∃ (D : DataW Unit) (left : Lit → Bool), w.ranges Try.prog 9 itElem b r n D left cnt ∧ (∀ s : ByteArray, has D (.string s.data.toList) = (F s).isSome) ∧ (∀ (s : ByteArray) x, F s = some x → ∀ z, D.atKey (.string s.data.toList) z = itDat x) ∧ ∀ s : ByteArray, left (.string s.data.toList) = lf s
theorem RgIt.left_eq {w : World} {b r n : Nat} {F : ByteArray → Option ItD} {lf : ByteArray → Bool} {cnt : Nat} (h : RgIt w b r n F lf cnt) : w.rangeLeft b r = cnt := by
  obtain ⟨D, left, h, _⟩ := h
  exact h.left_eq
theorem RgIt.lt {w : World} {b r n : Nat} {F : ByteArray → Option ItD} {lf : ByteArray → Bool} {cnt : Nat} (h : RgIt w b r n F lf cnt) : b < w.heap.size ∧ r < w.heap.size := by
  obtain ⟨D, left, h, _⟩ := h
  exact ⟨h.owns.lt, h.lt⟩
theorem RgIt.map {w : World} {b r n : Nat} {F : ByteArray → Option ItD} {lf : ByteArray → Bool} {cnt : Nat} (h : RgIt w b r n F lf cnt) : MapIt w b n F := by
  obtain ⟨D, left, h, h2, h3, _⟩ := h
  exact ⟨D, h.owns, h2, h3⟩
theorem RgIt.block {w w' : World} {b r n : Nat} {F : ByteArray → Option ItD} {lf : ByteArray → Bool} {cnt : Nat} (h : RgIt w b r n F lf cnt) (hb : w'.heap[b]? = w.heap[b]?) (hr : w'.heap[r]? = w.heap[r]?) : RgIt w' b r n F lf cnt := by
  obtain ⟨D, left, ⟨es, clock, since, seen, c0, h1, h2, h3, h4, h5, h6⟩, k⟩ := h
  exact ⟨D, left, ⟨es, clock, since, seen, c0, hb.trans h1, h2, h3, h4, hr.trans h5, h6⟩, k⟩
theorem RgIt.new {w w' : World} {b r n : Nat} {F : ByteArray → Option ItD} {lf : ByteArray → Bool} {cnt : Nat} (h : RgIt w b r n F lf cnt) (hb : Below w.heap.size w w') : RgIt w' b r n F lf cnt := h.block (hb.block b h.lt.1) (hb.block r h.lt.2)
theorem RgIt.only {S : Nat → Prop} {w w' : World} {b r n : Nat} {F : ByteArray → Option ItD} {lf : ByteArray → Bool} {cnt : Nat} (h : RgIt w b r n F lf cnt) (ho : Only S w w') (h1 : ¬ S b) (h2 : ¬ S r) : RgIt w' b r n F lf cnt := h.block (ho.block b h.lt.1 h1) (ho.block r h.lt.2 h2)
theorem same_key (a b : ByteArray) : (Lit.string a.data.toList).sameKey (.string b.data.toList) = decide (a = b) := by
  by_cases h : a = b
  · subst h
    simp [Lit.sameKey]
  · rw [sameKey_ne (ne_key h), decide_eq_false h]

section
variable (w : World) {ops : Array Oper} {rest : List Oper} {o : Oper} {a : Act} {Q : Exit → Act → World → Prop}
theorem wp_rangeIt (hg : o.guard = none) (m : Operand) (t : TypeId) (hop : o.op = Op.range t m) (ht : Try.prog.underlying t = some (.map 9 34)) (b n : Nat) (F : ByteArray → Option ItD)
    (hm : a.eval m = .map (some b)) (h : MapIt w b n F)
    (hK : ∀ w' cnt, RgIt w' b w.heap.size n F (fun s => (F s).isSome) cnt → cnt ≤ n → Below w.heap.size w w' → w'.heap.size = w.heap.size + 1 → wpList Try.prog ops Q rest (a.put o.dst (.pointer (some ⟨w.heap.size, 0, none⟩))) w') :
    wpList Try.prog ops Q (o :: rest) a w := by
  obtain ⟨D, h1, h2, h3⟩ := h
  refine wpList_range_own w hg m t hop 9 34 keyIt ht itElem b n D hm h1 fun w' r1 r2 r3 => ?_
  exact hK w' _ ⟨D, _, r1, h2, h3, h2⟩ h1.size_le ⟨r2.os, r2.tape, r2.output, r2.size, fun k hk => r2.block k hk (by simp)⟩ r3
theorem wp_nextIt (hg : o.guard = none) (it : Operand) (hop : o.op = Op.next it false) (b r n : Nat) (F : ByteArray → Option ItD) (lf : ByteArray → Bool) (cnt : Nat)
    (hit : a.eval it = .pointer (some ⟨r, 0, none⟩)) (h : RgIt w b r n F lf cnt)
    (hDone : (∀ s, lf s = false) → wpList Try.prog ops Q rest (a.put o.dst (.tuple #[.bool false])) w)
    (hMore : ∀ (s : ByteArray) (x : ItD) (w' : World) (cnt' : Nat), lf s = true → F s = some x → RgIt w' b r n F (fun z => lf z && !decide (z = s)) cnt' → cnt' < cnt → Only (fun k => k = r) w w' → w'.heap.size = w.heap.size →
      (Instr.entry (.pointer (some ⟨r, 0, none⟩))).run Try.prog w' = .ok (.tuple #[.string s, aggI x]) w' → wpList Try.prog ops Q rest (a.put o.dst (.tuple #[.bool true, .string s, aggI x])) w') :
    wpList Try.prog ops Q (o :: rest) a w := by
  obtain ⟨D, left, h1, h2, h3, h4⟩ := h
  refine wpList_next_ranges w hg it hop 9 keyIt itElem Value.string aggI (fun key kl hkey => by obtain ⟨s, rfl, _⟩ := keyS_inv hkey; exact ⟨s, rfl⟩) (fun v y hv => by obtain ⟨x, rfl, _⟩ := itElem_inv hv; exact ⟨x, rfl⟩) b r n D left cnt hit h1 (fun _ hl => hDone fun s => by rw [← h4]; exact hl _) ?_
  intro s x kl y w' cnt' hkey hlk hv hat hrg hlt hgr hsz hen
  obtain ⟨s', e1, rfl⟩ := keyS_inv hkey
  cases e1
  obtain ⟨x', e2, rfl⟩ := itElem_inv hv
  have hx := aggI_inj e2
  subst hx
  have hF : F s = some x := by
    have hh : has D (.string s.data.toList) = true := has_true_of_atKey hat
    rw [h2] at hh
    obtain ⟨z, hz⟩ := Option.isSome_iff_exists.1 hh
    rw [hz, itDat_inj ((h3 s z hz (itDat x)).symm.trans (hat (itDat x)))]
  refine hMore s x w' cnt' (by rw [← h4]; exact hlk) hF ⟨D, _, hrg, h2, h3, fun z => ?_⟩ hlt ?_ hsz hen
  · show (left _ && !_) = _
    rw [h4, same_key]
  · exact (Only.of_grown hgr).mono fun k _ hk => by injection hk with hk; exact hk.symm
end
end Go.Proofs.Ytmnngfaelanbcaa
