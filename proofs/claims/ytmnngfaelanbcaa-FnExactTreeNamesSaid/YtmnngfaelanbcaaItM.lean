/-
  Own text: a map of items by their paths: what it holds, as a function of the path; the map's operations.
-/
import Derived.Test.YtmnngfaelanbcaaItEq
import Derived.Maps.OwnSet
import Derived.Maps.OwnOps
import Derived.Maps.RangeWalk
namespace Go.Proofs.Ytmnngfaelanbcaa
open Go.RowKit Go.Maps

/-- How an item in a map reads. -/
def itDat (x : ItD) : DataW Unit := .agg [.lit (.string x.p.data.toList), .lit (.int .i64 x.k), .lit (.string x.d.data.toList), .lit (.int .i64 x.t)]
theorem aggI_inj {x y : ItD} (h : aggI x = aggI y) : x = y := by
  obtain ⟨a, b, c, d⟩ := x
  obtain ⟨e, f, g, i⟩ := y
  simpa [aggI] using h
open Classical in
noncomputable def itElem (v : Value) : Option (DataW Unit × List MemPlace) := if h : ∃ x, v = aggI x then some (itDat h.choose, []) else none
theorem itElem_mk (x : ItD) : itElem (aggI x) = some (itDat x, []) := by
  have h : ∃ y, aggI x = aggI y := ⟨x, rfl⟩
  unfold itElem
  rw [dif_pos h, ← aggI_inj h.choose_spec]
theorem itElem_inv {v : Value} {y : DataW Unit × List MemPlace} (h : itElem v = some y) : ∃ x, v = aggI x ∧ y = (itDat x, []) := by
  unfold itElem at h
  split at h
  · rename_i hx
    injection h with h
    exact ⟨_, hx.choose_spec, h.symm⟩
  · cases h
theorem bytes_inj' {a b : ByteArray} (h : a.data.toList = b.data.toList) : a = b := Go.WideShapes.bytes_inj h
theorem itDat_inj {x y : ItD} (h : itDat x = itDat y) : x = y := by
  obtain ⟨a, b, c, d⟩ := x
  obtain ⟨e, f, g, i⟩ := y
  simp only [itDat, DataW.agg.injEq, List.cons.injEq, DataW.lit.injEq, Lit.string.injEq, Lit.int.injEq, and_true, true_and] at h
  obtain ⟨h1, h2, h3, h4⟩ := h
  rw [bytes_inj' h1, h2, bytes_inj' h3, h4]

theorem keyIt : Keyed Try.prog 9 := string_keyed Try.underlying9
theorem keyS {s : ByteArray} (h : s.size ≤ maxLen) : keyOf Try.prog 9 (.string s) = some (.string s.data.toList) := by
  simp [keyOf, Try.underlying9, mapKey, h]
theorem keyS_inv {key : Value} {kl : Lit} (h : keyOf Try.prog 9 key = some kl) : ∃ s : ByteArray, key = .string s ∧ kl = .string s.data.toList := by
  cases key <;> simp [keyOf, Try.underlying9, mapKey] at h
  exact ⟨_, rfl, h.2.symm⟩
theorem sKey (s : ByteArray) : Go.WideAt.IsKeyLit (.string s.data.toList) := by
  simp [Go.WideAt.IsKeyLit]
theorem ne_key {a b : ByteArray} (h : a ≠ b) : Lit.string a.data.toList ≠ Lit.string b.data.toList := by
  intro e
  injection e with e
  exact h (bytes_inj' e)

/-- Block b is a map of at most n items, that holds F. -/
def MapIt (w : World) (b n : Nat) (F : ByteArray → Option ItD) : Prop :=
  ∃ D : DataW Unit, w.ownsMap Try.prog 9 itElem b n D ∧ (∀ s : ByteArray, has D (.string s.data.toList) = (F s).isSome) ∧ ∀ (s : ByteArray) x, F s = some x → ∀ z, D.atKey (.string s.data.toList) z = itDat x
def updI (F : ByteArray → Option ItD) (s : ByteArray) (x : ItD) : ByteArray → Option ItD := fun r => if r = s then some x else F r
def delI (F : ByteArray → Option ItD) (s : ByteArray) : ByteArray → Option ItD := fun r => if r = s then none else F r

theorem MapIt.made (w : World) : MapIt (w.alloc (.map #[] 0)) w.heap.size 0 (fun _ => none) :=
  ⟨.map [], World.ownsMap_made w _ _ _, fun _ => rfl, fun _ _ h => by cases h⟩
theorem MapIt.lt {w : World} {b n : Nat} {F : ByteArray → Option ItD} (h : MapIt w b n F) : b < w.heap.size := by
  obtain ⟨D, h, _⟩ := h
  exact h.lt
theorem MapIt.block {w w' : World} {b n : Nat} {F : ByteArray → Option ItD} (h : MapIt w b n F) (hb : w'.heap[b]? = w.heap[b]?) : MapIt w' b n F := by
  obtain ⟨D, ⟨es, clock, h1, h2, h3, h4⟩, h5, h6⟩ := h
  exact ⟨D, ⟨es, clock, hb.trans h1, h2, h3, h4⟩, h5, h6⟩
theorem MapIt.below {w w' : World} {b n B : Nat} {F : ByteArray → Option ItD} (h : MapIt w b n F) (hb : Below B w w') (hlt : b < B) : MapIt w' b n F := h.block (hb.block b hlt)
theorem MapIt.new {w w' : World} {b n : Nat} {F : ByteArray → Option ItD} (h : MapIt w b n F) (hb : Below w.heap.size w w') : MapIt w' b n F := h.below hb h.lt
theorem MapIt.only {S : Nat → Prop} {w w' : World} {b n : Nat} {F : ByteArray → Option ItD} (h : MapIt w b n F) (ho : Only S w w') (hs : ¬ S b) : MapIt w' b n F := h.block (ho.block b h.lt hs)
theorem MapIt.mono {w : World} {b n n' : Nat} {F : ByteArray → Option ItD} (h : MapIt w b n F) (hn : n ≤ n') : MapIt w b n' F := by
  obtain ⟨D, h1, h2, h3⟩ := h
  exact ⟨D, h1.mono hn, h2, h3⟩

theorem look_val {D : DataW Unit} {F : ByteArray → Option ItD} {s : ByteArray} (h2 : ∀ s : ByteArray, has D (.string s.data.toList) = (F s).isSome) (h3 : ∀ (s : ByteArray) x, F s = some x → ∀ z, D.atKey (.string s.data.toList) z = itDat x) :
    D.atKey (.string s.data.toList) (itDat zeroI) = itDat ((F s).getD zeroI) := by
  cases hF : F s with
  | none =>
    have : has D (.string s.data.toList) = false := by rw [h2, hF]; rfl
    rw [atKey_of_not_has this]; rfl
  | some x => rw [h3 s x hF]; rfl
theorem MapIt.look {w : World} {b n t : Nat} {F : ByteArray → Option ItD} (h : MapIt w b n F) (ht : Try.prog.underlying t = some (.map 9 34)) {s : ByteArray} (hs : s.size ≤ maxLen) :
    (Instr.lookup t (.map (some b)) (.string s) false).run Try.prog w = .ok (aggI ((F s).getD zeroI)) w := by
  obtain ⟨D, h1, h2, h3⟩ := h
  obtain ⟨v, ps, hrun, hv⟩ := h1.lookup keyIt ht (z := aggI zeroI) (Try.zeroValue34 w) (itElem_mk zeroI) (keyS hs)
  rw [look_val h2 h3] at hv
  obtain ⟨x, rfl, hx⟩ := itElem_inv hv
  rw [hrun, itDat_inj (congrArg Prod.fst hx)]
theorem MapIt.lookOk {w : World} {b n t : Nat} {F : ByteArray → Option ItD} (h : MapIt w b n F) (ht : Try.prog.underlying t = some (.map 9 34)) {s : ByteArray} (hs : s.size ≤ maxLen) :
    (Instr.lookup t (.map (some b)) (.string s) true).run Try.prog w = .ok (.tuple #[aggI ((F s).getD zeroI), .bool (F s).isSome]) w := by
  obtain ⟨D, h1, h2, h3⟩ := h
  obtain ⟨v, ps, hrun, hv⟩ := h1.look_ok keyIt ht (z := aggI zeroI) (Try.zeroValue34 w) (itElem_mk zeroI) (keyS hs)
  rw [look_val h2 h3] at hv
  obtain ⟨x, rfl, hx⟩ := itElem_inv hv
  rw [hrun, itDat_inj (congrArg Prod.fst hx), h2]
theorem MapIt.store {w : World} {b n t : Nat} {F : ByteArray → Option ItD} (h : MapIt w b n F) (ht : Try.prog.underlying t = some (.map 9 34)) (hn : n < maxLen) {s : ByteArray} (hs : s.size ≤ maxLen) (x : ItD) :
    ∃ w', (Instr.mapUpdate t (.map (some b)) (.string s) (aggI x)).run Try.prog w = .ok () w' ∧ MapIt w' b (n + 1) (updI F s x) ∧ w.grownBy w' (some b) := by
  obtain ⟨D, h1, h2, h3⟩ := h
  obtain ⟨w', hrun, hown, hg⟩ := h1.update keyIt ht hn (keyS hs) (itElem_mk x)
  refine ⟨w', hrun, ⟨_, hown, fun r => ?_, fun r y hr z => ?_⟩, hg⟩
  · unfold updI
    by_cases e : r = s
    · rw [if_pos e, e, has_put_same h1.isMap (sKey s)]; rfl
    · rw [if_neg e, has_put_other (ne_key e), h2]
  · unfold updI at hr
    by_cases e : r = s
    · rw [if_pos e] at hr
      injection hr with hr
      rw [e, ← hr, atKey_put_same h1.isMap (sKey s)]
    · rw [if_neg e] at hr
      rw [atKey_put_other (ne_key e), h3 r y hr]
theorem MapIt.drop {w : World} {b n t : Nat} {F : ByteArray → Option ItD} (h : MapIt w b n F) (ht : Try.prog.underlying t = some (.map 9 34)) {s : ByteArray} (hs : s.size ≤ maxLen) (ty : TypeId) :
    ∃ w', (Builtin.delete_ #[t, 9] ty #[.map (some b), .string s]).run Try.prog w = .ok (.tuple #[]) w' ∧ MapIt w' b n (delI F s) ∧ w.grownBy w' (some b) := by
  obtain ⟨D, h1, h2, h3⟩ := h
  obtain ⟨w', hrun, hown, hg⟩ := h1.drop keyIt ht (keyS hs) ty
  refine ⟨w', hrun, ⟨_, hown, fun r => ?_, fun r y hr z => ?_⟩, hg.grown⟩
  · unfold delI
    by_cases e : r = s
    · rw [if_pos e, e, has_del_same]; rfl
    · rw [if_neg e, has_del_other (ne_key e), h2]
  · unfold delI at hr
    by_cases e : r = s
    · rw [if_pos e] at hr; cases hr
    · rw [if_neg e] at hr
      rw [atKey_del_other (ne_key e), h3 r y hr]

section
variable (w : World) {ops : Array Oper} {rest : List Oper} {o : Oper} {a : Act} {Q : Exit → Act → World → Prop}
theorem wp_storeIt (hg : o.guard = none) (m x v : Operand) (t : TypeId) (hop : o.op = Op.mapUpdate t m x v) (ht : Try.prog.underlying t = some (.map 9 34)) (b n : Nat) (F : ByteArray → Option ItD)
    (hm : a.eval m = .map (some b)) (h : MapIt w b n F) (hn : n < maxLen) (s : ByteArray) (y : ItD) (hx : a.eval x = .string s) (hs : s.size ≤ maxLen) (hv : a.eval v = aggI y)
    (hK : ∀ w', MapIt w' b (n + 1) (updI F s y) → w.grownBy w' (some b) → wpList Try.prog ops Q rest (a.put o.dst undef) w') :
    wpList Try.prog ops Q (o :: rest) a w := by
  refine wpList_plain hg fun K' hK' => ?_
  obtain ⟨w', hrun, r1, r2⟩ := h.store ht hn hs y
  unfold Oper.wp
  simp [execOp, hop, hm, hx, hv, hrun, Result.andThen]
  exact hK' _ _ (hK w' r1 r2)
theorem wp_lookIt (hg : o.guard = none) (m x : Operand) (t : TypeId) (hop : o.op = Op.lookup t m x true) (ht : Try.prog.underlying t = some (.map 9 34)) (b n : Nat) (F : ByteArray → Option ItD)
    (hm : a.eval m = .map (some b)) (h : MapIt w b n F) (s : ByteArray) (hx : a.eval x = .string s) (hs : s.size ≤ maxLen) (y : ItD) (hy : (F s).getD zeroI = y) (c : Bool) (hc : (F s).isSome = c)
    (hK : wpList Try.prog ops Q rest (a.put o.dst (.tuple #[aggI y, .bool c])) w) :
    wpList Try.prog ops Q (o :: rest) a w := by
  refine wpList_plain hg fun K' hK' => ?_
  have hrun := h.lookOk ht hs
  rw [hy, hc] at hrun
  unfold Oper.wp
  simp [execOp, hop, hm, hx, hrun, Result.andThen]
  exact hK' _ _ hK
theorem wp_look1It (hg : o.guard = none) (m x : Operand) (t : TypeId) (hop : o.op = Op.lookup t m x false) (ht : Try.prog.underlying t = some (.map 9 34)) (b n : Nat) (F : ByteArray → Option ItD)
    (hm : a.eval m = .map (some b)) (h : MapIt w b n F) (s : ByteArray) (hx : a.eval x = .string s) (hs : s.size ≤ maxLen) (y : ItD) (hy : (F s).getD zeroI = y)
    (hK : wpList Try.prog ops Q rest (a.put o.dst (aggI y)) w) :
    wpList Try.prog ops Q (o :: rest) a w := by
  refine wpList_plain hg fun K' hK' => ?_
  have hrun := h.look ht hs
  rw [hy] at hrun
  unfold Oper.wp
  simp [execOp, hop, hm, hx, hrun, Result.andThen]
  exact hK' _ _ hK
end
theorem res_it2 {P : Program} {fn : Func} {p u : Tmp} {ty : TypeId} (h : fn.results = #[.cell p ty, .tmp u]) (tmps : Array Value) (w : World) (g : Nat) (t : TypeId) (cs : Array Value) (d : TypeDesc)
    (hp : tmps.getD p undef = .pointer (some ⟨g, 0, none⟩)) (hg : Var w g cs t)
    (hu : P.underlying ty = some d) (hd : (match d with | .struct _ | .array _ _ => true | _ => false) = true) (hi : (P.info? ty).map (·.size) = some cs.size) :
    (results fn tmps).run P w = .ok (.tuple #[.agg cs, tmps.getD u undef]) w := by
  have key : (results fn tmps).run P w = ((asAddr (tmps.getD p undef)).run P w).andThen fun a w₁ => ((loadVar ty a).run P w₁).andThen fun v w₂ => .ok (.tuple #[v, tmps.getD u undef]) w₂ := by
    simp only [results, h]
    simp [Sem.run_bind, Result.andThen]
  rw [key, hp]
  simp [asAddr, run_loadVar_row w g t ty cs (0, 0) d hg hu hd hi]
theorem Try.sizeIt : (Try.prog.info? 34).map (·.size) = some 4 := by kernel_rfl
theorem makeMapIt (t : TypeId) (w : World) : (Instr.makeMap t none).run Try.prog w = .ok (.map (some w.heap.size)) (w.alloc (.map #[] 0)) := rfl
theorem MapIt.grown {w0 w w' : World} {b : Nat} (h : w.grownBy w' (some b)) {B : Nat} (hB : B ≤ b) (h0 : Below B w0 w) (hs : B ≤ w.heap.size) : Below B w0 w' :=
  h0.trans ⟨h.os, h.tape, h.output, h.size, fun i hi => h.block i (by omega) (by simp; omega)⟩
end Go.Proofs.Ytmnngfaelanbcaa
