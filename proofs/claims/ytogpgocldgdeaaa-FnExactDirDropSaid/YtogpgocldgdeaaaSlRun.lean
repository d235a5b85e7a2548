/-
  Own text: append in place, copy and clear over rows whose elements have several cells, as run equations; the same as steps of a walk; cuts of a row of entries.
-/
import Derived.Test.YtogpgocldgdeaaaIFreshEW
import Derived.Lib.AppendZerosOnto
import Derived.Lib.Overlaps
import Derived.Laws.Externs
namespace Go.Proofs.Ytogpgocldgdeaaa
open Go.RowKit Go.Lib

section
variable {P : Program} (w : World)
theorem run_append_roomV (t tx ty e : TypeId) (i : TypeInfo) (size : Nat) (ht : P.underlying t = some (.slice e)) (hi : P.info? e = some i) (hsize : i.size = size)
    (g n cap : Nat) (cur : Array Value) (hg : Var w g cur e) (hcs : cur.size = cap * size) (x : Value) (m : Nat) (news : List Value) (hs : Src P size tx x m news w) (hroom : n + m ≤ cap) :
    (Builtin.append_ #[t, tx] ty #[.slice (some ⟨g, 0, none⟩) n cap, x]).run P w =
      .ok (.slice (some ⟨g, 0, none⟩) (n + m) cap) (w.setRow g (cur.toList.take (n * size) ++ news ++ cur.toList.drop (n * size + news.length)).toArray) := by
  subst hsize
  have hl := hs.newsLen
  have hfit : n * i.size + news.length ≤ cur.size := by rw [hl, hcs, ← Nat.add_mul]; exact Nat.mul_le_mul_right _ hroom
  have hst := run_storeCells_at P g (n * i.size) e news 0 cur w hg (by simpa using hfit) hs.one
  simp only [Nat.add_zero] at hst
  rcases hs.kind with ⟨e', hk⟩ | hk <;> simp [Builtin.append_, run_underlying ht, run_underlying hk, sizeOf, typeInfo, hi, hs.len, hroom, hs.cells, Addr.add_lit, hst]
theorem run_copyV (dT sT ty elem t : TypeId) (size : Nat) (g o dLen dCap : Nat) (a : Addr) (sLen sCap : Nat) (cur : Array Value) (cs : List Value) (hu : P.underlying dT = some (.slice elem)) (hz : ∀ W : World, (Go.sizeOf elem).run P W = .ok size W)
    (hg : Var w g cur t) (hn : cs.length = Nat.min sLen dLen * size) (hsrc : ∀ j v, cs[j]? = some v → w.cell? (a.add j) = some v) (hfit : o + cs.length ≤ cur.size) (h1 : ∀ v ∈ cs, v.oneCell' = true) :
    (Builtin.copy_ #[dT, sT] ty #[.slice (some ⟨g, o, none⟩) dLen dCap, .slice (some a) sLen sCap]).run P w =
      .ok (goInt (Nat.min sLen dLen)) (w.setRow g (cur.toList.take o ++ cs ++ cur.toList.drop (o + cs.length)).toArray) := by
  have hl := run_firstCells_some (P := P) w size (Nat.min sLen dLen) a sLen sCap cs hn hsrc
  have hst := run_storeCells_at P g o t cs 0 cur w hg (by simpa using hfit) h1
  simp only [Nat.add_zero] at hst
  simp only [Builtin.copy_]
  simp [run_underlying hu, Builtin.lenOf, hz]
  rw [hl]
  simp [hst]
theorem run_clearV (t e tt ty : TypeId) (z : Value) (size : Nat) (ht : P.underlying t = some (.slice e)) (hv : ∀ W : World, (zeroValue e).run P W = .ok z W) (hz : z.cells.size = size)
    (g o n c : Nat) (hn : 0 < n) (cur : Array Value) (h1 : ∀ v ∈ (Builtin.zeroCells z.cells n).toList, v.oneCell' = true) (hg : Var w g cur tt) (hfit : o + n * size ≤ cur.size) :
    (Builtin.clear_ #[t] ty #[.slice (some ⟨g, o, none⟩) n c]).run P w =
      .ok (.tuple #[]) (w.setRow g (cur.toList.take o ++ (Builtin.zeroCells z.cells n).toList ++ cur.toList.drop (o + n * size)).toArray) := by
  subst hz
  have hl : (Builtin.zeroCells z.cells n).toList.length = n * z.cells.size := by rw [Array.length_toList, size_zeroCells]
  have hst := run_storeCells_at P g o tt (Builtin.zeroCells z.cells n).toList 0 cur w hg (by rw [hl]; simpa using hfit) h1
  simp only [Nat.add_zero, hl] at hst
  obtain ⟨m, rfl⟩ : ∃ m, n = m + 1 := ⟨n - 1, by omega⟩
  simp [Builtin.clear_, run_underlying ht, hv, hst]
theorem step_append_runI {ops : Array Oper} {o : Oper} {a : Act} {w : World} {K : Act → World → Prop} {Q : Exit → Act → World → Prop} {E : Prop}
    (hg : o.guard = none) (d x : Operand) (dT sT : TypeId) (hop : o.op = Op.call { callee := Callee.builtin Builtin.append, args := #[d, x], argTypes := #[dT, sT] })
    (v u : Value) {v' : Value} {w' : World} (hr : (Builtin.append_ #[dT, sT] o.type #[v, u]).run P w = .ok v' w') (hd : a.eval d = v) (hx : a.eval x = u) (hK : K (a.put o.dst v') w') :
    if Region.wanted o (yielded ops a.tmps) = true then Oper.wp P o a w K Q else E := by
  have hw : Region.wanted o (yielded ops a.tmps) = true := by simp [Region.wanted, hg]
  rw [if_pos hw]
  unfold Oper.wp
  simp [execOp, hop, resolve, invoke, builtin, hd, hx, hr, Result.andThen]
  exact hK
theorem step_copy_runI {ops : Array Oper} {o : Oper} {a : Act} {w : World} {K : Act → World → Prop} {Q : Exit → Act → World → Prop} {E : Prop}
    (hg : o.guard = none) (d x : Operand) (dT sT : TypeId) (hop : o.op = Op.call { callee := Callee.builtin Builtin.copy, args := #[d, x], argTypes := #[dT, sT] })
    (v u : Value) {v' : Value} {w' : World} (hr : (Builtin.copy_ #[dT, sT] o.type #[v, u]).run P w = .ok v' w') (hd : a.eval d = v) (hx : a.eval x = u) (hK : K (a.put o.dst v') w') :
    if Region.wanted o (yielded ops a.tmps) = true then Oper.wp P o a w K Q else E := by
  have hw : Region.wanted o (yielded ops a.tmps) = true := by simp [Region.wanted, hg]
  rw [if_pos hw]
  unfold Oper.wp
  simp [execOp, hop, resolve, invoke, builtin, hd, hx, hr, Result.andThen]
  exact hK
theorem wpList_copy_runI {ops : Array Oper} {rest : List Oper} {o : Oper} {a : Act} {Q : Exit → Act → World → Prop} (hgd : o.guard = none) (d s : Operand) (t t' : TypeId)
    (ho : o.op = .call { callee := .builtin .copy, args := #[d, s], argTypes := #[t, t'] }) (v u : Value) (hd : a.eval d = v) (hs : a.eval s = u) {v' : Value} {w' : World}
    (hr : (Builtin.copy_ #[t, t'] o.type #[v, u]).run P w = .ok v' w') (h : wpList P ops Q rest (a.put o.dst v') w') : wpList P ops Q (o :: rest) a w :=
  wpList_plain hgd fun K hK => by
    unfold Oper.wp execOp
    simp only [ho, resolve, invoke, builtin, Sem.run_bind, Sem.run_pure, Result.andThen_ok, List.map_toArray, List.map_cons, List.map_nil, hd, hs, hr]
    exact hK _ _ h
theorem wpList_clear_runI {ops : Array Oper} {rest : List Oper} {o : Oper} {a : Act} {Q : Exit → Act → World → Prop} (hgd : o.guard = none) (d : Operand) (t : TypeId)
    (ho : o.op = .call { callee := .builtin .clear, args := #[d], argTypes := #[t] }) (v : Value) (hd : a.eval d = v) {v' : Value} {w' : World}
    (hr : (Builtin.clear_ #[t] o.type #[v]).run P w = .ok v' w') (h : wpList P ops Q rest (a.put o.dst v') w') : wpList P ops Q (o :: rest) a w :=
  wpList_plain hgd fun K hK => by
    unfold Oper.wp execOp
    simp only [ho, resolve, invoke, builtin, Sem.run_bind, Sem.run_pure, Result.andThen_ok, List.map_toArray, List.map_cons, List.map_nil, hd, hr]
    exact hK _ _ h
end
/-- A row that is laid anew keeps its block's kind; nothing else turns. -/
theorem Var.row {w : World} {g : Nat} {cur : Array Value} {t : TypeId} (h : Var w g cur t) (C : Array Value) : Var (w.setRow g C) g C t := setRow_heap w g cur C t (0, 0) h
theorem only_row (w : World) (g : Nat) (C : Array Value) : Only (fun j => j = g) w (w.setRow g C) := ⟨rfl, rfl, rfl, by simp, fun k _ hk => setRow_other w g k C hk⟩
theorem Var.otherRow {w : World} {g q : Nat} {cur : Array Value} {t : TypeId} (h : Var w q cur t) (hne : q ≠ g) (C : Array Value) : Var (w.setRow g C) q cur t := by
  unfold Var
  rw [setRow_other w g q C hne]
  exact h

theorem Try.sizeEnR : ∀ W : World, (sizeOf (Try.prog.elem 44)).run Try.prog W = .ok 2 W := fun W => by
  have he : Try.prog.elem 44 = 41 := by kernel_rfl
  rw [he]
  obtain ⟨i, hi, hz0, hz1, hz2⟩ := info_parts Try.infoEnt
  simp [sizeOf, typeInfo, hi, hz1]
theorem Try.size41 : ∀ W : World, (sizeOf 41).run Try.prog W = .ok 2 W := fun W => by
  obtain ⟨i, hi, hz0, hz1, hz2⟩ := info_parts Try.infoEnt
  simp [sizeOf, typeInfo, hi, hz1]
theorem Try.elemEnR : Try.prog.underlying 44 = some (.slice (Try.prog.elem 44)) := by kernel_rfl
theorem cutHiR (a : Option Addr) (c L k : Nat) (hk : k ≤ c) (W : World) : (Instr.slice 44 (.slice a L c) none (some (.int .i64 (k : Int))) none).run Try.prog W = .ok (.slice a k c) W := by
  have e := run_slice_h W 44 a L c Try.elemEnR .i64 (k : Int) (by omega) (by omega)
  rw [e, Try.sizeEnR]
  simp [sliced]
  intro _
  cases a with
  | none => rfl
  | some x => simp [Addr.add]
theorem cutLoR (g c L k : Nat) (hk : k ≤ L) (hc : k < c) (W : World) : (Instr.slice 44 (.slice (some ⟨g, 0, none⟩) L c) (some (.int .i64 (k : Int))) none none).run Try.prog W = .ok (.slice (some ⟨g, k * 2, none⟩) (L - k) (c - k)) W := by
  have e := run_slice_l W 44 (some ⟨g, 0, none⟩) L c Try.elemEnR .i64 (k : Int) (by omega) (by omega)
  rw [e, Try.sizeEnR]
  have hne : ¬ c = k := by omega
  by_cases h0 : k = 0
  · subst h0
    simp [sliced, Addr.add]
  · have hk2 : ¬ k * 2 = 0 := by omega
    simp [sliced, Addr.add, hne, hk2]
theorem cutLoE (g c L k : Nat) (hk : k ≤ L) (hc : L ≤ c) : ∃ a' c', (∀ W : World, (Instr.slice 44 (.slice (some ⟨g, 0, none⟩) L c) (some (.int .i64 (k : Int))) none none).run Try.prog W = .ok (.slice a' (L - k) c') W) ∧ (L - k = 0 ∨ a' = some ⟨g, k * 2, none⟩) ∧ a' ≠ none := by
  refine ⟨if c = k then some ⟨g, 0, none⟩ else some ⟨g, k * 2, none⟩, c - k, fun W => ?_, ?_, ?_⟩
  · have e := run_slice_l W 44 (some ⟨g, 0, none⟩) L c Try.elemEnR .i64 (k : Int) (by omega) (by omega)
    rw [e, Try.sizeEnR]
    by_cases h0 : k = 0
    · subst h0
      simp [sliced, Addr.add]
    · have hk2 : ¬ k * 2 = 0 := by omega
      simp [sliced, Addr.add, hk2]
  · by_cases h : c = k
    · left; omega
    · right; rw [if_neg h]
  · split <;> simp
theorem cutMidR (g c L k h : Nat) (hk : k ≤ h) (hc : h ≤ c) (hkc : k < c) (W : World) : (Instr.slice 44 (.slice (some ⟨g, 0, none⟩) L c) (some (.int .i64 (k : Int))) (some (.int .i64 (h : Int))) none).run Try.prog W = .ok (.slice (some ⟨g, k * 2, none⟩) (h - k) (c - k)) W := by
  have e := run_slice_lh W 44 (some ⟨g, 0, none⟩) L c Try.elemEnR .i64 .i64 (k : Int) (h : Int) (by omega) (by omega) (by omega)
  rw [e, Try.sizeEnR]
  have hne : ¬ c = k := by omega
  by_cases h0 : k = 0
  · subst h0
    simp [sliced, Addr.add]
  · have hk2 : ¬ k * 2 = 0 := by omega
    simp [sliced, Addr.add, hne, hk2]
theorem oneEn (l : List EntD) : ∀ u ∈ l.flatMap encN, u.oneCell' = true := fun u hu => by
  obtain ⟨p, _, hp⟩ := List.mem_flatMap.1 hu
  simp [encN] at hp
  rcases hp with rfl | rfl <;> rfl
theorem flat_take (l : List EntD) (k : Nat) : (l.flatMap encN).take (k * 2) = (l.take k).flatMap encN := by
  induction l generalizing k with
  | nil => simp
  | cons x l ih =>
    cases k with
    | zero => simp
    | succ k =>
      rw [List.take_succ_cons, List.flatMap_cons, List.flatMap_cons, ← ih k, show (k + 1) * 2 = k * 2 + 2 by omega, show encN x = [.string x.1, .int .i64 x.2] from rfl]
      rfl
theorem flat_drop (l : List EntD) (k : Nat) : (l.flatMap encN).drop (k * 2) = (l.drop k).flatMap encN := by
  induction l generalizing k with
  | nil => simp
  | cons x l ih =>
    cases k with
    | zero => simp
    | succ k =>
      rw [List.drop_succ_cons, List.flatMap_cons, ← ih k, show (k + 1) * 2 = k * 2 + 2 by omega, show encN x = [.string x.1, .int .i64 x.2] from rfl]
      rfl
/-- The cells of a row from an element on. -/
theorem cellsFrom {w : World} {g n : Nat} {cur : Array Value} {t : TypeId} {l : List EntD} (h : Var w g cur t) (hn : cur.toList.take (n * 2) = l.flatMap encN) (k : Nat) : ∀ j v, ((l.drop k).flatMap encN)[j]? = some v → w.cell? ((⟨g, k * 2, none⟩ : Addr).add j) = some v := by
  intro j v hj
  rw [Go.WideShapes.add_plain, h.cell]
  rw [← flat_drop, List.getElem?_drop, ← hn, List.getElem?_take] at hj
  split at hj
  · rw [← Array.getElem?_toList]; exact hj
  · cases hj
end Go.Proofs.Ytogpgocldgdeaaa
