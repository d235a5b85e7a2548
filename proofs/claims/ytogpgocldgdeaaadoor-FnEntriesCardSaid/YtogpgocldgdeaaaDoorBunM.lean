/-
  Own texts, several together.
-/
import Derived.Test.YtogpgocldgdeaaaDoorSAddB
import Derived.Test.YtogpgocldgdeaaaDoorIEntW
import Derived.Test.YtogpgocldgdeaaaDoorAppAt
import Derived.Lib.AppendZerosOnto
import Derived.Lib.Overlaps
import Derived.Laws.Externs
import Derived.Test.YtogpgocldgdeaaaDoorBunQ
import Derived.Test.YtogpgocldgdeaaaDoorSAddW
import Derived.Test.YtogpgocldgdeaaaDoorIFindW
/-
  Own text: a copy of a row of entries, as the program makes it.
-/
namespace Go.Proofs.YtogpgocldgdeaaaDoor
open Go.RowKit

theorem Tryd.sizeE1 : (Tryd.prog.info? 32).map (·.size) = some 2 := by kernel_rfl
theorem Tryd.methFresh (s : ByteArray) (n : Int) : ∀ w, (method 32 32 (.agg #[.string s, .int .i64 n]) "loop.example/g00483/impl.fresh").run Tryd.prog w = .ok (78, .agg #[.string s, .int .i64 n]) w := fun _ => by kernel_rfl

set_option maxRecDepth 20000 in
set_option maxHeartbeats 1000000 in
theorem entFreshW (s : ByteArray) (n : Int) (w : World) (hs : s.size ≤ 281474976710656) :
    Calls Tryd.prog 78 #[.agg #[.string s, .int .i64 n]] w fun e w' => e = .returned (.agg #[.string s, .int .i64 n]) ∧ Below w.heap.size w w' := by
  have HC : Hid (∀ W, Below (w.heap.size + 2) ((w.alloc (.cells #[.string s, .int .i64 n] 32)).alloc (.cells #[.string ⟨#[]⟩, .int .i64 0] 32)) W → Calls Tryd.prog 80 #[.string s] W fun e w' => e = .returned (.string s) ∧ Below (w.heap.size + 2) ((w.alloc (.cells #[.string s, .int .i64 n] 32)).alloc (.cells #[.string ⟨#[]⟩, .int .i64 0] 32)) w' ∧ Var w' (w.heap.size + 1) #[.string ⟨#[]⟩, .int .i64 0] 32 ∧ w'.cell? ⟨w.heap.size, 1, none⟩ = some (.int .i64 n) ∧ w'.cell? ⟨w.heap.size + 1, 0, none⟩ = some (.string ⟨#[]⟩) ∧ w'.cell? ⟨w.heap.size + 1, 1, none⟩ = some (.int .i64 0) ∧ w'.frozen? ⟨w.heap.size + 1, 0, none⟩ = false ∧ w'.frozen? ⟨w.heap.size + 1, 1, none⟩ = false) := by
    intro W h
    refine (cloneT s W hs).mono ?_
    rintro e w' ⟨rfl, hb⟩
    have hz : w.heap.size + 2 ≤ W.heap.size := by have := h.size; simp at this; omega
    have h2 := h.trans (hb.mono hz)
    have hv := (((Var.made w #[.string s, .int .i64 n] 32).alloc (.cells #[.string ⟨#[]⟩, .int .i64 0] 32)).below h2 (by omega)).cell 1
    have hr := (Var.made2 w (.cells #[.string s, .int .i64 n] 32) #[.string ⟨#[]⟩, .int .i64 0] 32).below h2 (by omega)
    exact ⟨rfl, h2, hr, hv, hr.cell 0, hr.cell 1, hr.frozen 0, hr.frozen 1⟩
  have HB0 : Hid (Below (w.heap.size + 2) ((w.alloc (.cells #[.string s, .int .i64 n] 32)).alloc (.cells #[.string ⟨#[]⟩, .int .i64 0] 32)) ((w.alloc (.cells #[.string s, .int .i64 n] 32)).alloc (.cells #[.string ⟨#[]⟩, .int .i64 0] 32)).drew) := (Below.refl _ _).drew
  have HBE : Hid (∀ W, Below (w.heap.size + 2) ((w.alloc (.cells #[.string s, .int .i64 n] 32)).alloc (.cells #[.string ⟨#[]⟩, .int .i64 0] 32)) W → Below w.heap.size w W) := fun W h => (below2 w _ _).trans (h.mono (by omega))
  go_enter Tryd.func78, Tryd.ntmps78
  go_wp2
  go_region_with (go_at_call 80; refine (HC.out _ HB0.out).mono ?_; rintro e w2 ⟨rfl, hb2, hV, d0, d1, d2, d3, d4⟩)
  all_goals
    have hb4 := ((HBE.out _ hb2).setCell (p := ⟨w.heap.size + 1, 0, none⟩) (Nat.le_succ _) (.string s)).setCell (p := ⟨w.heap.size + 1, 1, none⟩) (Nat.le_succ _) (.int .i64 n)
    have hV2 := (hV.set 0 (.string s)).set 1 (.int .i64 n)
    simp only [List.setIfInBounds_toArray, List.set_cons_zero, List.set_cons_succ] at hV2
    go_wp2
    refine bodyPost_ret (results_cell_row rfl _ _ (w.heap.size + 1) 32 #[.string s, .int .i64 n] (0, 0) _ rfl hV2 Tryd.underlying32 rfl Tryd.sizeE1) rfl ?_
    exact ⟨rfl, hb4⟩

theorem srcEnRow (w : World) (s : ByteArray) (n : Int) : Src Tryd.prog 2 47 (.slice (some ⟨w.heap.size, 0, none⟩) 1 1) 1 [.string s, .int .i64 n] (w.alloc (.cells #[.string s, .int .i64 n] 32)) := by
  refine Src.ofSlice _ Tryd.underlying47 ⟨w.heap.size, 0, none⟩ 1 1 [.string s, .int .i64 n] rfl (fun j u hj => ?_) (fun u hu => ?_)
  · rw [Go.WideShapes.add_plain, Nat.zero_add, (Var.made w #[.string s, .int .i64 n] 32).cell j]
    rw [← hj]
    simp
  · simp at hu
    rcases hu with rfl | rfl <;> rfl
/-- Entries that are short enough to be copied. -/
def ShE (l : List EntD) : Prop := l.length ≤ 4194304 ∧ ∀ e ∈ l, e.1.size ≤ 1048576
theorem SmE.sh {l : List EntD} (h : SmE l) : ShE l := ⟨by have := szEn_len l; have := h.1; omega, h.2⟩

set_option maxRecDepth 20000 in
set_option maxHeartbeats 2000000 in
theorem freshEn (a : Option Addr) (c : Nat) (l : List EntD) (w : World) (hl : ShE l) (hr : RdF encN 2 w a l) :
    Calls Tryd.prog 24 #[.slice a l.length c] w fun e w' => ∃ v, e = .returned v ∧ w'.ownsRow w.heap.size 32 2 v l.length (l.flatMap encN) ∧ Below w.heap.size w w' := by
  obtain ⟨i0, hi, hz0, hz1, hz2⟩ := info_parts Tryd.infoEnt
  have hll := hl.1
  have HSZ : Hid (∀ e ∈ l, e.1.size ≤ 1048576) := hl.2
  have HCS : Hid (∀ k (hk : k < l.length), ∃ b off, a = some ⟨b, off, none⟩ ∧ b < w.heap.size ∧ ∀ j, j < 2 → w.cell? ⟨b, off + k * 2 + j, none⟩ = (encN l[k])[j]?) := fun k hk => hr.at k hk
  have HO0 : Hid (w.ownsRow w.heap.size 32 2 (.slice none 0 0) (l.take 0).length ((l.take 0).flatMap encN)) := World.ownsRow_nil _ _ _ _
  have hb0 : Below w.heap.size w w := Below.refl _ _
  clear hr hl
  go_enter Tryd.func24, Tryd.ntmps24
  go_wp2
  go_loopw [3, 8] (fun v i wr => ∃ (k : Nat) (v' : Value), v' = v ∧ k ≤ l.length ∧ i = .int .i64 k ∧ Hid (wr.ownsRow w.heap.size 32 2 v' (l.take k).length ((l.take k).flatMap encN)) ∧ Below w.heap.size w wr) (fun _ i _ => l.length - (intOf i).toNat)
  case atStart => exact ⟨0, _, rfl, Nat.zero_le _, rfl, HO0, hb0⟩
  case round =>
    clear HO0 hb0
    obtain ⟨k, v', rfl, hk, rfl, HO, hB⟩ := hrel
    by_cases hlt : k < l.length
    · obtain ⟨b, off, rfl, hblt, hcell⟩ := HCS.out k hlt
      have hc0 : wr.cell? ⟨b, off + k * 2, none⟩ = some (.string l[k].1) := (hB.cell hblt).trans (hcell 0 (by omega))
      have hc1 : wr.cell? ⟨b, off + k * 2 + 1, none⟩ = some (.int .i64 l[k].2) := (hB.cell hblt).trans (hcell 1 (by omega))
      have hes := HSZ.out _ (List.getElem_mem hlt)
      have HTK : Hid ((l.take (k + 1)).length = k + 1 ∧ (l.take (k + 1)).flatMap encN = (l.take k).flatMap encN ++ [.string l[k].1, .int .i64 l[k].2]) := by
        refine ⟨by rw [List.length_take]; omega, ?_⟩
        rw [List.take_succ_eq_append_getElem hlt, List.flatMap_append]
        simp [encN]
      have HLK : (l.take k).length = k := by rw [List.length_take]; omega
      rw [HLK] at HO
      clear hcell HLK
      generalize (l[k]).1 = s at *
      generalize (l[k]).2 = n at *
      generalize (l.take k).flatMap encN = X at *
      obtain ⟨av, cv, rfl⟩ : ∃ av cv, v' = .slice av k cv := by
        rcases HO.out.2 with ⟨rfl, h0⟩ | ⟨g, cap, cur, rfl, _⟩
        · exact ⟨none, 0, by rw [h0]⟩
        · exact ⟨_, _, rfl⟩
      have hm := Tryd.methFresh s n
      go_wp2_with fail
      refine (entFreshW s n _ (by omega)).mono ?_
      rintro e w1 ⟨rfl, hb1⟩
      have hB0 : Below w.heap.size w (wr.alloc (.cells #[.string s, .int .i64 n] 32)) := hB.alloc hB.size _
      have hB1 := hB0.trans (hb1.mono hB0.size)
      have hB2 : Below w.heap.size w (w1.alloc (.cells #[.string s, .int .i64 n] 32)) := hB1.alloc hB1.size _
      have HO1 : Hid ((w1.alloc (.cells #[.string s, .int .i64 n] 32)).ownsRow w.heap.size 32 2 (.slice av k cv) k X) := ownsRow_below (ownsRow_below (ownsRow_below HO.out (below1 wr _) (Nat.le_refl _)) hb1 (Nat.le_refl _)) (below1 w1 _) (Nat.le_refl _)
      have HS1 : Hid (Src Tryd.prog 2 47 (.slice (some ⟨w1.heap.size, 0, none⟩) 1 1) 1 [.string s, .int .i64 n] (w1.alloc (.cells #[.string s, .int .i64 n] 32))) := srcEnRow w1 s n
      clear HO hb1 hB0 hB1 hc0 hc1 hB
      go_wp2_with (at_builtin; refine wpList_append_own_src _ rfl (.tmp 12) (.tmp 16) 47 47 rfl w.heap.size 32 i0 _ 2 24 Tryd.underlying47 hi hz0 hz1 hz2 rfl _ _ _ rfl HO1.out _ 1 [.string s, .int .i64 n] rfl HS1.out (by unfold maxLen; omega) (by omega) hB2.size ?_)
      intro v2 w2 ho2 hg2
      have hB3 : Below w.heap.size w w2 := hB2.grown hg2 hB2.size (fun q hq => (HO1.out.lt q hq).1)
      have HO2 : Hid (w2.ownsRow w.heap.size 32 2 v2 (l.take (k + 1)).length ((l.take (k + 1)).flatMap encN)) := by
        show World.ownsRow _ _ _ _ _ _ _
        rw [HTK.out.1, HTK.out.2]
        exact ho2
      clear ho2 hg2 HO1 HS1 hB2
      go_wp2
      go_roundw
      case rel => exact ⟨k + 1, _, rfl, by omega, by go_num, HO2, hB3⟩
      case measure => simp [intOf]; omega
    · obtain rfl : k = l.length := by omega
      have hO := HO.out
      rw [List.take_length] at hO
      have HO3 : Hid (wr.ownsRow w.heap.size 32 2 v' l.length (l.flatMap encN)) := hO
      clear hO HO
      go_wp2
      go_ret
      exact ⟨_, rfl, HO3.out, hB⟩
end Go.Proofs.YtogpgocldgdeaaaDoor

/-
  Own text: append in place, copy and clear over rows whose elements have several cells, as run equations; the same as steps of a walk; cuts of a row of entries.
-/
namespace Go.Proofs.YtogpgocldgdeaaaDoor
open Go.RowKit Go.Lib

section
variable {P : Program} (w : World)
theorem run_append_roomV (t tx ty e : TypeId) (i : TypeInfo) (size : Nat) (ht : P.underlying t = some (.slice e)) (hi : P.info? e = some i) (hsize : i.size = size)
    (g n cap : Nat) (cur : Array Value) (hg : Var w g cur e) (hcs : cur.size = cap * size) (x : Value) (m : Nat) (news : List Value) (hs : Src P size tx x m news w) (hroom : n + m ≤ cap) :
    (Builtin.append_ #[t, tx] ty #[.slice (some ⟨g, 0, none⟩) n cap, x]).run P w =
      .ok (.slice (some ⟨g, 0, none⟩) (n + m) cap) (w.setRow g (cur.toList.take (n * size) ++ news ++ cur.toList.drop (n * size + news.length)).toArray) := by
  subst hsize
  have hl := hs.newsLen
  have hfit : n * i.size + news.length ≤ cur.size := by rw [hl, hcs, ← Nat.add_mul]; exact Nat.mul_le_mul_right _ hroom
  have hst := run_storeCells_at P g (n * i.size) e news 0 cur w hg (by simpa using hfit) hs.one
  simp only [Nat.add_zero] at hst
  rcases hs.kind with ⟨e', hk⟩ | hk <;> simp [Builtin.append_, run_underlying ht, run_underlying hk, sizeOf, typeInfo, hi, hs.len, hroom, hs.cells, Addr.add_lit, hst]
theorem run_copyV (dT sT ty elem t : TypeId) (size : Nat) (g o dLen dCap : Nat) (a : Addr) (sLen sCap : Nat) (cur : Array Value) (cs : List Value) (hu : P.underlying dT = some (.slice elem)) (hz : ∀ W : World, (Go.sizeOf elem).run P W = .ok size W)
    (hg : Var w g cur t) (hn : cs.length = Nat.min sLen dLen * size) (hsrc : ∀ j v, cs[j]? = some v → w.cell? (a.add j) = some v) (hfit : o + cs.length ≤ cur.size) (h1 : ∀ v ∈ cs, v.oneCell' = true) :
    (Builtin.copy_ #[dT, sT] ty #[.slice (some ⟨g, o, none⟩) dLen dCap, .slice (some a) sLen sCap]).run P w =
      .ok (goInt (Nat.min sLen dLen)) (w.setRow g (cur.toList.take o ++ cs ++ cur.toList.drop (o + cs.length)).toArray) := by
  have hl := run_firstCells_some (P := P) w size (Nat.min sLen dLen) a sLen sCap cs hn hsrc
  have hst := run_storeCells_at P g o t cs 0 cur w hg (by simpa using hfit) h1
  simp only [Nat.add_zero] at hst
  simp only [Builtin.copy_]
  simp [run_underlying hu, Builtin.lenOf, hz]
  rw [hl]
  simp [hst]
theorem run_clearV (t e tt ty : TypeId) (z : Value) (size : Nat) (ht : P.underlying t = some (.slice e)) (hv : ∀ W : World, (zeroValue e).run P W = .ok z W) (hz : z.cells.size = size)
    (g o n c : Nat) (hn : 0 < n) (cur : Array Value) (h1 : ∀ v ∈ (Builtin.zeroCells z.cells n).toList, v.oneCell' = true) (hg : Var w g cur tt) (hfit : o + n * size ≤ cur.size) :
    (Builtin.clear_ #[t] ty #[.slice (some ⟨g, o, none⟩) n c]).run P w =
      .ok (.tuple #[]) (w.setRow g (cur.toList.take o ++ (Builtin.zeroCells z.cells n).toList ++ cur.toList.drop (o + n * size)).toArray) := by
  subst hz
  have hl : (Builtin.zeroCells z.cells n).toList.length = n * z.cells.size := by rw [Array.length_toList, size_zeroCells]
  have hst := run_storeCells_at P g o tt (Builtin.zeroCells z.cells n).toList 0 cur w hg (by rw [hl]; simpa using hfit) h1
  simp only [Nat.add_zero, hl] at hst
  obtain ⟨m, rfl⟩ : ∃ m, n = m + 1 := ⟨n - 1, by omega⟩
  simp [Builtin.clear_, run_underlying ht, hv, hst]
theorem step_append_runI {ops : Array Oper} {o : Oper} {a : Act} {w : World} {K : Act → World → Prop} {Q : Exit → Act → World → Prop} {E : Prop}
    (hg : o.guard = none) (d x : Operand) (dT sT : TypeId) (hop : o.op = Op.call { callee := Callee.builtin Builtin.append, args := #[d, x], argTypes := #[dT, sT] })
    (v u : Value) {v' : Value} {w' : World} (hr : (Builtin.append_ #[dT, sT] o.type #[v, u]).run P w = .ok v' w') (hd : a.eval d = v) (hx : a.eval x = u) (hK : K (a.put o.dst v') w') :
    if Region.wanted o (yielded ops a.tmps) = true then Oper.wp P o a w K Q else E := by
  have hw : Region.wanted o (yielded ops a.tmps) = true := by simp [Region.wanted, hg]
  rw [if_pos hw]
  unfold Oper.wp
  simp [execOp, hop, resolve, invoke, builtin, hd, hx, hr, Result.andThen]
  exact hK
theorem step_copy_runI {ops : Array Oper} {o : Oper} {a : Act} {w : World} {K : Act → World → Prop} {Q : Exit → Act → World → Prop} {E : Prop}
    (hg : o.guard = none) (d x : Operand) (dT sT : TypeId) (hop : o.op = Op.call { callee := Callee.builtin Builtin.copy, args := #[d, x], argTypes := #[dT, sT] })
    (v u : Value) {v' : Value} {w' : World} (hr : (Builtin.copy_ #[dT, sT] o.type #[v, u]).run P w = .ok v' w') (hd : a.eval d = v) (hx : a.eval x = u) (hK : K (a.put o.dst v') w') :
    if Region.wanted o (yielded ops a.tmps) = true then Oper.wp P o a w K Q else E := by
  have hw : Region.wanted o (yielded ops a.tmps) = true := by simp [Region.wanted, hg]
  rw [if_pos hw]
  unfold Oper.wp
  simp [execOp, hop, resolve, invoke, builtin, hd, hx, hr, Result.andThen]
  exact hK
theorem wpList_copy_runI {ops : Array Oper} {rest : List Oper} {o : Oper} {a : Act} {Q : Exit → Act → World → Prop} (hgd : o.guard = none) (d s : Operand) (t t' : TypeId)
    (ho : o.op = .call { callee := .builtin .copy, args := #[d, s], argTypes := #[t, t'] }) (v u : Value) (hd : a.eval d = v) (hs : a.eval s = u) {v' : Value} {w' : World}
    (hr : (Builtin.copy_ #[t, t'] o.type #[v, u]).run P w = .ok v' w') (h : wpList P ops Q rest (a.put o.dst v') w') : wpList P ops Q (o :: rest) a w :=
  wpList_plain hgd fun K hK => by
    unfold Oper.wp execOp
    simp only [ho, resolve, invoke, builtin, Sem.run_bind, Sem.run_pure, Result.andThen_ok, List.map_toArray, List.map_cons, List.map_nil, hd, hs, hr]
    exact hK _ _ h
theorem wpList_clear_runI {ops : Array Oper} {rest : List Oper} {o : Oper} {a : Act} {Q : Exit → Act → World → Prop} (hgd : o.guard = none) (d : Operand) (t : TypeId)
    (ho : o.op = .call { callee := .builtin .clear, args := #[d], argTypes := #[t] }) (v : Value) (hd : a.eval d = v) {v' : Value} {w' : World}
    (hr : (Builtin.clear_ #[t] o.type #[v]).run P w = .ok v' w') (h : wpList P ops Q rest (a.put o.dst v') w') : wpList P ops Q (o :: rest) a w :=
  wpList_plain hgd fun K hK => by
    unfold Oper.wp execOp
    simp only [ho, resolve, invoke, builtin, Sem.run_bind, Sem.run_pure, Result.andThen_ok, List.map_toArray, List.map_cons, List.map_nil, hd, hr]
    exact hK _ _ h
end
/-- A row that is laid anew keeps its block's kind; nothing else turns. -/
theorem Var.row {w : World} {g : Nat} {cur : Array Value} {t : TypeId} (h : Var w g cur t) (C : Array Value) : Var (w.setRow g C) g C t := setRow_heap w g cur C t (0, 0) h
theorem only_row (w : World) (g : Nat) (C : Array Value) : Only (fun j => j = g) w (w.setRow g C) := ⟨rfl, rfl, rfl, by simp, fun k _ hk => setRow_other w g k C hk⟩
theorem Var.otherRow {w : World} {g q : Nat} {cur : Array Value} {t : TypeId} (h : Var w q cur t) (hne : q ≠ g) (C : Array Value) : Var (w.setRow g C) q cur t := by
  unfold Var
  rw [setRow_other w g q C hne]
  exact h

theorem Tryd.sizeEnR : ∀ W : World, (sizeOf (Tryd.prog.elem 47)).run Tryd.prog W = .ok 2 W := fun W => by
  have he : Tryd.prog.elem 47 = 32 := by kernel_rfl
  rw [he]
  obtain ⟨i, hi, hz0, hz1, hz2⟩ := info_parts Tryd.infoEnt
  simp [sizeOf, typeInfo, hi, hz1]
theorem Tryd.size41 : ∀ W : World, (sizeOf 32).run Tryd.prog W = .ok 2 W := fun W => by
  obtain ⟨i, hi, hz0, hz1, hz2⟩ := info_parts Tryd.infoEnt
  simp [sizeOf, typeInfo, hi, hz1]
theorem Tryd.elemEnR : Tryd.prog.underlying 47 = some (.slice (Tryd.prog.elem 47)) := by kernel_rfl
theorem cutHiR (a : Option Addr) (c L k : Nat) (hk : k ≤ c) (W : World) : (Instr.slice 47 (.slice a L c) none (some (.int .i64 (k : Int))) none).run Tryd.prog W = .ok (.slice a k c) W := by
  have e := run_slice_h W 47 a L c Tryd.elemEnR .i64 (k : Int) (by omega) (by omega)
  rw [e, Tryd.sizeEnR]
  simp [sliced]
  intro _
  cases a with
  | none => rfl
  | some x => simp [Addr.add]
theorem cutLoR (g c L k : Nat) (hk : k ≤ L) (hc : k < c) (W : World) : (Instr.slice 47 (.slice (some ⟨g, 0, none⟩) L c) (some (.int .i64 (k : Int))) none none).run Tryd.prog W = .ok (.slice (some ⟨g, k * 2, none⟩) (L - k) (c - k)) W := by
  have e := run_slice_l W 47 (some ⟨g, 0, none⟩) L c Tryd.elemEnR .i64 (k : Int) (by omega) (by omega)
  rw [e, Tryd.sizeEnR]
  have hne : ¬ c = k := by omega
  by_cases h0 : k = 0
  · subst h0
    simp [sliced, Addr.add]
  · have hk2 : ¬ k * 2 = 0 := by omega
    simp [sliced, Addr.add, hne, hk2]
theorem cutLoE (g c L k : Nat) (hk : k ≤ L) (hc : L ≤ c) : ∃ a' c', (∀ W : World, (Instr.slice 47 (.slice (some ⟨g, 0, none⟩) L c) (some (.int .i64 (k : Int))) none none).run Tryd.prog W = .ok (.slice a' (L - k) c') W) ∧ (L - k = 0 ∨ a' = some ⟨g, k * 2, none⟩) ∧ a' ≠ none := by
  refine ⟨if c = k then some ⟨g, 0, none⟩ else some ⟨g, k * 2, none⟩, c - k, fun W => ?_, ?_, ?_⟩
  · have e := run_slice_l W 47 (some ⟨g, 0, none⟩) L c Tryd.elemEnR .i64 (k : Int) (by omega) (by omega)
    rw [e, Tryd.sizeEnR]
    by_cases h0 : k = 0
    · subst h0
      simp [sliced, Addr.add]
    · have hk2 : ¬ k * 2 = 0 := by omega
      simp [sliced, Addr.add, hk2]
  · by_cases h : c = k
    · left; omega
    · right; rw [if_neg h]
  · split <;> simp
theorem cutMidR (g c L k h : Nat) (hk : k ≤ h) (hc : h ≤ c) (hkc : k < c) (W : World) : (Instr.slice 47 (.slice (some ⟨g, 0, none⟩) L c) (some (.int .i64 (k : Int))) (some (.int .i64 (h : Int))) none).run Tryd.prog W = .ok (.slice (some ⟨g, k * 2, none⟩) (h - k) (c - k)) W := by
  have e := run_slice_lh W 47 (some ⟨g, 0, none⟩) L c Tryd.elemEnR .i64 .i64 (k : Int) (h : Int) (by omega) (by omega) (by omega)
  rw [e, Tryd.sizeEnR]
  have hne : ¬ c = k := by omega
  by_cases h0 : k = 0
  · subst h0
    simp [sliced, Addr.add]
  · have hk2 : ¬ k * 2 = 0 := by omega
    simp [sliced, Addr.add, hne, hk2]
theorem oneEn (l : List EntD) : ∀ u ∈ l.flatMap encN, u.oneCell' = true := fun u hu => by
  obtain ⟨p, _, hp⟩ := List.mem_flatMap.1 hu
  simp [encN] at hp
  rcases hp with rfl | rfl <;> rfl
theorem flat_take (l : List EntD) (k : Nat) : (l.flatMap encN).take (k * 2) = (l.take k).flatMap encN := by
  induction l generalizing k with
  | nil => simp
  | cons x l ih =>
    cases k with
    | zero => simp
    | succ k =>
      rw [List.take_succ_cons, List.flatMap_cons, List.flatMap_cons, ← ih k, show (k + 1) * 2 = k * 2 + 2 by omega, show encN x = [.string x.1, .int .i64 x.2] from rfl]
      rfl
theorem flat_drop (l : List EntD) (k : Nat) : (l.flatMap encN).drop (k * 2) = (l.drop k).flatMap encN := by
  induction l generalizing k with
  | nil => simp
  | cons x l ih =>
    cases k with
    | zero => simp
    | succ k =>
      rw [List.drop_succ_cons, List.flatMap_cons, ← ih k, show (k + 1) * 2 = k * 2 + 2 by omega, show encN x = [.string x.1, .int .i64 x.2] from rfl]
      rfl
/-- The cells of a row from an element on. -/
theorem cellsFrom {w : World} {g n : Nat} {cur : Array Value} {t : TypeId} {l : List EntD} (h : Var w g cur t) (hn : cur.toList.take (n * 2) = l.flatMap encN) (k : Nat) : ∀ j v, ((l.drop k).flatMap encN)[j]? = some v → w.cell? ((⟨g, k * 2, none⟩ : Addr).add j) = some v := by
  intro j v hj
  rw [Go.WideShapes.add_plain, h.cell]
  rw [← flat_drop, List.getElem?_drop, ← hn, List.getElem?_take] at hj
  split at hj
  · rw [← Array.getElem?_toList]; exact hj
  · cases hj
end Go.Proofs.YtogpgocldgdeaaaDoor

/-
  Own text: slices.Insert of one entry into a row of the call's own (written by insgen.py).
-/
namespace Go.Proofs.YtogpgocldgdeaaaDoor
open Go.RowKit Go.Lib

def insE (l : List EntD) (i : Nat) (s : ByteArray) (n : Int) : List EntD := l.take i ++ (s, n) :: l.drop i
theorem insE_len {l : List EntD} {i : Nat} {s : ByteArray} {n : Int} (hi : i ≤ l.length) : (insE l i s n).length = l.length + 1 := by unfold insE; simp; omega
theorem insE_flat (l : List EntD) (i : Nat) (s : ByteArray) (n : Int) : (insE l i s n).flatMap encN = (l.take i).flatMap encN ++ [.string s, .int .i64 n] ++ (l.drop i).flatMap encN := by
  unfold insE
  rw [List.flatMap_append, List.flatMap_cons]
  simp [encN]
/-- What a place of a list holds, put in by pieces. -/
theorem put_in {X A Y : List Value} {p q : Nat} (hp : X.length = p) : ((X ++ Y).take p ++ A ++ (X ++ Y).drop (p + q)) = X ++ A ++ Y.drop q := by
  subst hp
  rw [List.take_left, List.drop_append, Nat.add_sub_cancel_left, List.drop_eq_nil_of_le (Nat.le_add_right _ _), List.nil_append]

/-- In place: what is told of a row of which all cells from i on are put anew. -/
theorem ins_done {w : World} {base g cap : Nat} {l : List EntD} {i : Nat} {s : ByteArray} {n : Int} {C : Array Value} (hi : i ≤ l.length) (hV : Var w g C 32) (hbg : base ≤ g) (hnc : l.length + 1 ≤ cap) (hcm : cap ≤ maxLen) (hcs : C.size = cap * 2) (ht : ∃ Z, C.toList = (insE l i s n).flatMap encN ++ Z) :
    w.ownsRow base 32 2 (.slice (some ⟨g, 0, none⟩) (l.length + 1) cap) (l.length + 1) ((insE l i s n).flatMap encN) := by
  obtain ⟨Z, hZ⟩ := ht
  refine ⟨by rw [flat_len_c encN_len, insE_len hi], .inr ⟨g, cap, C, rfl, hbg, hV, hnc, hcm, hcs, ?_⟩⟩
  rw [hZ]
  have e : (l.length + 1) * 2 = ((insE l i s n).flatMap encN).length := by rw [flat_len_c encN_len, insE_len hi]
  rw [e, List.take_left]

set_option maxRecDepth 20000 in
set_option maxHeartbeats 4000000 in
/-- At the end. -/
theorem insEnd (base vb : Nat) (v : Value) (l : List EntD) (s : ByteArray) (n : Int) (w : World) (hl : l.length ≤ 4194304) (hbase : base ≤ w.heap.size) (ho : w.ownsRow base 32 2 v l.length (l.flatMap encN)) (hx : Var w vb #[.string s, .int .i64 n] 32) :
    Calls Tryd.prog 45 #[v, .int .i64 (l.length : Nat), .slice (some ⟨vb, 0, none⟩) 1 1] w fun e w' => ∃ v', e = .returned v' ∧ w'.ownsRow base 32 2 v' (l.length + 1) ((insE l l.length s n).flatMap encN) ∧ Only (blk v) w w' := by
  obtain ⟨i0, hi0, hz0, hz1, hz2⟩ := info_parts Tryd.infoEnt
  have hsrc : Src Tryd.prog 2 24 (.slice (some ⟨vb, 0, none⟩) 1 1) 1 [.string s, .int .i64 n] w := by
    refine Src.ofSlice _ Tryd.underlying24 ⟨vb, 0, none⟩ 1 1 [.string s, .int .i64 n] rfl (fun j u hj => ?_) (fun u hu => ?_)
    · rw [Go.WideShapes.add_plain, Nat.zero_add, hx.cell j, ← hj]
      simp
    · simp at hu
      rcases hu with rfl | rfl <;> rfl
  have HS : Hid (Src Tryd.prog 2 24 (.slice (some ⟨vb, 0, none⟩) 1 1) 1 [.string s, .int .i64 n] w) := hsrc
  have HO : Hid (w.ownsRow base 32 2 v l.length (l.flatMap encN)) := ho
  obtain ⟨av, cv, rfl, hlc⟩ : ∃ av cv, v = .slice av l.length cv ∧ l.length ≤ cv := by
    rcases ho.2 with ⟨rfl, h0⟩ | ⟨g, cap, cur, rfl, _, _, h, _⟩
    · exact ⟨none, 0, by rw [h0], by omega⟩
    · exact ⟨_, _, rfl, h⟩
  have hE : (insE l l.length s n).flatMap encN = l.flatMap encN ++ [.string s, .int .i64 n] := by rw [insE_flat, List.take_length, List.drop_length]; simp
  rw [hE]
  obtain ⟨u, hu⟩ : ∃ u, ∀ W : World, (Instr.slice 47 (.slice av l.length cv) (some (.int .i64 (l.length : Int))) none none).run Tryd.prog W = .ok u W := ⟨_, fun W => by rw [run_slice_l W 47 av l.length cv Tryd.elemEnR .i64 (l.length : Int) (by omega) (by omega), Tryd.sizeEnR]; rfl⟩
  clear ho hsrc hx hE
  generalize l.flatMap encN = X at *
  go_enter Tryd.func45, Tryd.ntmps45
  go_wp2_with (at_builtin; refine wpList_append_own_src _ rfl (.tmp 23) (.tmp 24) 47 24 rfl base 32 i0 _ 2 24 Tryd.underlying47 hi0 hz0 hz1 hz2 rfl _ _ _ rfl HO.out _ 1 [.string s, .int .i64 n] rfl HS.out (by unfold maxLen; omega) (by omega) hbase ?_)
  intro v2 w2 ho2 hg2
  go_wp2
  go_ret
  exact ⟨_, rfl, ho2, (Only.of_grown hg2).mono fun k _ hk => hk⟩

set_option maxRecDepth 20000 in
set_option maxHeartbeats 4000000 in
/-- Ahead of the end, with room: in place. -/
theorem insShift (base vb g cap : Nat) (cur : Array Value) (l : List EntD) (i : Nat) (s : ByteArray) (n : Int) (w : World) (hl : l.length ≤ 4194304) (hi : i < l.length) (hbg : base ≤ g) (hV : Var w g cur 32) (hroom : l.length + 1 ≤ cap) (hcm : cap ≤ maxLen) (hcs : cur.size = cap * 2) (htake : cur.toList.take (l.length * 2) = l.flatMap encN) (hx : Var w vb #[.string s, .int .i64 n] 32) (hne : vb ≠ g) :
    Calls Tryd.prog 45 #[.slice (some ⟨g, 0, none⟩) l.length cap, .int .i64 (i : Nat), .slice (some ⟨vb, 0, none⟩) 1 1] w fun e w' => ∃ v', e = .returned v' ∧ w'.ownsRow base 32 2 v' (l.length + 1) ((insE l i s n).flatMap encN) ∧ Only (blk (.slice (some ⟨g, 0, none⟩) l.length cap)) w w' := by
  have hcm2 : cap ≤ 9223372036854775807 := by unfold maxLen at hcm; omega
  have hcl : cur.toList.length = cap * 2 := by rw [Array.length_toList (xs := cur)]; exact hcs
  have hov : ∀ lb cb, (callFunc 55 #[.slice (some ⟨vb, 0, none⟩) 1 1, .slice (some ⟨g, (i + 1) * 2, none⟩) lb cb]).run Tryd.prog w = .ok (.value (.bool false)) w := fun lb cb => by
    have hsa : w.shape? vb = some (32, 2) := by have h : w.heap[vb]? = _ := hx; simp [World.shape?, h]
    have hsb : w.shape? g = some (32, cap * 2) := by have h : w.heap[g]? = _ := hV; simp [World.shape?, h, hcs]
    rw [run_callFunc_extern Tryd.func55 (by kernel_rfl) (by kernel_rfl) (by kernel_rfl) (e := Extern.SlicesOverlaps.overlaps #[24, 24] #[4]) (by kernel_rfl),
      Lib.run_overlaps_apart w 24 4 32 Tryd.underlying24 2 Tryd.size41 ⟨vb, 0, none⟩ ⟨g, (i + 1) * 2, none⟩ 1 1 lb cb hne 32 32 2 (cap * 2) hsa hsb (by omega) (hx.frozen 0) (hx.frozen 2)]
    rfl
  have hA := cutHiR (some ⟨g, 0, none⟩) cap l.length (l.length + 1) hroom
  have hA2 : ∀ W : World, (Instr.slice 47 (.slice (some ⟨g, 0, none⟩) l.length cap) none (some (.int .i64 ((l.length : Int) + 1))) none).run Tryd.prog W = .ok (.slice (some ⟨g, 0, none⟩) (l.length + 1) cap) W := hA
  have hL1 := cutLoR g cap (l.length + 1) (i + 1) (by omega) (by omega)
  have hL1b : ∀ W : World, (Instr.slice 47 (.slice (some ⟨g, 0, none⟩) (l.length + 1) cap) (some (.int .i64 ((i : Int) + 1))) none none).run Tryd.prog W = .ok (.slice (some ⟨g, (i + 1) * 2, none⟩) (l.length + 1 - (i + 1)) (cap - (i + 1))) W := hL1
  have hL0 := cutLoR g cap (l.length + 1) i (by omega) (by omega)
  obtain ⟨D, hD⟩ : ∃ D, (l.drop i).flatMap encN = D := ⟨_, rfl⟩
  have hDl : D.length = (l.length - i) * 2 := by rw [← hD, flat_len_c encN_len, List.length_drop]
  have hD1 : ∀ u ∈ D, u.oneCell' = true := by rw [← hD]; exact oneEn _
  have hVd : Var w.drew g cur 32 := hV
  obtain ⟨X, hX⟩ : ∃ X, (l.take i).flatMap encN = X := ⟨_, rfl⟩
  have hXl : X.length = i * 2 := by rw [← hX, flat_len_c encN_len, List.length_take]; omega
  have hXD : l.flatMap encN = X ++ D := by rw [← hX, ← hD, ← List.flatMap_append, List.take_append_drop]
  obtain ⟨Z, hZ⟩ : ∃ Z, cur.toList = X ++ (D ++ Z) := ⟨cur.toList.drop (l.length * 2), by rw [← List.append_assoc, ← hXD, ← htake, List.take_append_drop]⟩
  have hZl : Z.length = cap * 2 - l.length * 2 := by have := hcl; rw [hZ] at this; simp only [List.length_append] at this; omega
  -- the first copy
  obtain ⟨C1, hC1⟩ : ∃ C, (cur.toList.take ((i + 1) * 2) ++ D ++ cur.toList.drop ((i + 1) * 2 + D.length)).toArray = C := ⟨_, rfl⟩
  have hmin1 : Nat.min (l.length + 1 - i) (l.length + 1 - (i + 1)) = l.length - i := by simp only [Nat.min_def]; split <;> omega
  have hr1 : ∀ ty, (Builtin.copy_ #[47, 47] ty #[.slice (some ⟨g, (i + 1) * 2, none⟩) (l.length + 1 - (i + 1)) (cap - (i + 1)), .slice (some ⟨g, i * 2, none⟩) (l.length + 1 - i) (cap - i)]).run Tryd.prog w.drew = .ok (goInt ((l.length - i : Nat) : Int)) (w.drew.setRow g C1) := fun ty => by
    have h := run_copyV (P := Tryd.prog) w.drew 47 47 ty 32 32 2 g ((i + 1) * 2) (l.length + 1 - (i + 1)) (cap - (i + 1)) ⟨g, i * 2, none⟩ (l.length + 1 - i) (cap - i) cur D Tryd.underlying47 Tryd.size41 hVd (by rw [hmin1, hDl]) (fun j u hj => by rw [← hD] at hj; exact cellsFrom hVd htake i j u hj) (by rw [hDl, hcs]; omega) hD1
    rw [hmin1, hC1] at h
    exact h
  have hV1 := hVd.row C1
  have hx1 : Var (w.drew.setRow g C1) vb #[.string s, .int .i64 n] 32 := Var.otherRow (w := w.drew) hx hne C1
  have hO1 := only_row w.drew g C1
  obtain ⟨W1, hW1⟩ : ∃ W, w.drew.setRow g C1 = W := ⟨_, rfl⟩
  rw [hW1] at hr1 hV1 hO1 hx1
  have hC1s : C1.size = cap * 2 := by
    rw [← hC1]
    simp only [List.size_toArray, List.length_append, List.length_take, List.length_drop, hDl, hcl]
    omega
  -- the second
  obtain ⟨C2, hC2⟩ : ∃ C, (C1.toList.take (i * 2) ++ [Value.string s, .int .i64 n] ++ C1.toList.drop (i * 2 + [Value.string s, .int .i64 n].length)).toArray = C := ⟨_, rfl⟩
  have hmin2 : Nat.min 1 (l.length + 1 - i) = 1 := by simp only [Nat.min_def]; split <;> omega
  have hr2 : ∀ ty, (Builtin.copy_ #[47, 24] ty #[.slice (some ⟨g, i * 2, none⟩) (l.length + 1 - i) (cap - i), .slice (some ⟨vb, 0, none⟩) 1 1]).run Tryd.prog W1 = .ok (goInt 1) (W1.setRow g C2) := fun ty => by
    have h := run_copyV (P := Tryd.prog) W1 47 24 ty 32 32 2 g (i * 2) (l.length + 1 - i) (cap - i) ⟨vb, 0, none⟩ 1 1 C1 [Value.string s, .int .i64 n] Tryd.underlying47 Tryd.size41 hV1 (by rw [hmin2]; rfl) (fun j u hj => by rw [Go.WideShapes.add_plain, Nat.zero_add, hx1.cell j, ← hj]; simp) (by rw [hC1s]; simp; omega) (fun u hu => by simp at hu; rcases hu with rfl | rfl <;> rfl)
    rw [hmin2, hC2] at h
    exact h
  have hFin : (W1.setRow g C2).ownsRow base 32 2 (.slice (some ⟨g, 0, none⟩) (l.length + 1) cap) (l.length + 1) ((insE l i s n).flatMap encN) := by
    refine ins_done (by omega) (hV1.row C2) hbg hroom hcm ?_ ?_
    · rw [← hC2]
      simp only [List.size_toArray, List.length_append, List.length_take, List.length_drop, Array.length_toList, hC1s, List.length_cons, List.length_nil]
      omega
    · have e1 : C1.toList = X ++ ((D ++ Z).take 2 ++ D ++ Z.drop 2) := by
        rw [← hC1, hZ]
        have h2 : (i + 1) * 2 = X.length + 2 := by omega
        show List.take _ _ ++ D ++ List.drop _ _ = _
        rw [h2, List.take_length_add_append, List.append_assoc, List.append_assoc, Nat.add_assoc, List.drop_length_add_append]
        congr 1
        rw [List.append_assoc]
        congr 1
        congr 1
        rw [Nat.add_comm 2 D.length, List.drop_length_add_append]
      have e2 : ((D ++ Z).take 2).length = 2 := by rw [List.length_take, List.length_append, hDl, hZl]; omega
      refine ⟨Z.drop 2, ?_⟩
      rw [← hC2, insE_flat, hX, hD]
      show List.take _ _ ++ _ ++ List.drop _ _ = _
      rw [e1, ← hXl, List.take_left, List.drop_length_add_append]
      rw [List.append_assoc ((D ++ Z).take 2) D, show [Value.string s, Value.int .i64 n].length = ((D ++ Z).take 2).length by rw [e2]; rfl, List.drop_left]
      simp
  have hOnl : Only (blk (.slice (some ⟨g, 0, none⟩) l.length cap)) w (W1.setRow g C2) := by
    have h1 : Only (fun j => j = g) w w.drew := ⟨rfl, rfl, rfl, Nat.le_refl _, fun _ _ _ => rfl⟩
    exact ((h1.trans hO1).trans (only_row W1 g C2)).mono fun k _ hk => by subst hk; rfl
  have HF : Hid ((W1.setRow g C2).ownsRow base 32 2 (.slice (some ⟨g, 0, none⟩) (l.length + 1) cap) (l.length + 1) ((insE l i s n).flatMap encN) ∧ Only (blk (.slice (some ⟨g, 0, none⟩) l.length cap)) w (W1.setRow g C2)) := ⟨hFin, hOnl⟩
  have HR1 : Hid (∀ ty, (Builtin.copy_ #[47, 47] ty #[.slice (some ⟨g, (i + 1) * 2, none⟩) (l.length + 1 - (i + 1)) (cap - (i + 1)), .slice (some ⟨g, i * 2, none⟩) (l.length + 1 - i) (cap - i)]).run Tryd.prog w.drew = .ok (goInt ((l.length - i : Nat) : Int)) W1) := hr1
  have HR2 : Hid (∀ ty, (Builtin.copy_ #[47, 24] ty #[.slice (some ⟨g, i * 2, none⟩) (l.length + 1 - i) (cap - i), .slice (some ⟨vb, 0, none⟩) 1 1]).run Tryd.prog W1 = .ok (goInt 1) (W1.setRow g C2)) := hr2
  have hq1 : ¬ (i : Int) = (l.length : Int) := by omega
  have hq2 : ¬ (cap : Int) < (l.length : Int) + 1 := by omega
  have hq3 : (i : Int) ≤ (l.length : Int) := by omega
  have hq4 : IntKind.i64.wrap ((i : Int) + 1) = (i : Int) + 1 := by rw [IntKind.wrap_i64]; omega
  have hq5 : IntKind.i64.wrap ((l.length : Int) + 1) = (l.length : Int) + 1 := by rw [IntKind.wrap_i64]; omega
  clear hFin hOnl hr1 hr2 hC2 hC1 hC1s hcl hV1 hO1 hVd hV hx1 hx hD hDl hD1 hX hXl hXD hZ hZl htake hcs hbg hcm hmin1 hmin2 hW1 hL1 hA hne
  go_enter Tryd.func45, Tryd.ntmps45
  go_upto_region 15 with (simp only [hov])
  refine wp_region_noPanic ?_
  refine wp_region_held_drew (S := fun _ => True) (by kernel_rfl) trivial (fun hT => ?_)
  clear hT
  refine held_take (i := 0) (v := .slice (some ⟨g, 0, none⟩) (l.length + 1) cap) rfl rfl (by kernel_rfl) (by kernel_rfl) (by kernel_rfl) (by kernel_rfl) (fun W hS => by go_simp) trivial ?_
  simp only [Act.put, List.setIfInBounds_toArray, List.set_cons_zero, List.set_cons_succ]
  refine held_take (i := 1) (v := .int .i64 (i : Nat)) rfl rfl (by kernel_rfl) (by kernel_rfl) (by kernel_rfl) (by kernel_rfl) (fun W hS => by go_simp) trivial ?_
  simp only [Act.put, List.setIfInBounds_toArray, List.set_cons_zero, List.set_cons_succ]
  refine held_take (i := 2) (v := .int .i64 1) rfl rfl (by kernel_rfl) (by kernel_rfl) (by kernel_rfl) (by kernel_rfl) (fun W hS => by go_simp) trivial ?_
  simp only [Act.put, List.setIfInBounds_toArray, List.set_cons_zero, List.set_cons_succ]
  refine held_take (i := 3) (v := .int .i64 ((i : Int) + 1)) rfl rfl (by kernel_rfl) (by kernel_rfl) (by kernel_rfl) (by kernel_rfl) (fun W hS => by go_simp) trivial ?_
  simp only [Act.put, List.setIfInBounds_toArray, List.set_cons_zero, List.set_cons_succ]
  refine held_take (i := 4) (v := .slice (some ⟨g, (i + 1) * 2, none⟩) (l.length + 1 - (i + 1)) (cap - (i + 1))) rfl rfl (by kernel_rfl) (by kernel_rfl) (by kernel_rfl) (by kernel_rfl) (fun W hS => by go_simp) trivial ?_
  simp only [Act.put, List.setIfInBounds_toArray, List.set_cons_zero, List.set_cons_succ]
  refine held_take (i := 5) (v := .slice (some ⟨g, 0, none⟩) (l.length + 1) cap) rfl rfl (by kernel_rfl) (by kernel_rfl) (by kernel_rfl) (by kernel_rfl) (fun W hS => by go_simp) trivial ?_
  simp only [Act.put, List.setIfInBounds_toArray, List.set_cons_zero, List.set_cons_succ]
  refine held_take (i := 6) (v := .int .i64 (i : Nat)) rfl rfl (by kernel_rfl) (by kernel_rfl) (by kernel_rfl) (by kernel_rfl) (fun W hS => by go_simp) trivial ?_
  simp only [Act.put, List.setIfInBounds_toArray, List.set_cons_zero, List.set_cons_succ]
  refine held_take (i := 7) (v := .slice (some ⟨g, i * 2, none⟩) (l.length + 1 - i) (cap - i)) rfl rfl (by kernel_rfl) (by kernel_rfl) (by kernel_rfl) (by kernel_rfl) (fun W hS => by go_simp) trivial ?_
  simp only [Act.put, List.setIfInBounds_toArray, List.set_cons_zero, List.set_cons_succ]
  refine wpAnyH_ready (rs := [8]) (by kernel_rfl) (by simp) (AllReadyH.cons rfl (fun K hK => ?_) AllReadyH.nil)
  refine step_copy_runI rfl (.tmp 73) (.tmp 76) 47 47 rfl (.slice (some ⟨g, (i + 1) * 2, none⟩) (l.length + 1 - (i + 1)) (cap - (i + 1))) (.slice (some ⟨g, i * 2, none⟩) (l.length + 1 - i) (cap - i)) (HR1.out _) (by simp [Act.eval]) (by simp [Act.eval]) ?_
  refine hK.out _ _ trivial (fun hT => ?_)
  clear hK K hT
  try simp only [Act.put, List.setIfInBounds_toArray]
  refine wpAnyH_done (by kernel_rfl) ?_ _
  simp only [NoPanic]
  have hr2 := HR2.out
  go_wp2
  go_ret
  exact ⟨_, rfl, HF.out.1, HF.out.2⟩

set_option maxRecDepth 20000 in
set_option maxHeartbeats 4000000 in
/-- Ahead of the end, without room: a new row. -/
theorem insGrow (base vb g cap : Nat) (cur : Array Value) (l : List EntD) (i : Nat) (s : ByteArray) (n : Int) (w : World) (hl : l.length ≤ 4194304) (hi : i < l.length) (hbase : base ≤ w.heap.size) (hV : Var w g cur 32) (hnc : l.length ≤ cap) (hroom : cap < l.length + 1) (_ : cur.size = cap * 2) (htake : cur.toList.take (l.length * 2) = l.flatMap encN) (hx : Var w vb #[.string s, .int .i64 n] 32) :
    Calls Tryd.prog 45 #[.slice (some ⟨g, 0, none⟩) l.length cap, .int .i64 (i : Nat), .slice (some ⟨vb, 0, none⟩) 1 1] w fun e w' => ∃ v', e = .returned v' ∧ w'.ownsRow base 32 2 v' (l.length + 1) ((insE l i s n).flatMap encN) ∧ Only (blk (.slice (some ⟨g, 0, none⟩) l.length cap)) w w' := by
  obtain ⟨i0, hi0, hz0, hz1, hz2⟩ := info_parts Tryd.infoEnt
  have hgl := hV.lt
  have hvl := hx.lt
  obtain ⟨D, hD⟩ : ∃ D, (l.drop i).flatMap encN = D := ⟨_, rfl⟩
  have hDl : D.length = (l.length - i) * 2 := by rw [← hD, flat_len_c encN_len, List.length_drop]
  have hD1 : ∀ u ∈ D, u.oneCell' = true := by rw [← hD]; exact oneEn _
  obtain ⟨X, hX⟩ : ∃ X, (l.take i).flatMap encN = X := ⟨_, rfl⟩
  have hXl : X.length = i * 2 := by rw [← hX, flat_len_c encN_len, List.length_take]; omega
  have hXt : cur.toList.take (i * 2) = X := by rw [← hX, ← flat_take, ← htake, List.take_take, Nat.min_eq_left (by omega)]
  have hold : (Builtin.firstCells i0.size i (.slice (some ⟨g, 0, none⟩) i cap)).run Tryd.prog w.drew = .ok X.toArray w.drew := by
    rw [hz1]
    exact run_firstCells_some w.drew 2 i ⟨g, 0, none⟩ i cap X hXl (fun j u hj => by
      rw [Go.WideShapes.add_plain, Nat.zero_add, Var.cell (w := w.drew) hV]
      rw [← hXt, List.getElem?_take] at hj
      split at hj
      · rw [← Array.getElem?_toList]; exact hj
      · cases hj)
  obtain ⟨G, hG⟩ : ∃ G, grownCap w (l.length + 1) cap 32 = G := ⟨_, rfl⟩
  have hGn : l.length + 1 ≤ G := by rw [← hG]; exact grownCap_ge w _ _ _
  have hGm : G ≤ maxLen := by rw [← hG]; exact grownCap_le_maxLen w (l.length + 1) cap 32 (by unfold maxLen; omega)
  have hGm2 : G ≤ 9223372036854775807 := by unfold maxLen at hGm; omega
  obtain ⟨E0, hE0⟩ : ∃ E, X.toArray ++ Builtin.zeroCells (Value.agg #[.string ⟨#[]⟩, .int .i64 0]).cells (l.length + 1 - i) ++ Builtin.zeroCells (Value.agg #[.string ⟨#[]⟩, .int .i64 0]).cells (G - (l.length + 1)) = E := ⟨_, rfl⟩
  have hE0s : E0.size = G * 2 := by
    rw [← hE0]
    simp only [Array.size_append, List.size_toArray, size_zeroCells, hXl, show (Value.agg #[Value.string ⟨#[]⟩, .int .i64 0]).cells.size = 2 from rfl]
    omega
  have hE0t : E0.toList.take (i * 2) = X := by
    rw [← hE0, ← hXl, Array.append_assoc, Array.toList_append]
    exact List.take_left
  have hra : ∀ ty, (Builtin.append_ #[47, 3] ty #[.slice (some ⟨g, 0, none⟩) i cap, .int .i64 ((l.length : Int) + 1 - (i : Int))]).run Tryd.prog w = .ok (.slice (some ⟨w.heap.size, 0, none⟩) (l.length + 1) G) (w.drew.alloc (.cells E0 32)) := fun ty => by
    have h := Lib.run_append_grow_zeros (P := Tryd.prog) w 47 3 ty 32 i0 _ .i64 .i64 Tryd.underlying47 Tryd.underlying3 hi0 hz0 (some ⟨g, 0, none⟩) i cap X hold (l.length + 1 - i) (by omega) (by omega) (by omega) (by omega) (by rw [hz2]; omega) (by rw [hz2, show i + (l.length + 1 - i) = l.length + 1 by omega]; exact growslice_fits hroom (by omega))
    rw [show i + (l.length + 1 - i) = l.length + 1 by omega, hG, hE0] at h
    rw [show (l.length : Int) + 1 - (i : Int) = ((l.length + 1 - i : Nat) : Int) by omega]
    exact h
  obtain ⟨W0, hW0⟩ : ∃ W, w.drew.alloc (.cells E0 32) = W := ⟨_, rfl⟩
  have hb0 : Below w.heap.size w W0 := by rw [← hW0]; exact (Below.refl _ _).drew.alloc (Nat.le_refl _) _
  have hV0 : Var W0 w.heap.size E0 32 := by rw [← hW0]; exact Var.made w.drew _ _
  rw [hW0] at hra
  have hg0 : Var W0 g cur 32 := hV.below hb0 hgl
  have hx0 : Var W0 vb #[.string s, .int .i64 n] 32 := hx.below hb0 hvl
  -- the entry
  obtain ⟨E1, hE1⟩ : ∃ C, (E0.toList.take (i * 2) ++ [Value.string s, .int .i64 n] ++ E0.toList.drop (i * 2 + [Value.string s, .int .i64 n].length)).toArray = C := ⟨_, rfl⟩
  have hmin2 : Nat.min 1 (l.length + 1 - i) = 1 := by simp only [Nat.min_def]; split <;> omega
  have hr2 : ∀ ty, (Builtin.copy_ #[47, 24] ty #[.slice (some ⟨w.heap.size, i * 2, none⟩) (l.length + 1 - i) (G - i), .slice (some ⟨vb, 0, none⟩) 1 1]).run Tryd.prog W0 = .ok (goInt 1) (W0.setRow w.heap.size E1) := fun ty => by
    have h := run_copyV (P := Tryd.prog) W0 47 24 ty 32 32 2 w.heap.size (i * 2) (l.length + 1 - i) (G - i) ⟨vb, 0, none⟩ 1 1 E0 [Value.string s, .int .i64 n] Tryd.underlying47 Tryd.size41 hV0 (by rw [hmin2]; rfl) (fun j u hj => by rw [Go.WideShapes.add_plain, Nat.zero_add, hx0.cell j, ← hj]; simp) (by rw [hE0s]; simp; omega) (fun u hu => by simp at hu; rcases hu with rfl | rfl <;> rfl)
    rw [hmin2, hE1] at h
    exact h
  have hV1 := hV0.row E1
  have hg1 : Var (W0.setRow w.heap.size E1) g cur 32 := hg0.otherRow (by omega) E1
  have hO1 := only_row W0 w.heap.size E1
  obtain ⟨W1, hW1⟩ : ∃ W, W0.setRow w.heap.size E1 = W := ⟨_, rfl⟩
  rw [hW1] at hr2 hV1 hO1 hg1
  have hE1s : E1.size = G * 2 := by
    rw [← hE1]
    simp only [List.size_toArray, List.length_append, List.length_take, List.length_drop, Array.length_toList, hE0s, List.length_cons, List.length_nil]
    omega
  -- what stood from its place on
  obtain ⟨E2, hE2⟩ : ∃ C, (E1.toList.take ((i + 1) * 2) ++ D ++ E1.toList.drop ((i + 1) * 2 + D.length)).toArray = C := ⟨_, rfl⟩
  have hmin1 : Nat.min (l.length - i) (l.length + 1 - (i + 1)) = l.length - i := by simp only [Nat.min_def]; split <;> omega
  have hr3 : ∀ ty, (Builtin.copy_ #[47, 47] ty #[.slice (some ⟨w.heap.size, (i + 1) * 2, none⟩) (l.length + 1 - (i + 1)) (G - (i + 1)), .slice (some ⟨g, i * 2, none⟩) (l.length - i) (cap - i)]).run Tryd.prog W1.drew = .ok (goInt ((l.length - i : Nat) : Int)) (W1.drew.setRow w.heap.size E2) := fun ty => by
    have h := run_copyV (P := Tryd.prog) W1.drew 47 47 ty 32 32 2 w.heap.size ((i + 1) * 2) (l.length + 1 - (i + 1)) (G - (i + 1)) ⟨g, i * 2, none⟩ (l.length - i) (cap - i) E1 D Tryd.underlying47 Tryd.size41 hV1 (by rw [hmin1, hDl]) (fun j u hj => by rw [← hD] at hj; exact cellsFrom (w := W1.drew) hg1 htake i j u hj) (by rw [hDl, hE1s]; omega) hD1
    rw [hmin1, hE2] at h
    exact h
  have hFin : (W1.drew.setRow w.heap.size E2).ownsRow base 32 2 (.slice (some ⟨w.heap.size, 0, none⟩) (l.length + 1) G) (l.length + 1) ((insE l i s n).flatMap encN) := by
    refine ins_done (by omega) (Var.row (w := W1.drew) hV1 E2) hbase hGn hGm ?_ ?_
    · rw [← hE2]
      simp only [List.size_toArray, List.length_append, List.length_take, List.length_drop, Array.length_toList, hE1s, hDl]
      omega
    · have e1 : E1.toList.take ((i + 1) * 2) = X ++ [Value.string s, .int .i64 n] := by
        rw [← hE1, hE0t]
        have e : (i + 1) * 2 = (X ++ [Value.string s, .int .i64 n]).length := by rw [List.length_append, hXl]; simp; omega
        rw [e]
        exact List.take_left
      refine ⟨E1.toList.drop ((i + 1) * 2 + D.length), ?_⟩
      rw [← hE2, insE_flat, hX, hD, e1]
  have hOnl : Only (blk (.slice (some ⟨g, 0, none⟩) l.length cap)) w (W1.drew.setRow w.heap.size E2) := by
    have h1 : Only (fun j => j = w.heap.size) W1 W1.drew := ⟨rfl, rfl, rfl, Nat.le_refl _, fun _ _ _ => rfl⟩
    have h2 : Only (fun j => w.heap.size ≤ j) w (W1.drew.setRow w.heap.size E2) := (Only.of_below hb0).trans (((hO1.trans h1).trans (only_row W1.drew w.heap.size E2)).mono fun k _ hk => by subst hk; exact Nat.le_refl _)
    exact h2.mono fun k hk h => by omega
  have HF : Hid ((W1.drew.setRow w.heap.size E2).ownsRow base 32 2 (.slice (some ⟨w.heap.size, 0, none⟩) (l.length + 1) G) (l.length + 1) ((insE l i s n).flatMap encN) ∧ Only (blk (.slice (some ⟨g, 0, none⟩) l.length cap)) w (W1.drew.setRow w.heap.size E2)) := ⟨hFin, hOnl⟩
  have HRA : Hid (∀ ty, (Builtin.append_ #[47, 3] ty #[.slice (some ⟨g, 0, none⟩) i cap, .int .i64 ((l.length : Int) + 1 - (i : Int))]).run Tryd.prog w = .ok (.slice (some ⟨w.heap.size, 0, none⟩) (l.length + 1) G) W0) := hra
  have HR3 : Hid (∀ ty, (Builtin.copy_ #[47, 47] ty #[.slice (some ⟨w.heap.size, (i + 1) * 2, none⟩) (l.length + 1 - (i + 1)) (G - (i + 1)), .slice (some ⟨g, i * 2, none⟩) (l.length - i) (cap - i)]).run Tryd.prog W1.drew = .ok (goInt ((l.length - i : Nat) : Int)) (W1.drew.setRow w.heap.size E2)) := hr3
  have hA := cutHiR (some ⟨g, 0, none⟩) cap l.length i (by omega)
  have hL0 := cutLoR w.heap.size G (l.length + 1) i (by omega) (by omega)
  have hL1 := cutLoR w.heap.size G (l.length + 1) (i + 1) (by omega) (by omega)
  have hL1b : ∀ W : World, (Instr.slice 47 (.slice (some ⟨w.heap.size, 0, none⟩) (l.length + 1) G) (some (.int .i64 ((i : Int) + 1))) none none).run Tryd.prog W = .ok (.slice (some ⟨w.heap.size, (i + 1) * 2, none⟩) (l.length + 1 - (i + 1)) (G - (i + 1))) W := hL1
  have hLs := cutLoR g cap l.length i (by omega) (by omega)
  have hq1 : ¬ (i : Int) = (l.length : Int) := by omega
  have hq2 : (cap : Int) < (l.length : Int) + 1 := by omega
  have hq3 : (i : Int) ≤ (l.length : Int) := by omega
  have hq4 : IntKind.i64.wrap ((i : Int) + 1) = (i : Int) + 1 := by rw [IntKind.wrap_i64]; omega
  have hq5 : IntKind.i64.wrap ((l.length : Int) + 1) = (l.length : Int) + 1 := by rw [IntKind.wrap_i64]; omega
  have hr2b := hr2
  clear hFin hOnl hra hr2 hr3 hE2 hE1 hE1s hE0 hE0s hE0t hV1 hO1 hV0 hg0 hx0 hg1 hV hx hD hDl hD1 hX hXl hXt hold htake hmin1 hmin2 hW1 hW0 hL1 hG hGm hb0 hi0 hz0 hz1 hz2 hgl hvl
  go_enter Tryd.func45, Tryd.ntmps45
  go_wp2_with (at_builtin; refine Lib.wpList_append_run _ rfl (.tmp 34) (.tmp 39) 47 3 rfl _ _ rfl rfl _ _ (HRA.out _) ?_)
  go_upto_region 11 with fail
  refine wp_region_noPanic ?_
  refine wp_region_held_drew (S := fun _ => True) (by kernel_rfl) trivial (fun hT => ?_)
  clear hT
  refine held_take (i := 0) (v := .slice (some ⟨w.heap.size, 0, none⟩) (l.length + 1) G) rfl rfl (by kernel_rfl) (by kernel_rfl) (by kernel_rfl) (by kernel_rfl) (fun W hS => by go_simp) trivial ?_
  simp only [Act.put, List.setIfInBounds_toArray, List.set_cons_zero, List.set_cons_succ]
  refine held_take (i := 1) (v := .int .i64 (i : Nat)) rfl rfl (by kernel_rfl) (by kernel_rfl) (by kernel_rfl) (by kernel_rfl) (fun W hS => by go_simp) trivial ?_
  simp only [Act.put, List.setIfInBounds_toArray, List.set_cons_zero, List.set_cons_succ]
  refine held_take (i := 2) (v := .int .i64 1) rfl rfl (by kernel_rfl) (by kernel_rfl) (by kernel_rfl) (by kernel_rfl) (fun W hS => by go_simp) trivial ?_
  simp only [Act.put, List.setIfInBounds_toArray, List.set_cons_zero, List.set_cons_succ]
  refine held_take (i := 3) (v := .int .i64 ((i : Int) + 1)) rfl rfl (by kernel_rfl) (by kernel_rfl) (by kernel_rfl) (by kernel_rfl) (fun W hS => by go_simp) trivial ?_
  simp only [Act.put, List.setIfInBounds_toArray, List.set_cons_zero, List.set_cons_succ]
  refine held_take (i := 4) (v := .slice (some ⟨w.heap.size, (i + 1) * 2, none⟩) (l.length + 1 - (i + 1)) (G - (i + 1))) rfl rfl (by kernel_rfl) (by kernel_rfl) (by kernel_rfl) (by kernel_rfl) (fun W hS => by go_simp) trivial ?_
  simp only [Act.put, List.setIfInBounds_toArray, List.set_cons_zero, List.set_cons_succ]
  refine held_take (i := 5) (v := .slice (some ⟨g, 0, none⟩) l.length cap) rfl rfl (by kernel_rfl) (by kernel_rfl) (by kernel_rfl) (by kernel_rfl) (fun W hS => by go_simp) trivial ?_
  simp only [Act.put, List.setIfInBounds_toArray, List.set_cons_zero, List.set_cons_succ]
  refine held_take (i := 6) (v := .int .i64 (i : Nat)) rfl rfl (by kernel_rfl) (by kernel_rfl) (by kernel_rfl) (by kernel_rfl) (fun W hS => by go_simp) trivial ?_
  simp only [Act.put, List.setIfInBounds_toArray, List.set_cons_zero, List.set_cons_succ]
  refine held_take (i := 7) (v := .slice (some ⟨g, i * 2, none⟩) (l.length - i) (cap - i)) rfl rfl (by kernel_rfl) (by kernel_rfl) (by kernel_rfl) (by kernel_rfl) (fun W hS => by go_simp) trivial ?_
  simp only [Act.put, List.setIfInBounds_toArray, List.set_cons_zero, List.set_cons_succ]
  refine wpAnyH_ready (rs := [8]) (by kernel_rfl) (by simp) (AllReadyH.cons rfl (fun K hK => ?_) AllReadyH.nil)
  refine step_copy_runI rfl (.tmp 50) (.tmp 53) 47 47 rfl (.slice (some ⟨w.heap.size, (i + 1) * 2, none⟩) (l.length + 1 - (i + 1)) (G - (i + 1))) (.slice (some ⟨g, i * 2, none⟩) (l.length - i) (cap - i)) (HR3.out _) (by simp [Act.eval]) (by simp [Act.eval]) ?_
  refine hK.out _ _ trivial (fun hT => ?_)
  clear hK K hT
  try simp only [Act.put, List.setIfInBounds_toArray]
  refine wpAnyH_done (by kernel_rfl) ?_ _
  simp only [NoPanic]
  go_wp2
  go_ret
  exact ⟨_, rfl, HF.out.1, HF.out.2⟩

/-- One entry put into a row of the call's own. -/
theorem insEn (base vb i : Nat) (v : Value) (l : List EntD) (s : ByteArray) (n : Int) (w : World) (hl : l.length ≤ 4194304) (hi : i ≤ l.length) (hbase : base ≤ w.heap.size) (ho : w.ownsRow base 32 2 v l.length (l.flatMap encN)) (hx : Var w vb #[.string s, .int .i64 n] 32) (hne : ¬ blk v vb) :
    Calls Tryd.prog 45 #[v, .int .i64 (i : Nat), .slice (some ⟨vb, 0, none⟩) 1 1] w fun e w' => ∃ v', e = .returned v' ∧ w'.ownsRow base 32 2 v' (l.length + 1) ((insE l i s n).flatMap encN) ∧ Only (blk v) w w' := by
  by_cases he : i = l.length
  · subst he
    exact insEnd base vb v l s n w hl hbase ho hx
  · rcases ho.2 with ⟨rfl, h0⟩ | ⟨g, cap, cur, rfl, hbg, hg, hnc, hcm, hcs, htake⟩
    · omega
    · by_cases hroom : l.length + 1 ≤ cap
      · exact insShift base vb g cap cur l i s n w hl (by omega) hbg hg hroom hcm hcs htake hx (fun h => hne (by subst h; rfl))
      · exact insGrow base vb g cap cur l i s n w hl (by omega) hbase hg hnc (by omega) hcs htake hx
end Go.Proofs.YtogpgocldgdeaaaDoor

/-
  Own text: a row with one entry more, and an entry added, by the program (written by withgen.py).
-/
namespace Go.Proofs.YtogpgocldgdeaaaDoor
open Go.RowKit

theorem enAdded_ins (l : List EntD) (s : ByteArray) (n : Int) : enAdded l s n = insE l (enAt l s) s n := rfl

set_option maxRecDepth 20000 in
set_option maxHeartbeats 4000000 in
theorem implWith (a : Option Addr) (c : Nat) (l : List EntD) (s : ByteArray) (n : Int) (w : World) (hl : ShE l) (hs : s.size ≤ 1048576) (hr : RdF encN 2 w a l) :
    Calls Tryd.prog 23 #[.slice a l.length c, .agg #[.string s, .int .i64 n]] w fun e w' => ∃ v, e = .returned v ∧ w'.ownsRow w.heap.size 32 2 v (l.length + 1) ((enAdded l s n).flatMap encN) ∧ Below w.heap.size w w' := by
  have hll := hl.1
  have hV1 := Var.made w #[.string s, .int .i64 n] 32
  have hbA := below1 w (.cells #[.string s, .int .i64 n] 32)
  have hlt1 : w.heap.size < (w.alloc (.cells #[.string s, .int .i64 n] 32)).heap.size := by simp
  have HC : Hid (∀ t m W, Below (w.alloc (.cells #[.string s, .int .i64 n] 32)).heap.size (w.alloc (.cells #[.string s, .int .i64 n] 32)) W → Calls Tryd.prog 44 #[.agg #[.string t, .int .i64 m], .pointer (some ⟨w.heap.size, 0, none⟩)] W fun e w' => e = .returned (.bool (ltB s t)) ∧ Below W.heap.size W w') :=
    fun t m W h => withC w.heap.size s n t m W (by have := h.size; omega) ((h.cell hlt1).trans (hV1.cell 0)) ((h.cell hlt1).trans (hV1.cell 1))
  have HX : Hid (Calls Tryd.prog 43 #[.slice a l.length c, .func (.func 44) #[] #[.pointer (some ⟨w.heap.size, 0, none⟩)]] (w.alloc (.cells #[.string s, .int .i64 n] 32)) fun e w' => e = .returned (.int .i64 (idxF l (fun e => ltB s e.1))) ∧ Below (w.alloc (.cells #[.string s, .int .i64 n] 32)).heap.size (w.alloc (.cells #[.string s, .int .i64 n] 32)) w') :=
    indexWith _ (fun e => ltB s e.1) a c l _ hll (hr.below hbA (Nat.le_refl _)) HC.out
  have HAF : Hid (∀ W, Below (w.alloc (.cells #[.string s, .int .i64 n] 32)).heap.size (w.alloc (.cells #[.string s, .int .i64 n] 32)) W → Below w.heap.size w W ∧ (∀ W', Below W.heap.size W W' → W'.cell? ⟨w.heap.size, 0, none⟩ = some (.string s) ∧ W'.cell? ⟨w.heap.size, 1, none⟩ = some (.int .i64 n)) ∧ ∀ W', Below W.heap.size W W' → Calls Tryd.prog 24 #[.slice a l.length c] W' fun e w' => ∃ v, e = .returned v ∧ w'.ownsRow W.heap.size 32 2 v l.length (l.flatMap encN) ∧ Below W'.heap.size W' w') := by
    intro W h
    have h1 : Below w.heap.size w W := hbA.trans (h.mono hbA.size)
    have hV2 := hV1.new h
    refine ⟨h1, fun W' h' => ⟨(hV2.new h').cell 0, (hV2.new h').cell 1⟩, fun W' h' => ?_⟩
    refine (freshEn a c l W' hl (hr.below (h1.trans (h'.mono h1.size)) (Nat.le_refl _))).mono ?_
    rintro e w' ⟨v, rfl, g1, g2⟩
    exact ⟨v, rfl, ownsRow_base g1 h'.size, g2⟩
  have hq := enAt_le l s
  have HI : Hid (∀ W v vb, ∀ base ≤ W.heap.size, W.ownsRow base 32 2 v l.length (l.flatMap encN) → Var W vb #[.string s, .int .i64 n] 32 → ¬ blk v vb → Calls Tryd.prog 45 #[v, .int .i64 (enAt l s : Nat), .slice (some ⟨vb, 0, none⟩) 1 1] W fun e w' => ∃ v', e = .returned v' ∧ w'.ownsRow base 32 2 v' (l.length + 1) ((enAdded l s n).flatMap encN) ∧ Only (blk v) W w') := fun W v vb base hbs h1 h2 h3 => by
    rw [enAdded_ins]
    exact insEn base vb (enAt l s) v l s n W hll hq hbs h1 h2 h3
  have hm := Tryd.methFresh s n
  have HIX : Hid ((enAt l s < l.length ∧ idxF l (fun e => ltB s e.1) = ((enAt l s : Nat) : Int)) ∨ (enAt l s = l.length ∧ idxF l (fun e => ltB s e.1) = -1)) := by
    unfold idxF enAt
    show _ ∨ _
    by_cases h : l.findIdx (fun e => ltB s e.1) < l.length
    · left; exact ⟨h, by rw [if_pos h]⟩
    · right
      have := List.findIdx_le_length (p := fun e : EntD => ltB s e.1) (xs := l)
      exact ⟨by omega, by rw [if_neg h]⟩
  clear hr hl hV1 hbA hlt1 HC
  generalize (enAdded l s n).flatMap encN = XA at *
  generalize enAt l s = q at *
  generalize idxF l (fun e => ltB s e.1) = ix at *
  go_enter Tryd.func23, Tryd.ntmps23
  go_wp2_with fail
  refine HX.out.mono ?_
  rintro e w2 ⟨rfl, hb2⟩
  have h3 := HAF.out w2 hb2
  have HB0 : Hid (Below w.heap.size w w2) := h3.1
  have HSB : Hid (∀ W', Below w2.heap.size w2 W' → W'.cell? ⟨w.heap.size, 0, none⟩ = some (.string s) ∧ W'.cell? ⟨w.heap.size, 1, none⟩ = some (.int .i64 n)) := h3.2.1
  have HF : Hid (∀ W', Below w2.heap.size w2 W' → Calls Tryd.prog 24 #[.slice a l.length c] W' fun e w' => ∃ v, e = .returned v ∧ w'.ownsRow w2.heap.size 32 2 v l.length (l.flatMap encN) ∧ Below W'.heap.size W' w') := h3.2.2
  have hb0 : Below w2.heap.size w2 w2.drew := (Below.refl _ _).drew
  clear h3 hb2 HX HAF
  rcases HIX.out with ⟨hlt, hix⟩ | ⟨heq, hix⟩
  · subst hix
    clear HIX
    go_upto_region 4 with fail
    refine wp_region_noPanic ?_
    refine wp_region_held_drew (S := (fun W => W.cell? ⟨w.heap.size, 0, none⟩ = some (.string s) ∧ W.cell? ⟨w.heap.size, 1, none⟩ = some (.int .i64 n))) (by kernel_rfl) (HSB.out _ hb0) (fun hT => ?_)
    clear hT
    refine held_take (i := 0) (v := .slice a l.length c) rfl rfl (by kernel_rfl) (by kernel_rfl) (by kernel_rfl) (by kernel_rfl) (fun W hS => by go_simp) (HSB.out _ hb0) ?_
    simp only [Act.put, List.setIfInBounds_toArray, List.set_cons_zero, List.set_cons_succ]
    refine held_take (i := 2) (v := .int .i64 (q : Nat)) rfl rfl (by kernel_rfl) (by kernel_rfl) (by kernel_rfl) (by kernel_rfl) (fun W hS => by go_simp) (HSB.out _ hb0) ?_
    simp only [Act.put, List.setIfInBounds_toArray, List.set_cons_zero, List.set_cons_succ]
    refine held_take (i := 3) (v := (.agg #[.string s, .int .i64 n])) rfl rfl (by kernel_rfl) (by kernel_rfl) (by kernel_rfl) (by kernel_rfl) (fun W hS => by obtain ⟨hs0, hs1⟩ := hS; go_simp) (HSB.out _ hb0) ?_
    simp only [Act.put, List.setIfInBounds_toArray, List.set_cons_zero, List.set_cons_succ]
    refine held_take (i := 4) (v := .iface 32 (.agg #[.string s, .int .i64 n])) rfl rfl (by kernel_rfl) (by kernel_rfl) (by kernel_rfl) (by kernel_rfl) (fun W hS => by go_simp) (HSB.out _ hb0) ?_
    simp only [Act.put, List.setIfInBounds_toArray, List.set_cons_zero, List.set_cons_succ]
    refine wpAnyH_ready (rs := [1]) (by kernel_rfl) (by simp) (AllReadyH.cons rfl (fun K hK => ?_) AllReadyH.nil)
    go_simp
    refine (HF.out _ hb0).mono ?_
    rintro e w3 ⟨v1, rfl, ho1, hx3⟩
    have hb3 := hb0.trans (hx3.mono hb0.size)
    refine hK.out _ _ (HSB.out _ hb3) (fun hT => ?_)
    clear hK K hT
    try simp only [Act.put, List.setIfInBounds_toArray, List.set_cons_zero, List.set_cons_succ]
    refine wpAnyH_ready (rs := [5]) (by kernel_rfl) (by simp) (AllReadyH.cons rfl (fun K hK => ?_) AllReadyH.nil)
    go_simp
    refine (entFreshW s n _ (by omega)).mono ?_
    rintro e w4 ⟨rfl, hx4⟩
    have hb4 := hb3.trans (hx4.mono hb3.size)
    refine hK.out _ _ (HSB.out _ hb4) (fun hT => ?_)
    clear hK K hT
    try simp only [Act.put, List.setIfInBounds_toArray, List.set_cons_zero, List.set_cons_succ]
    refine wpAnyH_ready (rs := [6]) (by kernel_rfl) (by simp) (AllReadyH.cons rfl (fun K hK => ?_) AllReadyH.nil)
    go_simp
    have hb5 : Below w2.heap.size w2 (w4.alloc (.cells #[.string s, .int .i64 n] 32)) := hb4.alloc hb4.size _
    refine hK.out _ _ (HSB.out _ hb5) (fun hT => ?_)
    clear hK K hT
    try simp only [Act.put, List.setIfInBounds_toArray, List.set_cons_zero, List.set_cons_succ]
    refine wpAnyH_ready (rs := [7]) (by kernel_rfl) (by simp) (AllReadyH.cons rfl (fun K hK => ?_) AllReadyH.nil)
    have HO1 : Hid ((w4.alloc (.cells #[.string s, .int .i64 n] 32)).ownsRow w2.heap.size 32 2 v1 l.length (l.flatMap encN)) := ownsRow_below (ownsRow_below ho1 hx4 (Nat.le_refl _)) (below1 w4 _) (Nat.le_refl _)
    have HX : Hid (Var (w4.alloc (.cells #[.string s, .int .i64 n] 32)) w4.heap.size #[.string s, .int .i64 n] 32) := Var.made w4 _ _
    have HNE : Hid (¬ blk v1 w4.heap.size) := fun h => by have := (ho1.lt _ h).2; have := hx4.size; omega
    go_simp
    refine (HI.out _ v1 w4.heap.size w2.heap.size hb5.size HO1.out HX.out HNE.out).mono ?_
    rintro e w9 ⟨v9, rfl, ho9, hon⟩
    have hb9 := hb5.trans (hon.below hb5.size (fun k hk => (HO1.out.lt k hk).1))
    refine hK.out _ _ (HSB.out _ hb9) (fun hT => ?_)
    clear hK K hT
    try simp only [Act.put, List.setIfInBounds_toArray, List.set_cons_zero, List.set_cons_succ]
    refine held_take (i := 8) (v := v9) rfl rfl (by kernel_rfl) (by kernel_rfl) (by kernel_rfl) (by kernel_rfl) (fun W hS => by go_simp) (HSB.out _ hb9) ?_
    simp only [Act.put, List.setIfInBounds_toArray, List.set_cons_zero, List.set_cons_succ]
    refine wpAnyH_done (by kernel_rfl) ?_ _
    simp only [NoPanic]
    have hB := HB0.out.trans (hb9.mono HB0.out.size)
    clear hb9 hon HO1 HX HNE
    go_wp2
    go_ret
    exact ⟨_, rfl, ownsRow_base ho9 HB0.out.size, hB⟩
  · subst hix
    subst heq
    clear HIX
    go_upto_region 4 with fail
    refine wp_region_noPanic ?_
    refine wp_region_held_drew (S := (fun W => W.cell? ⟨w.heap.size, 0, none⟩ = some (.string s) ∧ W.cell? ⟨w.heap.size, 1, none⟩ = some (.int .i64 n))) (by kernel_rfl) (HSB.out _ hb0) (fun hT => ?_)
    clear hT
    refine held_take (i := 0) (v := .slice a l.length c) rfl rfl (by kernel_rfl) (by kernel_rfl) (by kernel_rfl) (by kernel_rfl) (fun W hS => by go_simp) (HSB.out _ hb0) ?_
    simp only [Act.put, List.setIfInBounds_toArray, List.set_cons_zero, List.set_cons_succ]
    refine held_take (i := 2) (v := .int .i64 (l.length : Nat)) rfl rfl (by kernel_rfl) (by kernel_rfl) (by kernel_rfl) (by kernel_rfl) (fun W hS => by go_simp) (HSB.out _ hb0) ?_
    simp only [Act.put, List.setIfInBounds_toArray, List.set_cons_zero, List.set_cons_succ]
    refine held_take (i := 3) (v := (.agg #[.string s, .int .i64 n])) rfl rfl (by kernel_rfl) (by kernel_rfl) (by kernel_rfl) (by kernel_rfl) (fun W hS => by obtain ⟨hs0, hs1⟩ := hS; go_simp) (HSB.out _ hb0) ?_
    simp only [Act.put, List.setIfInBounds_toArray, List.set_cons_zero, List.set_cons_succ]
    refine held_take (i := 4) (v := .iface 32 (.agg #[.string s, .int .i64 n])) rfl rfl (by kernel_rfl) (by kernel_rfl) (by kernel_rfl) (by kernel_rfl) (fun W hS => by go_simp) (HSB.out _ hb0) ?_
    simp only [Act.put, List.setIfInBounds_toArray, List.set_cons_zero, List.set_cons_succ]
    refine wpAnyH_ready (rs := [1]) (by kernel_rfl) (by simp) (AllReadyH.cons rfl (fun K hK => ?_) AllReadyH.nil)
    go_simp
    refine (HF.out _ hb0).mono ?_
    rintro e w3 ⟨v1, rfl, ho1, hx3⟩
    have hb3 := hb0.trans (hx3.mono hb0.size)
    refine hK.out _ _ (HSB.out _ hb3) (fun hT => ?_)
    clear hK K hT
    try simp only [Act.put, List.setIfInBounds_toArray, List.set_cons_zero, List.set_cons_succ]
    refine wpAnyH_ready (rs := [5]) (by kernel_rfl) (by simp) (AllReadyH.cons rfl (fun K hK => ?_) AllReadyH.nil)
    go_simp
    refine (entFreshW s n _ (by omega)).mono ?_
    rintro e w4 ⟨rfl, hx4⟩
    have hb4 := hb3.trans (hx4.mono hb3.size)
    refine hK.out _ _ (HSB.out _ hb4) (fun hT => ?_)
    clear hK K hT
    try simp only [Act.put, List.setIfInBounds_toArray, List.set_cons_zero, List.set_cons_succ]
    refine wpAnyH_ready (rs := [6]) (by kernel_rfl) (by simp) (AllReadyH.cons rfl (fun K hK => ?_) AllReadyH.nil)
    go_simp
    have hb5 : Below w2.heap.size w2 (w4.alloc (.cells #[.string s, .int .i64 n] 32)) := hb4.alloc hb4.size _
    refine hK.out _ _ (HSB.out _ hb5) (fun hT => ?_)
    clear hK K hT
    try simp only [Act.put, List.setIfInBounds_toArray, List.set_cons_zero, List.set_cons_succ]
    refine wpAnyH_ready (rs := [7]) (by kernel_rfl) (by simp) (AllReadyH.cons rfl (fun K hK => ?_) AllReadyH.nil)
    have HO1 : Hid ((w4.alloc (.cells #[.string s, .int .i64 n] 32)).ownsRow w2.heap.size 32 2 v1 l.length (l.flatMap encN)) := ownsRow_below (ownsRow_below ho1 hx4 (Nat.le_refl _)) (below1 w4 _) (Nat.le_refl _)
    have HX : Hid (Var (w4.alloc (.cells #[.string s, .int .i64 n] 32)) w4.heap.size #[.string s, .int .i64 n] 32) := Var.made w4 _ _
    have HNE : Hid (¬ blk v1 w4.heap.size) := fun h => by have := (ho1.lt _ h).2; have := hx4.size; omega
    go_simp
    refine (HI.out _ v1 w4.heap.size w2.heap.size hb5.size HO1.out HX.out HNE.out).mono ?_
    rintro e w9 ⟨v9, rfl, ho9, hon⟩
    have hb9 := hb5.trans (hon.below hb5.size (fun k hk => (HO1.out.lt k hk).1))
    refine hK.out _ _ (HSB.out _ hb9) (fun hT => ?_)
    clear hK K hT
    try simp only [Act.put, List.setIfInBounds_toArray, List.set_cons_zero, List.set_cons_succ]
    refine held_take (i := 8) (v := v9) rfl rfl (by kernel_rfl) (by kernel_rfl) (by kernel_rfl) (by kernel_rfl) (fun W hS => by go_simp) (HSB.out _ hb9) ?_
    simp only [Act.put, List.setIfInBounds_toArray, List.set_cons_zero, List.set_cons_succ]
    refine wpAnyH_done (by kernel_rfl) ?_ _
    simp only [NoPanic]
    have hB := HB0.out.trans (hb9.mono HB0.out.size)
    clear hb9 hon HO1 HX HNE
    go_wp2
    go_ret
    exact ⟨_, rfl, ownsRow_base ho9 HB0.out.size, hB⟩

end Go.Proofs.YtogpgocldgdeaaaDoor

/-
  Own text: an entry is added, by the program.
-/
namespace Go.Proofs.YtogpgocldgdeaaaDoor
open Go.RowKit

theorem ord_all {l : List EntD} (h : OrdP l l.length) : ∀ (k j : Nat) (hk : k < l.length) (hj : j < l.length), j < k → ltB (l[j]).1 (l[k]).1 = true := by
  intro k
  induction k with
  | zero => intro j _ _ hjk; omega
  | succ k ih =>
    intro j hk hj hjk
    have h1 := h (k + 1) hk hk (by omega) (by simp; omega)
    simp at h1
    by_cases e : j = k
    · subst e; exact h1
    · exact ltB_trans (ih j (by omega) hj (by omega)) h1
/-- Where an entry stands when another one has been put in at q. -/
def upE (q k : Nat) : Nat := if k < q then k else k + 1
theorem insE_at {l : List EntD} {q : Nat} {s : ByteArray} {n : Int} (hq : q ≤ l.length) (k : Nat) (hk : k < l.length) (h : upE q k < (insE l q s n).length) : (insE l q s n)[upE q k] = l[k] := by
  have htl : (l.take q).length = q := by rw [List.length_take]; omega
  have e : (insE l q s n)[upE q k]? = some l[k] := by
    unfold insE upE
    by_cases hkq : k < q
    · rw [if_pos hkq, List.getElem?_append_left (by omega), List.getElem?_take_of_lt hkq, List.getElem?_eq_getElem hk]
    · rw [if_neg hkq, List.getElem?_append_right (by omega), htl, show k + 1 - q = (k - q) + 1 by omega, List.getElem?_cons_succ, List.getElem?_drop, show q + (k - q) = k by omega, List.getElem?_eq_getElem hk]
  rw [List.getElem?_eq_getElem h] at e
  injection e
theorem enP_less {l : List EntD} {s : ByteArray} {n : Int} (h : EnP (enAdded l s n)) : EnP l := by
  rw [enAdded_ins] at h
  have hq := enAt_le l s
  generalize enAt l s = q at *
  have hL := insE_len (s := s) (n := n) hq
  obtain ⟨h1, h2, h3, h4⟩ := (enP_iff _).1 h
  have hup : ∀ k, k < l.length → upE q k < (insE l q s n).length := fun k hk => by unfold upE; split <;> omega
  have hlt : ∀ j k, j < k → upE q j < upE q k := fun j k hjk => by unfold upE; split <;> split <;> omega
  refine (enP_iff l).2 ⟨fun k hk _ => ?_, fun k hk _ h0 hk1 => ?_, fun k hk _ => ⟨?_, fun j hj hjk he => ?_⟩, ?_⟩
  · have := h1 _ (hup k hk) (hup k hk)
    rw [insE_at hq k hk] at this
    exact this
  · have := ord_all h2 (upE q k) (upE q (k - 1)) (hup k hk) (hup _ hk1) (hlt _ _ (by omega))
    rw [insE_at hq k hk, insE_at hq (k - 1) hk1] at this
    exact this
  · have := (h3 _ (hup k hk) (hup k hk)).1
    rw [insE_at hq k hk] at this
    exact this
  · have := (h3 _ (hup k hk) (hup k hk)).2 _ (hup j hj) (hlt _ _ hjk)
    rw [insE_at hq k hk, insE_at hq j hj] at this
    exact this he
  · refine Nat.le_trans ?_ h4
    have e : enText l = enText (l.take q) ++ enText (l.drop q) := by unfold enText; rw [← List.flatMap_append, List.take_append_drop]
    have e2 : enText (insE l q s n) = enText (l.take q) ++ (putText s ++ putNum n ++ enText (l.drop q)) := by unfold enText insE; rw [List.flatMap_append, List.flatMap_cons]
    rw [e, e2]
    simp only [List.length_append]
    omega
theorem addOk_eq (l : List EntD) (s : ByteArray) (n : Int) : addOk l s n = enOk (enAdded l s n) := by
  unfold addOk
  cases h : enOk (enAdded l s n) with
  | false => simp
  | true =>
    have : EnP (enAdded l s n) := by unfold enOk at h; exact @of_decide_eq_true _ (Classical.propDecidable _) h
    rw [enOk_yes (enP_less this)]
    rfl

set_option maxRecDepth 20000 in
set_option maxHeartbeats 1000000 in
theorem implDirAdd (a : Option Addr) (c : Nat) (l : List EntD) (s : ByteArray) (n : Int) (w : World) (hl : szEn l ≤ 1048576) (hs : s.size ≤ 1048576) (hr : RdF encN 2 w a l) :
    Calls Tryd.prog 7 #[.slice a l.length c, .string s, .int .i64 n] w fun e w' => ∃ v, e = .returned (.tuple #[v, .bool (addOk l s n)]) ∧ OwnEn w' w.heap.size w'.heap.size v (addD l s n) ∧ Below w.heap.size w w' := by
  have hsh : ShE l := (smE_of hl).sh
  have HW : Hid (Calls Tryd.prog 23 #[.slice a l.length c, .agg #[.string s, .int .i64 n]] w fun e w' => ∃ v, e = .returned v ∧ w'.ownsRow w.heap.size 32 2 v (l.length + 1) ((enAdded l s n).flatMap encN) ∧ Below w.heap.size w w') := implWith a c l s n w hsh hs hr
  have hal2 : (enAdded l s n).length = l.length + 1 := by rw [enAdded_ins]; exact insE_len (enAt_le l s)
  have HE : Hid (∀ W v, W.ownsRow w.heap.size 32 2 v (l.length + 1) ((enAdded l s n).flatMap encN) → Calls Tryd.prog 10 #[v] W fun e w' => e = .returned (.bool (addOk l s n)) ∧ Below W.heap.size W w') := fun W v h => by
    obtain ⟨a2, c2, rfl, _, hr2⟩ := own_rdF encN_len h hal2
    have := implEntriesOk a2 c2 (enAdded l s n) W (enAdded_sm hl hs) hr2
    rw [hal2, ← addOk_eq] at this
    exact this
  have HF : Hid (∀ W, Below w.heap.size w W → Calls Tryd.prog 24 #[.slice a l.length c] W fun e w' => ∃ v, e = .returned v ∧ OwnEn w' w.heap.size w'.heap.size v l ∧ Below W.heap.size W w') := fun W hb => by
    refine (freshEn a c l W hsh (hr.below hb (Nat.le_refl _))).mono ?_
    rintro e w' ⟨v, rfl, h1, h2⟩
    exact ⟨v, rfl, OwnEn.of (ownsRow_base h1 hb.size), h2⟩
  cases hq : addOk l s n with
  | true =>
    have hd : addD l s n = enAdded l s n := by unfold addD; rw [if_pos hq]
    have HAN : Hid (∀ W v, W.ownsRow w.heap.size 32 2 v (l.length + 1) ((enAdded l s n).flatMap encN) → OwnEn W w.heap.size W.heap.size v (addD l s n)) := fun W v h => by rw [hd]; exact OwnEn.of (by rw [hal2]; exact h)
    rw [hq] at HE
    clear hq hd hal2 hr hl hsh HF
    generalize (enAdded l s n).flatMap encN = XA at *
    generalize addD l s n = D at *
    go_enter Tryd.func7, Tryd.ntmps7
    go_wp2_with fail
    refine HW.out.mono ?_
    rintro e w1 ⟨v1, rfl, ho1, hb1⟩
    go_wp2_with fail
    refine (HE.out _ _ ho1).mono ?_
    rintro e w2 ⟨rfl, hb2⟩
    have ho2 := ownsRow_below ho1 hb2 (Nat.le_refl _)
    have hB := hb1.trans (hb2.mono hb1.size)
    go_wp2
    go_returns
    exact ⟨_, rfl, HAN.out _ _ ho2, hB⟩
  | false =>
    have hd : addD l s n = l := by unfold addD; rw [hq]; rfl
    rw [hq] at HE
    rw [hd]
    clear hq hd hal2 hr hl hsh
    generalize (enAdded l s n).flatMap encN = XA at *
    go_enter Tryd.func7, Tryd.ntmps7
    go_wp2_with fail
    refine HW.out.mono ?_
    rintro e w1 ⟨v1, rfl, ho1, hb1⟩
    go_wp2_with fail
    refine (HE.out _ _ ho1).mono ?_
    rintro e w2 ⟨rfl, hb2⟩
    have hB := hb1.trans (hb2.mono hb1.size)
    go_wp2_with fail
    refine (HF.out _ hB).mono ?_
    rintro e w3 ⟨v3, rfl, ho3, hb3⟩
    have hB3 := hB.trans (hb3.mono hB.size)
    go_wp2
    go_returns
    exact ⟨_, rfl, ho3, hB3⟩
end Go.Proofs.YtogpgocldgdeaaaDoor

/-
  Own text: slices.Delete of one entry of a row of the call's own (written by delgen.py).
-/
namespace Go.Proofs.YtogpgocldgdeaaaDoor
open Go.RowKit Go.Lib

theorem Tryd.zeroEn : ∀ W : World, (zeroValue 32).run Tryd.prog W = .ok (.agg #[.string ⟨#[]⟩, .int .i64 0]) W := fun W => by
  obtain ⟨i, hi, hz0, hz1, hz2⟩ := info_parts Tryd.infoEnt
  simp [zeroValue, typeInfo, hi, hz0]

theorem oneZ : ∀ v ∈ (Builtin.zeroCells (Value.agg #[.string ⟨#[]⟩, .int .i64 0]).cells 1).toList, v.oneCell' = true := by
  intro v hv
  simp [Builtin.zeroCells, Value.cells] at hv
  obtain ⟨j, hj, rfl⟩ := hv
  have h2 : j < 2 := hj
  match j, h2 with
  | 0, _ => rfl
  | 1, _ => rfl

set_option maxRecDepth 20000 in
set_option maxHeartbeats 4000000 in
theorem delEn (base i : Nat) (v : Value) (l : List EntD) (w : World) (hi : i < l.length) (hl : l.length ≤ 4194304) (ho : w.ownsRow base 32 2 v l.length (l.flatMap encN)) :
    Calls Tryd.prog 51 #[v, .int .i64 (i : Nat), .int .i64 ((i : Int) + 1)] w fun e w' => ∃ v', e = .returned v' ∧ w'.ownsRow base 32 2 v' (l.length - 1) ((l.eraseIdx i).flatMap encN) ∧ Only (blk v) w w' := by
  obtain ⟨i0, hi0, hz0, hz1, hz2⟩ := info_parts Tryd.infoEnt
  rcases ho.2 with ⟨rfl, h0⟩ | ⟨g, cap, cur, rfl, hbg, hg, hnc, hcm, hcs, htake⟩
  · omega
  have hV : Var w g cur 32 := hg
  have hcm2 : cap ≤ 9223372036854775807 := by unfold maxLen at hcm; omega
  obtain ⟨a', c', hLo, ha', hnn⟩ := cutLoE g cap l.length (i + 1) (by omega) hnc
  have hLo2 : ∀ W : World, (Instr.slice 47 (.slice (some ⟨g, 0, none⟩) l.length cap) (some (.int .i64 ((i : Int) + 1))) none none).run Tryd.prog W = .ok (.slice a' (l.length - (i + 1)) c') W := hLo
  have hA := cutHiR (some ⟨g, 0, none⟩) cap l.length i (by omega)
  have hdl : (l.drop (i + 1)).length = l.length - (i + 1) := List.length_drop
  obtain ⟨D, hD⟩ : ∃ D, (l.drop (i + 1)).flatMap encN = D := ⟨_, rfl⟩
  have hDl : D.length = (l.length - (i + 1)) * 2 := by rw [← hD, flat_len_c encN_len, hdl]
  have hD1 : ∀ u ∈ D, u.oneCell' = true := by rw [← hD]; exact oneEn _
  have hSrc : Src Tryd.prog 2 47 (.slice a' (l.length - (i + 1)) c') (l.length - (i + 1)) D w.drew := by
    rcases ha' with h0 | h0
    · obtain rfl : D = [] := List.eq_nil_of_length_eq_zero (by rw [hDl, h0])
      obtain ⟨x, rfl⟩ : ∃ x, a' = some x := by cases a' with
        | none => exact absurd rfl hnn
        | some x => exact ⟨x, rfl⟩
      exact Src.ofSlice w.drew Tryd.underlying47 x _ c' [] (by simpa using hDl) (fun j u h => by simp at h) (fun u hu => by simp at hu)
    · subst h0
      refine Src.ofSlice w.drew Tryd.underlying47 ⟨g, (i + 1) * 2, none⟩ _ c' D hDl (fun j u hj => ?_) hD1
      rw [← hD] at hj
      exact cellsFrom hV htake (i + 1) j u hj
  obtain ⟨C1, hC1⟩ : ∃ C, (cur.toList.take (i * 2) ++ D ++ cur.toList.drop (i * 2 + D.length)).toArray = C := ⟨_, rfl⟩
  have hVd : Var w.drew g cur 32 := hV
  have hr1 : ∀ ty, (Builtin.append_ #[47, 47] ty #[.slice (some ⟨g, 0, none⟩) i cap, .slice a' (l.length - (i + 1)) c']).run Tryd.prog w.drew = .ok (.slice (some ⟨g, 0, none⟩) (l.length - 1) cap) (w.drew.setRow g C1) := fun ty => by
    have h := run_append_roomV (P := Tryd.prog) w.drew 47 47 ty 32 i0 2 Tryd.underlying47 hi0 hz1 g i cap cur hVd hcs (.slice a' (l.length - (i + 1)) c') (l.length - (i + 1)) D hSrc (by omega)
    rw [show i + (l.length - (i + 1)) = l.length - 1 by omega, hC1] at h
    exact h
  have HR1 : Hid (∀ ty, (Builtin.append_ #[47, 47] ty #[.slice (some ⟨g, 0, none⟩) i cap, .slice a' (l.length - (i + 1)) c']).run Tryd.prog w.drew = .ok (.slice (some ⟨g, 0, none⟩) (l.length - 1) cap) (w.drew.setRow g C1)) := hr1
  have hV1 := hVd.row C1
  have hO1 := only_row w.drew g C1
  have hcl : cur.toList.length = cap * 2 := by rw [Array.length_toList]; exact hcs
  have hC1s : C1.size = cap * 2 := by
    rw [← hC1]
    simp only [List.size_toArray, List.length_append, List.length_take, List.length_drop, hDl, hcl]
    omega
  have hC1t : C1.toList.take ((l.length - 1) * 2) = (l.eraseIdx i).flatMap encN := by
    rw [← hC1]
    have e1 : cur.toList.take (i * 2) = (l.take i).flatMap encN := by
      rw [← flat_take, ← htake, List.take_take, Nat.min_eq_left (by omega)]
    have e2 : (l.length - 1) * 2 = (cur.toList.take (i * 2) ++ D).length := by
      rw [List.length_append, List.length_take, hDl, hcl]; omega
    show List.take _ (cur.toList.take (i * 2) ++ D ++ _) = _
    rw [e2, List.take_left, e1, ← hD, ← List.flatMap_append, ← List.eraseIdx_eq_take_drop_succ]
  have hcut := cutMidR g cap (l.length - 1) (l.length - 1) l.length (by omega) hnc (by omega)
  rw [show l.length - (l.length - 1) = 1 by omega] at hcut
  obtain ⟨W1, hW1⟩ : ∃ W, w.drew.setRow g C1 = W := ⟨_, rfl⟩
  rw [hW1] at HR1 hV1 hO1
  obtain ⟨C2, hC2⟩ : ∃ C, (C1.toList.take ((l.length - 1) * 2) ++ (Builtin.zeroCells (Value.agg #[.string ⟨#[]⟩, .int .i64 0]).cells 1).toList ++ C1.toList.drop ((l.length - 1) * 2 + 1 * 2)).toArray = C := ⟨_, rfl⟩
  have hclr : ∀ ty, (Builtin.clear_ #[47] ty #[.slice (some ⟨g, (l.length - 1) * 2, none⟩) 1 (cap - (l.length - 1))]).run Tryd.prog W1 = .ok (.tuple #[]) (W1.setRow g C2) := fun ty => by
    have h := run_clearV (P := Tryd.prog) W1 47 32 32 ty (.agg #[.string ⟨#[]⟩, .int .i64 0]) 2 Tryd.underlying47 Tryd.zeroEn rfl g ((l.length - 1) * 2) 1 (cap - (l.length - 1)) (by omega) C1 oneZ hV1 (by omega)
    rw [hC2] at h
    exact h
  have HCL : Hid (∀ ty, (Builtin.clear_ #[47] ty #[.slice (some ⟨g, (l.length - 1) * 2, none⟩) 1 (cap - (l.length - 1))]).run Tryd.prog W1 = .ok (.tuple #[]) (W1.setRow g C2)) := hclr
  have hzl : (Builtin.zeroCells (Value.agg #[.string ⟨#[]⟩, .int .i64 0]).cells 1).toList.length = 2 := by rw [Array.length_toList, size_zeroCells]; rfl
  have hFin : (W1.setRow g C2).ownsRow base 32 2 (.slice (some ⟨g, 0, none⟩) (l.length - 1) cap) (l.length - 1) ((l.eraseIdx i).flatMap encN) := by
    refine ⟨by rw [flat_len_c encN_len, List.length_eraseIdx_of_lt hi], .inr ⟨g, cap, C2, rfl, hbg, hV1.row C2, by omega, hcm, ?_, ?_⟩⟩
    · rw [← hC2]
      simp only [List.size_toArray, List.length_append, List.length_take, List.length_drop, Array.length_toList, hC1s, hzl]
      omega
    · rw [← hC2]
      show List.take _ (List.take _ _ ++ _ ++ _) = _
      have e3 : (l.length - 1) * 2 = (C1.toList.take ((l.length - 1) * 2)).length := by rw [List.length_take, Array.length_toList (xs := C1), hC1s]; omega
      rw [List.append_assoc, ← hC1t]
      conv => lhs; arg 1; rw [e3]
      rw [List.take_left]
  have hOnl : Only (blk (.slice (some ⟨g, 0, none⟩) l.length cap)) w (W1.setRow g C2) := by
    have h1 : Only (fun j => j = g) w w.drew := ⟨rfl, rfl, rfl, Nat.le_refl _, fun _ _ _ => rfl⟩
    exact ((h1.trans hO1).trans (only_row W1 g C2)).mono fun k _ hk => by subst hk; rfl
  have HF : Hid ((W1.setRow g C2).ownsRow base 32 2 (.slice (some ⟨g, 0, none⟩) (l.length - 1) cap) (l.length - 1) ((l.eraseIdx i).flatMap encN) ∧ Only (blk (.slice (some ⟨g, 0, none⟩) l.length cap)) w (W1.setRow g C2)) := ⟨hFin, hOnl⟩
  have hne : ¬ (i : Int) = (i : Int) + 1 := by omega
  have hb1 : (i : Int) + 1 ≤ (l.length : Int) := by omega
  have hb2 : (l.length : Int) ≤ (cap : Int) := by omega
  clear hFin hOnl hclr hr1 hC2 hC1 hC1t hC1s hcl hV1 hO1 hVd hV hD hDl hD1 hSrc hdl ha' hnn hLo htake hcs hg hbg hcm ho hi0 hz0 hz1 hz2 hW1 hzl
  go_enter Tryd.func51, Tryd.ntmps51
  go_upto_region 5 with fail
  refine wp_region_noPanic ?_
  refine wp_region_held_drew (S := fun _ => True) (by kernel_rfl) trivial (fun hT => ?_)
  clear hT
  refine held_take (i := 0) (v := .slice (some ⟨g, 0, none⟩) l.length cap) rfl rfl (by kernel_rfl) (by kernel_rfl) (by kernel_rfl) (by kernel_rfl) (fun W hS => by go_simp) trivial ?_
  simp only [Act.put, List.setIfInBounds_toArray, List.set_cons_zero, List.set_cons_succ]
  refine held_take (i := 1) (v := .int .i64 (i : Nat)) rfl rfl (by kernel_rfl) (by kernel_rfl) (by kernel_rfl) (by kernel_rfl) (fun W hS => by go_simp) trivial ?_
  simp only [Act.put, List.setIfInBounds_toArray, List.set_cons_zero, List.set_cons_succ]
  refine held_take (i := 2) (v := .slice (some ⟨g, 0, none⟩) i cap) rfl rfl (by kernel_rfl) (by kernel_rfl) (by kernel_rfl) (by kernel_rfl) (fun W hS => by go_simp) trivial ?_
  simp only [Act.put, List.setIfInBounds_toArray, List.set_cons_zero, List.set_cons_succ]
  refine held_take (i := 3) (v := .slice (some ⟨g, 0, none⟩) l.length cap) rfl rfl (by kernel_rfl) (by kernel_rfl) (by kernel_rfl) (by kernel_rfl) (fun W hS => by go_simp) trivial ?_
  simp only [Act.put, List.setIfInBounds_toArray, List.set_cons_zero, List.set_cons_succ]
  refine held_take (i := 4) (v := .int .i64 ((i : Int) + 1)) rfl rfl (by kernel_rfl) (by kernel_rfl) (by kernel_rfl) (by kernel_rfl) (fun W hS => by go_simp) trivial ?_
  simp only [Act.put, List.setIfInBounds_toArray, List.set_cons_zero, List.set_cons_succ]
  refine held_take (i := 5) (v := .slice a' (l.length - (i + 1)) c') rfl rfl (by kernel_rfl) (by kernel_rfl) (by kernel_rfl) (by kernel_rfl) (fun W hS => by go_simp) trivial ?_
  simp only [Act.put, List.setIfInBounds_toArray, List.set_cons_zero, List.set_cons_succ]
  refine wpAnyH_ready (rs := [6]) (by kernel_rfl) (by simp) (AllReadyH.cons rfl (fun K hK => ?_) AllReadyH.nil)
  refine step_append_runI rfl (.tmp 22) (.tmp 25) 47 47 rfl (.slice (some ⟨g, 0, none⟩) i cap) (.slice a' (l.length - (i + 1)) c') (HR1.out _) (by simp [Act.eval]) (by simp [Act.eval]) ?_
  refine hK.out _ _ trivial (fun hT => ?_)
  clear hK K hT
  try simp only [Act.put, List.setIfInBounds_toArray]
  refine held_take (i := 7) (v := .slice (some ⟨g, 0, none⟩) (l.length - 1) cap) rfl rfl (by kernel_rfl) (by kernel_rfl) (by kernel_rfl) (by kernel_rfl) (fun W hS => by go_simp) trivial ?_
  simp only [Act.put]
  refine wpAnyH_done (by kernel_rfl) ?_ _
  simp only [NoPanic]
  have hclr := HCL.out
  go_wp2
  go_ret
  exact ⟨_, rfl, HF.out.1, HF.out.2⟩
end Go.Proofs.YtogpgocldgdeaaaDoor

/-
  Own text: an entry is dropped, by the program.
-/
namespace Go.Proofs.YtogpgocldgdeaaaDoor
open Go.RowKit

set_option maxRecDepth 20000 in
set_option maxHeartbeats 1000000 in
theorem implWithout (a : Option Addr) (c i : Nat) (l : List EntD) (w : World) (hi : i < l.length) (hl : ShE l) (hr : RdF encN 2 w a l) :
    Calls Tryd.prog 31 #[.slice a l.length c, .int .i64 (i : Nat)] w fun e w' => ∃ v, e = .returned v ∧ w'.ownsRow w.heap.size 32 2 v (l.length - 1) ((l.eraseIdx i).flatMap encN) ∧ Below w.heap.size w w' := by
  have hll := hl.1
  have HD : Hid (∀ v W, W.ownsRow w.heap.size 32 2 v l.length (l.flatMap encN) → Calls Tryd.prog 51 #[v, .int .i64 (i : Nat), .int .i64 ((i : Int) + 1)] W fun e w' => ∃ v', e = .returned v' ∧ w'.ownsRow w.heap.size 32 2 v' (l.length - 1) ((l.eraseIdx i).flatMap encN) ∧ Only (blk v) W w') := fun v W h => delEn w.heap.size i v l W hi hll h
  have HF : Hid (Calls Tryd.prog 24 #[.slice a l.length c] w fun e w' => ∃ v, e = .returned v ∧ w'.ownsRow w.heap.size 32 2 v l.length (l.flatMap encN) ∧ Below w.heap.size w w') := freshEn a c l w hl hr
  generalize l.eraseIdx i = M at *
  clear hr hl
  go_enter Tryd.func31, Tryd.ntmps31
  go_wp2_with fail
  refine HF.out.mono ?_
  rintro e w1 ⟨v1, rfl, ho1, hb1⟩
  go_wp2_with fail
  refine (HD.out v1 _ ho1).mono ?_
  rintro e w2 ⟨v2, rfl, ho2, hon⟩
  have hB := hb1.trans (hon.below hb1.size (fun k hk => (ho1.lt k hk).1))
  go_wp2
  go_ret
  exact ⟨_, rfl, ho2, hB⟩

set_option maxRecDepth 20000 in
set_option maxHeartbeats 1000000 in
theorem implDirDrop (a : Option Addr) (c : Nat) (l : List EntD) (s : ByteArray) (w : World) (hl : ShE l) (hr : RdF encN 2 w a l) :
    Calls Tryd.prog 11 #[.slice a l.length c, .string s] w fun e w' => ∃ v, e = .returned (.tuple #[v, .bool (enHas l s)]) ∧ OwnEn w' w.heap.size w'.heap.size v (enDropped l s) ∧ Below w.heap.size w w' := by
  have hll := hl.1
  have HF : Hid (Calls Tryd.prog 27 #[.slice a l.length c, .string s] w fun e w' => e = .returned (.int .i64 (idxF l (isN s))) ∧ Below w.heap.size w w') := implFind a c l s w hll hr
  by_cases h : l.findIdx (isN s) < l.length
  · have hi : idxF l (isN s) = ((l.findIdx (isN s) : Nat) : Int) := by unfold idxF; rw [if_pos h]
    have hD : enDropped l s = l.eraseIdx (l.findIdx (isN s)) := by unfold enDropped; rw [if_pos (by exact h)]; rfl
    have hH : enHas l s = true := by unfold enHas; exact decide_eq_true h
    have hlen : (l.eraseIdx (l.findIdx (isN s))).length = l.length - 1 := List.length_eraseIdx_of_lt h
    have HW : Hid (∀ W, Below w.heap.size w W → Calls Tryd.prog 31 #[.slice a l.length c, .int .i64 ((l.findIdx (isN s) : Nat) : Int)] W fun e w' => ∃ v, e = .returned v ∧ OwnEn w' w.heap.size w'.heap.size v (enDropped l s) ∧ Below W.heap.size W w') := fun W hb => by
      refine (implWithout a c _ l W h hl (hr.below hb (Nat.le_refl _))).mono ?_
      rintro e w' ⟨v, rfl, h1, h2⟩
      refine ⟨v, rfl, ?_, h2⟩
      rw [hD]
      exact OwnEn.of (by rw [hlen]; exact ownsRow_base h1 hb.size)
    rw [hi] at HF
    rw [hH]
    clear hD hH hlen hi hr hl h
    generalize l.findIdx (isN s) = k at *
    generalize enDropped l s = D at *
    go_enter Tryd.func11, Tryd.ntmps11
    go_wp2_with fail
    refine HF.out.mono ?_
    rintro e w1 ⟨rfl, hb1⟩
    go_wp2_with fail
    refine (HW.out _ hb1).mono ?_
    rintro e w2 ⟨v2, rfl, ho2, hb2⟩
    have hB := hb1.trans (hb2.mono hb1.size)
    go_wp2
    go_returns
    exact ⟨_, rfl, ho2, hB⟩
  · have hi : idxF l (isN s) = -1 := by unfold idxF; rw [if_neg h]
    have hD : enDropped l s = l := by unfold enDropped; rw [if_neg (by exact h)]
    have hH : enHas l s = false := by unfold enHas; exact decide_eq_false h
    have HW : Hid (∀ W, Below w.heap.size w W → Calls Tryd.prog 24 #[.slice a l.length c] W fun e w' => ∃ v, e = .returned v ∧ OwnEn w' w.heap.size w'.heap.size v l ∧ Below W.heap.size W w') := fun W hb => by
      refine (freshEn a c l W hl (hr.below hb (Nat.le_refl _))).mono ?_
      rintro e w' ⟨v, rfl, h1, h2⟩
      exact ⟨v, rfl, OwnEn.of (ownsRow_base h1 hb.size), h2⟩
    rw [hi] at HF
    rw [hH, hD]
    clear hD hH hi hr hl h
    go_enter Tryd.func11, Tryd.ntmps11
    go_wp2_with fail
    refine HF.out.mono ?_
    rintro e w1 ⟨rfl, hb1⟩
    go_wp2_with fail
    refine (HW.out _ hb1).mono ?_
    rintro e w2 ⟨v2, rfl, ho2, hb2⟩
    have hB := hb1.trans (hb2.mono hb1.size)
    go_wp2
    go_returns
    exact ⟨_, rfl, ho2, hB⟩
end Go.Proofs.YtogpgocldgdeaaaDoor
