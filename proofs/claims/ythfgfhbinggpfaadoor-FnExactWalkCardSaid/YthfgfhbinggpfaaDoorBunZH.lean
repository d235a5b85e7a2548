/-
  Own texts, several together.
-/
import Derived.Test.YthfgfhbinggpfaaDoorSEokW
import Derived.Test.YthfgfhbinggpfaaDoorBunZA
import Derived.Test.YthfgfhbinggpfaaDoorBunZG
import Derived.Test.YthfgfhbinggpfaaDoorBunZE
/-
  Own text: what is wanted for adding and dropping an entry: cuts, where a name goes.
-/
namespace Go.Proofs.YthfgfhbinggpfaaDoor
open Go.RowKit

theorem Tryd.sizeEn : ∀ W : World, (sizeOf (Tryd.prog.elem 61)).run Tryd.prog W = .ok 2 W := fun W => by
  have he : Tryd.prog.elem 61 = 74 := by kernel_rfl
  rw [he]
  obtain ⟨i, hi, hz0, hz1, hz2⟩ := info_parts Tryd.infoEnt
  simp [sizeOf, typeInfo, hi, hz1]
theorem Tryd.elemEn : Tryd.prog.underlying 61 = some (.slice (Tryd.prog.elem 61)) := by kernel_rfl
/-- Entries up to a place. -/
theorem cutHi (a : Option Addr) (c L k : Nat) (hk : k ≤ c) (W : World) : (Instr.slice 61 (.slice a L c) none (some (.int .i64 (k : Int))) none).run Tryd.prog W = .ok (.slice a k c) W := by
  have e := run_slice_h W 61 a L c Tryd.elemEn .i64 (k : Int) (by omega) (by omega)
  rw [e, Tryd.sizeEn]
  simp [sliced]
  intro _
  cases a with
  | none => rfl
  | some x => simp [Addr.add]
/-- Entries from a place on. -/
theorem cutLo (a : Option Addr) (c L k : Nat) (hk : k ≤ L) (hc : L ≤ c) : ∃ a' c', (∀ W : World, (Instr.slice 61 (.slice a L c) (some (.int .i64 (k : Int))) none none).run Tryd.prog W = .ok (.slice a' (L - k) c') W) ∧ (L - k = 0 ∨ a' = a.map (·.add (k * 2))) := by
  refine ⟨if c = k then a else a.map (·.add (k * 2)), c - k, fun W => ?_, ?_⟩
  · have e := run_slice_l W 61 a L c Tryd.elemEn .i64 (k : Int) (by omega) (by omega)
    rw [e, Tryd.sizeEn]
    simp [sliced]
  · by_cases h : c = k
    · left; omega
    · right; rw [if_neg h]
theorem rdF_take {w : World} {a : Option Addr} {l : List EntD} (h : RdF encN 2 w a l) (k : Nat) : RdF encN 2 w a (l.take k) := by
  rcases h with rfl | ⟨b, off, rfl, hb, hc⟩
  · left; simp
  · refine .inr ⟨b, off, rfl, hb, fun i hi j hj => ?_⟩
    rw [List.length_take] at hi
    rw [hc i (by omega) j hj, List.getElem_take]
theorem rdF_drop {w : World} {a a' : Option Addr} {l : List EntD} (h : RdF encN 2 w a l) (k : Nat) (ha : l.length - k = 0 ∨ a' = a.map (·.add (k * 2))) : RdF encN 2 w a' (l.drop k) := by
  rcases ha with h0 | rfl
  · exact .inl (List.drop_eq_nil_of_le (by omega))
  · rcases h with rfl | ⟨b, off, rfl, hb, hc⟩
    · left; simp
    · refine .inr ⟨b, off + k * 2, by simp [Addr.add], hb, fun i hi j hj => ?_⟩
      rw [List.length_drop] at hi
      have := hc (k + i) (by omega) j hj
      rw [show off + k * 2 + i * 2 + j = off + (k + i) * 2 + j by omega, this, List.getElem_drop]
theorem szEn_app (l m : List EntD) : szEn (l ++ m) = szEn l + szEn m := by unfold szEn; rw [List.map_append, List.sum_append]
theorem enAt_le (l : List EntD) (s : ByteArray) : enAt l s ≤ l.length := List.findIdx_le_length
theorem enAdded_sz {l : List EntD} {s : ByteArray} {n : Int} : szEn (enAdded l s n) = szEn l + 1 + s.size := by
  unfold enAdded
  rw [szEn_app]
  have e : szEn l = szEn (l.take (enAt l s)) + szEn (l.drop (enAt l s)) := by rw [← szEn_app, List.take_append_drop]
  rw [e]
  show _ + szEn ((s, n) :: _) = _
  unfold szEn
  simp
  omega
theorem enAt_at {l : List EntD} {s : ByteArray} {q : Nat} (hq : q ≤ l.length) (h1 : ∀ j (hj : j < l.length), j < q → ltB s (l[j]).1 = false) (h2 : ∀ (h : q < l.length), ltB s (l[q]).1 = true) : enAt l s = q := by
  unfold enAt
  rcases Nat.lt_or_ge q l.length with h | h
  · rw [List.findIdx_eq h]
    exact ⟨h2 h, fun j hj => h1 j (by omega) hj⟩
  · obtain rfl : q = l.length := by omega
    rw [List.findIdx_eq_length]
    intro x hx
    obtain ⟨i, hi, rfl⟩ := List.getElem_of_mem hx
    exact h1 i hi hi
theorem srcEnOne (w : World) (s : ByteArray) (n : Int) : Src Tryd.prog 2 61 (.slice (some ⟨w.heap.size, 0, none⟩) 1 1) 1 [.string s, .int .i64 n] (w.alloc (.cells #[.string s, .int .i64 n] 74)) := by
  have h := srcEn (w := w.alloc (.cells #[.string s, .int .i64 n] 74)) (a := some ⟨w.heap.size, 0, none⟩) (l := [(s, n)]) 1 (.inr ⟨w.heap.size, 0, rfl, by simp, fun i hi j hj => by
    obtain rfl : i = 0 := by simpa using hi
    have hv := (Var.made w #[.string s, .int .i64 n] 74).cell j
    simp only [Nat.zero_mul, Nat.zero_add]
    rw [hv]
    match j, hj with
    | 0, _ => rfl
    | 1, _ => rfl⟩)
  exact h
theorem enAdded_sm {l : List EntD} {s : ByteArray} {n : Int} (hl : szEn l ≤ 1048576) (hs : s.size ≤ 1048576) : SmE (enAdded l s n) := by
  refine ⟨by rw [enAdded_sz]; omega, fun e he => ?_⟩
  unfold enAdded at he
  rcases List.mem_append.1 he with h | h
  · have := szEn_mem (List.mem_of_mem_take h); omega
  · rcases List.mem_cons.1 h with rfl | h
    · exact hs
    · have := szEn_mem (List.mem_of_mem_drop h); omega
noncomputable def addOk (l : List EntD) (s : ByteArray) (n : Int) : Bool := enOk l && enOk (enAdded l s n)
noncomputable def addD (l : List EntD) (s : ByteArray) (n : Int) : List EntD := if addOk l s n = true then enAdded l s n else l
end Go.Proofs.YthfgfhbinggpfaaDoor

/-
  Own text: 'append' onto a row of the call's own, from whatever source, with where the new row lies: in the old row's block, or in a new one.
-/
namespace Go.Proofs.YthfgfhbinggpfaaDoor
open Go.RowKit
section
variable {P : Program} (w : World)

theorem run_append_own_srcAt (base : Nat) (t tx ty e : TypeId) (i : TypeInfo) (z : Value) (size bytes : Nat) (ht : P.underlying t = some (.slice e)) (hi : P.info? e = some i) (hz : i.zero = some z)
    (hsize : i.size = size) (hby : i.bytes = bytes) (hzs : z.cells.size = size)
    (v : Value) (n : Nat) (xs : List Value) (hown : w.ownsRow base e size v n xs)
    (x : Value) (m : Nat) (news : List Value) (hs : Src P size tx x m news w)
    (h63 : n + m ≤ maxLen) (hbytes : (n + m) * bytes ≤ 140737488355328) (hbase : base ≤ w.heap.size) :
    ∃ v' w', (Builtin.append_ #[t, tx] ty #[v, x]).run P w = .ok v' w' ∧ w'.ownsRow base e size v' (n + m) (xs ++ news) ∧ w.grownBy w' v.ownBlock ∧ (v'.ownBlock = v.ownBlock ∨ v'.ownBlock = some w.heap.size) := by
  subst hsize
  subst hby
  have hsmall : n + m ≤ 9223372036854775807 := by simp only [maxLen] at h63; omega
  have hl := hs.newsLen
  have hlen : (xs ++ news).length = (n + m) * i.size := by rw [List.length_append, hown.1, hl, Nat.add_mul]
  have grown : ∀ (old : Nat), old < n + m → ∀ (row : Option Nat),
      (w.drew.alloc (.cells ((xs ++ news).toArray ++ Builtin.zeroCells z.cells (grownCap w (n + m) old e - (n + m))) e)).ownsRow base e i.size
        (.slice (some ⟨w.heap.size, 0, none⟩) (n + m) (grownCap w (n + m) old e)) (n + m) (xs ++ news) ∧
      w.grownBy (w.drew.alloc (.cells ((xs ++ news).toArray ++ Builtin.zeroCells z.cells (grownCap w (n + m) old e - (n + m))) e)) row := by
    intro old ho row
    have hge := grownCap_ge w (n + m) old e
    have hcm : grownCap w (n + m) old e ≤ maxLen := grownCap_le_maxLen w (n + m) old e h63
    refine ⟨⟨hlen, .inr ⟨w.heap.size, _, _, rfl, hbase, heap_alloc_new w.drew _, hge, hcm, ?_, ?_⟩⟩, ⟨rfl, rfl, rfl, by simp, fun k hk _ => _root_.Go.heap_alloc_old w.drew _ hk⟩⟩
    · simp only [Array.size_append, List.size_toArray, size_zeroCells, hzs, hlen, ← Nat.add_mul]
      congr 1
      omega
    · simp only [Array.toList_append]
      rw [← hlen]
      exact List.take_left
  rcases hown.2 with ⟨rfl, rfl⟩ | ⟨g, cap, cur, rfl, hbg, hg, hnc, hcm, hcs, htake⟩
  · have hx : xs = [] := List.eq_nil_of_length_eq_zero (by simpa using hown.1)
    subst hx
    by_cases hm : m = 0
    · subst hm
      have hn : news = [] := List.eq_nil_of_length_eq_zero (by simpa using hl)
      subst hn
      refine ⟨.slice none 0 0, w, ?_, World.ownsRow_nil w base e i.size, ⟨rfl, rfl, rfl, Nat.le_refl _, fun _ _ _ => rfl⟩, .inl rfl⟩
      rcases hs.kind with ⟨e', hk⟩ | hk <;> simp [Builtin.append_, run_underlying ht, run_underlying hk, sizeOf, typeInfo, hi, hs.len, hs.cells]
    · have hold : (Builtin.firstCells i.size 0 (.slice none 0 0)).run P w.drew = .ok ([] : List Value).toArray w.drew := run_firstCells_none w.drew i.size 0 0 0
      have hr := run_append_grow_src (P := P) w t tx ty e i z ht hi hz none 0 0 [] hold x m news hs (by omega) (by omega) (growslice_fits (by omega) hbytes)
      have hgr := grown 0 (by omega) (Value.ownBlock (.slice none 0 0))
      simp only [Nat.zero_add, List.nil_append] at hgr hr ⊢
      exact ⟨_, _, hr, hgr.1, hgr.2, .inr rfl⟩
  · by_cases hroom : n + m ≤ cap
    · have hfit : n * i.size + news.length ≤ cur.size := by rw [hl, hcs, ← Nat.add_mul]; exact Nat.mul_le_mul_right _ hroom
      have hst := run_storeCells_at P g (n * i.size) e news 0 cur w hg (by simpa using hfit) hs.one
      simp only [Nat.add_zero] at hst
      have hr : (Builtin.append_ #[t, tx] ty #[.slice (some ⟨g, 0, none⟩) n cap, x]).run P w =
          .ok (.slice (some ⟨g, 0, none⟩) (n + m) cap) (w.setRow g (cur.toList.take (n * i.size) ++ news ++ cur.toList.drop (n * i.size + news.length)).toArray) := by
        rcases hs.kind with ⟨e', hk⟩ | hk <;> simp [Builtin.append_, run_underlying ht, run_underlying hk, sizeOf, typeInfo, hi, hs.len, hroom, hs.cells, Addr.add_lit, hst]
      refine ⟨_, _, hr, ⟨hlen, .inr ⟨g, cap, _, rfl, hbg, setRow_heap w g cur _ e _ hg, hroom, hcm, ?_, ?_⟩⟩, ⟨rfl, rfl, rfl, by simp, fun k _ hk => setRow_other w g k _ (fun e => hk (by simp [Value.ownBlock, e]))⟩, .inl rfl⟩
      · simp only [List.size_toArray, List.length_append, List.length_take, List.length_drop, Array.length_toList]
        omega
      · rw [htake, ← hlen]
        exact List.take_left
    · have holds : ∀ j u, xs[j]? = some u → w.cell? ((⟨g, 0, none⟩ : Addr).add j) = some u := hown.cells (g := g) rfl
      have hold : (Builtin.firstCells i.size n (.slice (some ⟨g, 0, none⟩) n cap)).run P w.drew = .ok xs.toArray w.drew := run_firstCells_some w.drew i.size n ⟨g, 0, none⟩ n cap xs hown.1 (by simpa using holds)
      have hr := run_append_grow_src (P := P) w t tx ty e i z ht hi hz (some ⟨g, 0, none⟩) n cap xs hold x m news hs (by omega) (by omega) (growslice_fits (by omega) hbytes)
      have hgr := grown cap (by omega) (Value.ownBlock (.slice (some ⟨g, 0, none⟩) n cap))
      exact ⟨_, _, hr, hgr.1, hgr.2, .inr rfl⟩

theorem wpList_append_own_srcAt {ops : Array Oper} {rest : List Oper} {o : Oper} {a : Act} {Q : Exit → Act → World → Prop} (hgd : o.guard = none) (s x : Operand) (t tx : TypeId)
    (ho : o.op = .call { callee := .builtin .append, args := #[s, x], argTypes := #[t, tx] })
    (base : Nat) (e : TypeId) (i : TypeInfo) (z : Value) (size bytes : Nat) (ht : P.underlying t = some (.slice e)) (hi : P.info? e = some i) (hz : i.zero = some z)
    (hsize : i.size = size) (hby : i.bytes = bytes) (hzs : z.cells.size = size)
    (v : Value) (n : Nat) (xs : List Value) (hs : a.eval s = v) (hown : w.ownsRow base e size v n xs)
    (xv : Value) (m : Nat) (news : List Value) (hx : a.eval x = xv) (hsrc : Src P size tx xv m news w)
    (h63 : n + m ≤ maxLen) (hbytes : (n + m) * bytes ≤ 140737488355328) (hbase : base ≤ w.heap.size)
    (h : ∀ v' w', w'.ownsRow base e size v' (n + m) (xs ++ news) → w.grownBy w' v.ownBlock → (v'.ownBlock = v.ownBlock ∨ v'.ownBlock = some w.heap.size) → wpList P ops Q rest (a.put o.dst v') w') : wpList P ops Q (o :: rest) a w := by
  refine wpList_plain hgd fun K hK => ?_
  obtain ⟨v', w', hr, h2, h3, h4⟩ := run_append_own_srcAt (P := P) w base t tx o.type e i z size bytes ht hi hz hsize hby hzs v n xs hown xv m news hsrc h63 hbytes hbase
  unfold Oper.wp execOp
  simp only [ho, resolve, invoke, builtin, Sem.run_bind, Sem.run_pure, Result.andThen_ok, List.map_toArray, List.map_cons, List.map_nil, hs, hx, hr]
  exact hK _ _ (h v' w' h2 h3 h4)
/-- The same as one step of a region that draws. -/
theorem step_own_srcN {ops : Array Oper} {o : Oper} {a : Act} {K : Act → World → Prop} {Q : Exit → Act → World → Prop} {E : Prop} (hgd : o.guard = none) (s x : Operand) (t tx : TypeId)
    (ho : o.op = .call { callee := .builtin .append, args := #[s, x], argTypes := #[t, tx] })
    (base : Nat) (e : TypeId) (i : TypeInfo) (z : Value) (size bytes : Nat) (ht : P.underlying t = some (.slice e)) (hi : P.info? e = some i) (hz : i.zero = some z)
    (hsize : i.size = size) (hby : i.bytes = bytes) (hzs : z.cells.size = size)
    (v : Value) (n : Nat) (xs : List Value) (xv : Value) (m : Nat) (news : List Value) (h63 : n + m ≤ maxLen) (hbytes : (n + m) * bytes ≤ 140737488355328)
    (hs : a.eval s = v) (hx : a.eval x = xv) (hown : w.ownsRow base e size v n xs) (hsrc : Src P size tx xv m news w) (hbase : base ≤ w.heap.size)
    (h : ∀ v' w', w'.ownsRow base e size v' (n + m) (xs ++ news) → w.grownBy w' v.ownBlock → K (a.put o.dst v') w') :
    if Region.wanted o (yielded ops a.tmps) = true then Oper.wp P o a w K Q else E := by
  have hw : Region.wanted o (yielded ops a.tmps) = true := by simp [Region.wanted, hgd]
  rw [if_pos hw]
  obtain ⟨v', w', hr, h2, h3⟩ := run_append_own_src (P := P) w base t tx o.type e i z size bytes ht hi hz hsize hby hzs v n xs hown xv m news hsrc h63 hbytes hbase
  unfold Oper.wp execOp
  simp only [ho, resolve, invoke, builtin, Sem.run_bind, Sem.run_pure, Result.andThen_ok, List.map_toArray, List.map_cons, List.map_nil, hs, hx, hr]
  exact h v' w' h2 h3
end
end Go.Proofs.YthfgfhbinggpfaaDoor

/-
  Own text: a directory is read from its text, by the other program.
-/
namespace Go.Proofs.YthfgfhbinggpfaaDoor
open Go.RowKit

theorem ownEmpty (w : World) (lo : Nat) (h : lo ≤ w.heap.size) : OwnEn (w.alloc (.cells #[] 74)) lo (w.heap.size + 1) (.slice (some ⟨w.heap.size, 0, none⟩) 0 0) [] := by
  have h1 : (w.alloc (.cells #[] 74)).ownsRow w.heap.size 74 2 (.slice (some ⟨w.heap.size, 0, none⟩) 0 0) 0 [] := World.ownsRow_made w #[] 0 (Nat.le_refl _) (Nat.zero_le _) rfl
  refine ⟨ownsRow_base h1 h, fun j hj => ?_⟩
  have := (h1.lt j hj).2
  simpa using this

set_option maxRecDepth 20000 in
set_option maxHeartbeats 4000000 in
theorem specDirOf (s : ByteArray) (w : World) (hs : s.size ≤ 1048576) :
    Calls Tryd.prog 68 #[.string s] w fun e w' => ∃ v, e = .returned (.tuple #[v, .bool (dirOk s)]) ∧ OwnEn w' w.heap.size w'.heap.size v (dirL s) ∧ Below w.heap.size w w' := by
  obtain ⟨i0, hi, hz0, hz1, hz2⟩ := info_parts Tryd.infoEnt
  have ho0 : (w.alloc (.cells #[] 74)).ownsRow w.heap.size 74 2 (.slice (some ⟨w.heap.size, 0, none⟩) 0 0) 0 [] := World.ownsRow_made w #[] 0 (Nat.le_refl _) (Nat.zero_le _) rfl
  obtain ⟨cap, W, hcv, hrd, hbW, hlW, hc1, hc2⟩ := bytes_rowE s (w.alloc (.cells #[] 74)) hs
  have hbl := bytesOf_len s
  have hu := bytesOf_u8 s
  have HNO : Hid ((∀ es, ¬ ReadsE (bytesOf s) 0 es) → dirL s = [] ∧ dirOk s = false) := dir_no
  have HYE : Hid (∀ es, ReadsE (bytesOf s) 0 es → enOk es = true → dirL s = es ∧ dirOk s = true) := fun _ h1 h2 => dir_yes h1 h2
  have HBA : Hid (∀ es, ReadsE (bytesOf s) 0 es → enOk es = false → dirL s = [] ∧ dirOk s = false) := fun _ h1 h2 => dir_bad h1 h2
  have hl : (bytesOf s).length ≤ 1048576 := by omega
  have HAC0 : Hid (Acc (bytesOf s) [] 0) := Acc.start _
  clear hbl
  generalize bytesOf s = b at *
  have hbw : Below w.heap.size w W := (below1 w _).trans (hbW.mono (by simp))
  have HO0 : Hid (W.ownsRow w.heap.size 74 2 (.slice (some ⟨w.heap.size, 0, none⟩) 0 0) ([] : List EntD).length (([] : List EntD).flatMap encN)) := ownsRow_below ho0 hbW (Nat.le_refl _)
  generalize hg : (w.alloc (.cells #[] 74)).heap.size = g at *
  have hgW : g < W.heap.size := hlW
  have HRD : Hid (∀ W', Only (fun k => k ≠ g) W W' → Rd .u8 W' (some ⟨g, 0, none⟩) b) := fun W' h => by
    rcases hrd with h0 | ⟨x, off, he, h1, hc⟩
    · exact .inl h0
    · injection he with he
      injection he with e1 e2 _
      subst e1 e2
      exact .inr ⟨_, _, rfl, Nat.lt_of_lt_of_le h1 h.size, fun i hi => (h.cell (by exact h1) (fun hh => hh rfl)).trans (hc i hi)⟩
  have hgw : w.heap.size ≠ g := by rw [← hg]; simp
  have HGT : Hid (∀ W' (p : Nat), Only (fun k => k ≠ g) W W' → p ≤ 1048581 → Calls Tryd.prog 85 #[.slice (some ⟨g, 0, none⟩) b.length cap, .int .i64 (p : Int)] W' fun e w' => ((∃ s fin, GoodT b (p : Int) s fin ∧ e = .returned (.tuple #[.string s, .int .i64 (fin : Nat), .bool true])) ∨ ((∀ s fin, ¬ GoodT b (p : Int) s fin) ∧ e = .returned (.tuple #[.string ⟨#[]⟩, .int .i64 0, .bool false]))) ∧ w' = W') :=
    fun W' p h hp => specGetText _ cap b (p : Int) W' (by omega) hu hc1 (HRD.out W' h) (by omega)
  have HGN : Hid (∀ W' (p : Nat), Only (fun k => k ≠ g) W W' → p ≤ 1048581 → Calls Tryd.prog 86 #[.slice (some ⟨g, 0, none⟩) b.length cap, .int .i64 (p : Int)] W' fun e w' => ((∃ n next, Good b (p : Int) n next ∧ e = .returned (.tuple #[.int .i64 (n : Nat), .int .i64 (next : Nat), .bool true])) ∨ ((∀ n next, ¬ Good b (p : Int) n next) ∧ e = .returned (.tuple #[.int .i64 0, .int .i64 0, .bool false]))) ∧ w' = W') :=
    fun W' p h hp => specGetNum _ cap b (p : Int) W' (by omega) hu (HRD.out W' h) (by omega)
  have HEO : Hid (∀ W' v es, W'.ownsRow w.heap.size 74 2 v (List.length es) (es.flatMap encN) → SmE es → Calls Tryd.prog 87 #[v] W' fun e w' => e = .returned (.bool (enOk es)) ∧ Below W'.heap.size W' w') := fun W' v es h1 h2 => by
    obtain ⟨a2, c2, rfl, _, hr2⟩ := own_rdF encN_len h1 rfl
    exact specEntriesOk a2 c2 es W' h2 hr2
  have HBW : Hid (Below w.heap.size w W) := hbw
  have HLV0 : Hid (∀ k, (Value.slice (some ⟨w.heap.size, 0, none⟩) 0 0).ownBlock = some k → k ≠ g) := fun k hk => by simp [Value.ownBlock] at hk; omega
  clear hrd hbW hlW hc1 hc2 ho0 hu hbw hg
  go_enter Tryd.func68, Tryd.ntmps68
  go_wp2
  clear hcv
  go_loopw [4, 6] (fun v i wr => ∃ (p : Nat) (v' : Value) (acc : List EntD), v' = v ∧ i = .int .i64 p ∧ Hid (Acc b acc p) ∧ Hid (wr.ownsRow w.heap.size 74 2 v' acc.length (acc.flatMap encN)) ∧ Hid (Only (fun k => k ≠ g) W wr) ∧ Below w.heap.size w wr ∧ Hid (∀ k, v'.ownBlock = some k → k ≠ g) ∧ p ≤ b.length) (fun _ i _ => b.length - (intOf i).toNat)
  case atStart => exact ⟨0, _, [], rfl, rfl, HAC0, HO0, Only.refl _ _, HBW.out, HLV0.out, Nat.zero_le _⟩
  case round =>
    clear HAC0 HO0 HLV0
    obtain ⟨p, v', acc, rfl, rfl, HA, HO, HON, hB, HLV, hpb⟩ := hrel
    by_cases hlt : p < b.length
    · go_wp2_with fail
      refine (HGT.out _ p HON.out (by omega)).mono ?_
      rintro e w1 ⟨⟨t, q, hT, rfl⟩ | ⟨hno, rfl⟩, hw1⟩
      rotate_left
      · subst hw1
        obtain ⟨hD, hK⟩ := HNO.out (HA.out.noText hlt hno)
        have HD : Hid (dirL s = []) := hD
        have HK : Hid (dirOk s = false) := hK
        have hB2 := hB
        clear hno hD hK
        go_wp2
        go_returns
        refine ⟨_, by rw [HK.out]; rfl, ?_, hB2.alloc hB2.size _⟩
        rw [HD.out]
        have := ownEmpty w1 w.heap.size hB2.size
        simpa using this
      · subst hw1
        have hTn := goodT_next hT
        have HT : Hid (GoodT b p t q) := hT
        clear hT
        go_wp2_with fail
        refine (HGN.out _ q HON.out (by omega)).mono ?_
        rintro e w2 ⟨⟨n, r, hN, rfl⟩ | ⟨hno, rfl⟩, hw2⟩
        rotate_left
        · subst hw2
          obtain ⟨hD, hK⟩ := HNO.out (HA.out.noNum hlt HT.out hno)
          have HD : Hid (dirL s = []) := hD
          have HK : Hid (dirOk s = false) := hK
          have hB2 := hB
          clear hno hD hK
          go_wp2
          go_returns
          refine ⟨_, by rw [HK.out]; rfl, ?_, hB2.alloc hB2.size _⟩
          rw [HD.out]
          have := ownEmpty w2 w.heap.size hB2.size
          simpa using this
        · subst hw2
          have hNn := good_nextE hN
          have HA2 : Hid (Acc b (acc ++ [(t, (n : Int))]) r) := HA.out.step hlt HT.out hN
          have hal := HA.out.siz
          have hal2 := szEn_len acc
          have HO1 : Hid ((w2.alloc (.cells #[.string t, .int .i64 (n : Int)] 74)).ownsRow w.heap.size 74 2 v' acc.length (acc.flatMap encN)) := ownsRow_below HO.out (below1 _ _) (Nat.le_refl _)
          have HS1 : Hid (Src Tryd.prog 2 61 (.slice (some ⟨w2.heap.size, 0, none⟩) 1 1) 1 [.string t, .int .i64 (n : Int)] (w2.alloc (.cells #[.string t, .int .i64 (n : Int)] 74))) := srcEnOne w2 t n
          have hB1 : Below w.heap.size w (w2.alloc (.cells #[.string t, .int .i64 (n : Int)] 74)) := hB.alloc hB.size _
          have HON1 : Hid (Only (fun k => k ≠ g) W (w2.alloc (.cells #[.string t, .int .i64 (n : Int)] 74))) := HON.out.trans (Only.of_new (below1 w2 _))
          have hnl : (acc ++ [(t, (n : Int))]).length = acc.length + 1 := by simp
          have hfl : (acc ++ [(t, (n : Int))]).flatMap encN = acc.flatMap encN ++ [.string t, .int .i64 (n : Int)] := by rw [List.flatMap_append]; simp [encN]
          have hgz : g ≠ (w2.alloc (.cells #[.string t, .int .i64 (n : Int)] 74)).heap.size := by have := HON1.out.size; omega
          obtain ⟨av, cv, rfl⟩ : ∃ av cv, v' = .slice av acc.length cv := by
            rcases HO.out.2 with ⟨rfl, h0⟩ | ⟨g, cap, cur, rfl, _⟩
            · exact ⟨none, 0, by rw [h0]⟩
            · exact ⟨_, _, rfl⟩
          have HM : Hid ((acc ++ [(t, (n : Int))]).length = acc.length + 1 ∧ (acc ++ [(t, (n : Int))]).flatMap encN = acc.flatMap encN ++ [.string t, .int .i64 (n : Int)]) := ⟨hnl, hfl⟩
          generalize acc ++ [(t, (n : Int))] = acc2 at *
          generalize acc.length = al at *
          generalize acc.flatMap encN = X at *
          clear hN HT HO hB HA HON hnl hfl
          go_wp2_with (at_builtin; refine wpList_append_own_srcAt _ rfl (.tmp 40) (.tmp 44) 61 61 rfl w.heap.size 74 i0 _ 2 24 Tryd.underlying61 hi hz0 hz1 hz2 rfl _ _ _ rfl HO1.out _ 1 [.string t, .int .i64 (n : Int)] rfl HS1.out (by unfold maxLen; omega) (by omega) hB1.size ?_)
          intro v5 w5 ho5 hg5 hbl5
          have hB5 : Below w.heap.size w w5 := hB1.grown hg5 hB1.size (fun q hq => (HO1.out.lt q hq).1)
          have HON5 : Hid (Only (fun k => k ≠ g) W w5) := HON1.out.trans ((Only.of_grown hg5).mono fun k _ hk => HLV.out k hk)
          have HLV5 : Hid (∀ k, v5.ownBlock = some k → k ≠ g) := fun k hk => by
            rcases hbl5 with h | h
            · exact HLV.out k (by rw [← h]; exact hk)
            · rw [hk] at h
              injection h with h
              rw [h]
              exact fun hh => hgz (by simpa using hh.symm)
          have HO5 : Hid (w5.ownsRow w.heap.size 74 2 v5 acc2.length (acc2.flatMap encN)) := by
            show World.ownsRow _ _ _ _ _ _ _
            rw [HM.out.1, HM.out.2]
            exact ho5
          clear ho5 hg5 hbl5 HO1 HS1 hB1 HON1 HLV hgz
          go_wp2
          go_roundw
          case rel => exact ⟨r, _, acc2, rfl, by go_num, HA2, HO5, HON5, hB5, HLV5, by omega⟩
          case measure => simp [intOf]; omega
    · have hRE := HA.out.done hlt
      have hSM := HA.out.sm hl
      have hY := HYE.out acc hRE
      have hN := HBA.out acc hRE
      have HEOc := HEO.out wr v' acc HO.out hSM
      cases hq : enOk acc with
      | true =>
        obtain ⟨hD, hK⟩ := hY hq
        have HD : Hid (dirL s = acc) := hD
        have HK : Hid (dirOk s = true) := hK
        rw [hq] at HEOc
        have HE2 : Hid (Calls Tryd.prog 87 #[v'] wr fun e w' => e = .returned (.bool true) ∧ Below wr.heap.size wr w') := HEOc
        clear hD hK hY hN hRE hSM HEOc hq HNO HYE HBA HGT HGN HRD HEO HA
        go_wp2_with fail
        refine HE2.out.mono ?_
        rintro e w1 ⟨rfl, hb1⟩
        have hB2 := hB.trans (hb1.mono hB.size)
        have ho2 := ownsRow_below HO.out hb1 (Nat.le_refl _)
        go_wp2
        go_returns
        exact ⟨_, by rw [HK.out]; rfl, by rw [HD.out]; exact OwnEn.of ho2, hB2⟩
      | false =>
        obtain ⟨hD, hK⟩ := hN hq
        have HD : Hid (dirL s = []) := hD
        have HK : Hid (dirOk s = false) := hK
        rw [hq] at HEOc
        have HE2 : Hid (Calls Tryd.prog 87 #[v'] wr fun e w' => e = .returned (.bool false) ∧ Below wr.heap.size wr w') := HEOc
        clear hD hK hY hN hRE hSM HEOc hq HNO HYE HBA HGT HGN HRD HEO HA
        go_wp2_with fail
        refine HE2.out.mono ?_
        rintro e w1 ⟨rfl, hb1⟩
        have hB2 := hB.trans (hb1.mono hB.size)
        go_wp2
        go_returns
        refine ⟨_, by rw [HK.out]; rfl, ?_, hB2.alloc hB2.size _⟩
        rw [HD.out]
        have := ownEmpty w1 w.heap.size hB2.size
        simpa using this
end Go.Proofs.YthfgfhbinggpfaaDoor

/-
  Own text: what a directory of a branch holds, by the other program; which nodes are reached from a node on (plain).
-/
namespace Go.Proofs.YthfgfhbinggpfaaDoor
open Go.RowKit

def tx9 (F : FsD) (k : Nat) : ByteArray := catD F.ds (ndAt F (k : Int)).b
noncomputable def dirO (F : FsD) (k : Nat) : Bool := decide ((ndAt F (k : Int)).k = 2) && dirOk (tx9 F k)
noncomputable def dirE (F : FsD) (k : Nat) : List EntD := if (ndAt F (k : Int)).k = 2 then dirL (tx9 F k) else []

set_option maxRecDepth 20000 in
set_option maxHeartbeats 2000000 in
theorem specDir9 (v : Value) (F : FsD) (k : Nat) (w : World) (hp : ShapeP F) (hk : k < F.ns.length) (hr : RdFs w v F) :
    Calls Tryd.prog 44 #[v, .int .i64 (k : Nat)] w fun e w' => ∃ u, e = .returned (.tuple #[u, .bool (dirO F k)]) ∧ OwnEn w' w.heap.size w'.heap.size u (dirE F k) ∧ Below w.heap.size w w' := by
  have hrd := hr
  obtain ⟨a, ca, b, cb, rfl, _, r1, r2⟩ := hr
  have hkn : F.ns.length ≤ 10 := hp.1.2.1
  obtain ⟨g, off, u, rfl, hblt, _, c0, _, _, _, _⟩ := r1.at k hk
  have hbA := below1 w (.cells #[.slice (some ⟨g, off, none⟩) F.ns.length ca, .slice b F.ds.length cb] 30)
  have d0 := (hbA.cell (by exact hblt)).trans c0
  have hV := Var.made w #[.slice (some ⟨g, off, none⟩) F.ns.length ca, .slice b F.ds.length cb] 30
  have y0 := hV.cell 0
  have y1 := hV.cell 1
  have hkI : (k : Int) < (F.ns.length : Int) := by omega
  have hat := ndAt_nat hk
  by_cases h2 : (F.ns[k]).k = 2
  · have hu : UsP F (k : Int) := ⟨hp, by omega, by simpa using hk, by rw [hat, h2]; decide⟩
    have hsz : (tx9 F k).size ≤ 1048576 := by
      obtain ⟨_, h5, _, hbx, hds⟩ := hu.facts
      have h1 := catD_size (ds := F.ds) (b := (ndAt F (k : Int)).b) (m := 16) (fun x hx => by
        rw [hat] at hx
        have hx2 := hbx x hx
        rw [dsAt_get hx2.2]; exact hds _ (List.getElem_mem _))
      rw [hat] at h1
      unfold tx9
      rw [hat]
      omega
    have HO : Hid (dirO F k = dirOk (tx9 F k)) := by show _ = _; unfold dirO; rw [hat, h2]; rfl
    have HE : Hid (dirE F k = dirL (tx9 F k)) := by show _ = _; unfold dirE; rw [hat, if_pos h2]
    have HR7 : Hid (Calls Tryd.prog 35 #[.agg #[.slice (some ⟨g, off, none⟩) F.ns.length ca, .slice b F.ds.length cb], .int .i64 (k : Nat)] (w.alloc (.cells #[.slice (some ⟨g, off, none⟩) F.ns.length ca, .slice b F.ds.length cb] 30)) fun e w' => e = .returned (.string (tx9 F k)) ∧ Below (w.alloc (.cells #[.slice (some ⟨g, off, none⟩) F.ns.length ca, .slice b F.ds.length cb] 30)).heap.size (w.alloc (.cells #[.slice (some ⟨g, off, none⟩) F.ns.length ca, .slice b F.ds.length cb] 30)) w') := specReadW _ F k _ hu (hrd.below hbA (Nat.le_refl _))
    have HBA : Hid (Below w.heap.size w (w.alloc (.cells #[.slice (some ⟨g, off, none⟩) F.ns.length ca, .slice b F.ds.length cb] 30))) := hbA
    rw [h2] at d0
    clear hrd r1 r2 c0 hbA hV hat h2 hu hp
    go_enter Tryd.func44, Tryd.ntmps44
    go_wp2_with fail
    refine HR7.out.mono ?_
    rintro e w1 ⟨rfl, hb1⟩
    have hB1 := HBA.out.trans (hb1.mono HBA.out.size)
    clear HBA HR7 hb1 d0 y0 y1
    go_wp2_with fail
    refine (specDirOf (tx9 F k) _ hsz).mono ?_
    rintro e w2 ⟨u2, rfl, ho2, hb2⟩
    have hB2 := hB1.trans (hb2.mono hB1.size)
    go_wp2
    go_returns
    exact ⟨u2, by rw [HO.out]; rfl, by rw [HE.out]; exact ⟨ownsRow_base ho2.1 hB1.size, ho2.2⟩, hB2⟩
  · have HO : Hid (dirO F k = false) := by show _ = _; unfold dirO; rw [hat, decide_eq_false h2]; rfl
    have HE : Hid (dirE F k = []) := by show _ = _; unfold dirE; rw [hat, if_neg h2]
    clear hrd r1 r2 c0 hV hat hp
    generalize (F.ns[k]).k = kd at *
    go_enter Tryd.func44, Tryd.ntmps44
    go_wp2
    go_returns
    refine ⟨_, by rw [HO.out]; rfl, ?_, hbA.alloc hbA.size _⟩
    rw [HE.out]
    have := ownEmpty (w.alloc (.cells #[.slice (some ⟨g, off, none⟩) F.ns.length ca, .slice b F.ds.length cb] 30)) w.heap.size hbA.size
    simpa using this

/-- How often each node is reached: node i once more. -/
def bump (i : Nat) (s : List Int) : List Int := s.set i (s.getD i 0 + 1)
noncomputable def seenL (F : FsD) (G : Nat → List Int → List Int × Bool) (i : Nat) : List EntD → List Int → List Int × Bool
  | [], s => (s, true)
  | e :: es, s => @ite _ ((F.ns.length : Int) ≤ e.2 ∨ (ndAt F e.2).k = 0) (Classical.propDecidable _) (s, false) (@ite _ (bt e.1 = [126] ∧ (i ≠ 0 ∨ (ndAt F e.2).k ≠ 1)) (Classical.propDecidable _) (s, false) (if (G e.2.toNat s).2 = true then seenL F G i es (G e.2.toNat s).1 else (s, false)))
noncomputable def seenF (F : FsD) : Nat → Nat → List Int → List Int × Bool
  | 0, i, s => (bump i s, false)
  | d + 1, i, s => if 1 < (bump i s).getD i 0 then (bump i s, false) else if (ndAt F (i : Int)).k ≠ 2 then (bump i s, true) else if dirO F i = true then seenL F (seenF F d) i (dirE F i) (bump i s) else (bump i s, false)
def Ones (n : Nat) (s : List Int) : Prop := s.length = n ∧ ∀ x ∈ s, 0 ≤ x ∧ x ≤ 1
theorem bump_len (i : Nat) (s : List Int) : (bump i s).length = s.length := by simp [bump]
theorem bump_ones {n i : Nat} {s : List Int} (h : Ones n s) (hi : i < n) (h1 : ¬ 1 < (bump i s).getD i 0) : Ones n (bump i s) := by
  refine ⟨by rw [bump_len]; exact h.1, fun x hx => ?_⟩
  rcases List.mem_or_eq_of_mem_set hx with hx | rfl
  · exact h.2 x hx
  · have hl : i < s.length := by rw [h.1]; exact hi
    have h0 := h.2 s[i] (List.getElem_mem hl)
    have e : s.getD i 0 = s[i] := by simp [List.getD, hl]
    have e2 : (bump i s).getD i 0 = s.getD i 0 + 1 := by simp [bump, List.getD, hl]
    rw [e2] at h1
    rw [e] at h1 ⊢
    omega
theorem seenL_ones {F : FsD} {G : Nat → List Int → List Int × Bool} {n i : Nat} (hG : ∀ k s, k < F.ns.length → Ones n s → (G k s).2 = true → Ones n (G k s).1) : ∀ (es : List EntD) (s : List Int), (∀ e ∈ es, 0 ≤ e.2) → Ones n s → (seenL F G i es s).2 = true → Ones n (seenL F G i es s).1
  | [], s, _, h, _ => h
  | e :: es, s, hp, h, ht => by
    unfold seenL at ht ⊢
    split at ht
    · cases ht
    · rename_i h1
      rw [if_neg h1]
      split at ht
      · cases ht
      · rename_i h2
        rw [if_neg h2]
        split at ht
        · rename_i h3
          rw [if_pos h3]
          have h0 := hp e (List.mem_cons_self ..)
          exact seenL_ones hG es _ (fun x hx => hp x (List.mem_cons_of_mem _ hx)) (hG _ _ (by omega) h h3) ht
        · cases ht
end Go.Proofs.YthfgfhbinggpfaaDoor
