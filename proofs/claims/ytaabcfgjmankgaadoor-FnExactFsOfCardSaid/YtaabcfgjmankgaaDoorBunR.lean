/-
  Own texts, several together.
-/
import Derived.Test.YtaabcfgjmankgaaDoorFsF
import Derived.Test.YtaabcfgjmankgaaDoorNodeL
import Derived.OpenShut
import Derived.ShutString
import Derived.ChangeOld
import Derived.SliceStrings
/-
  Own text: the laws' helpers over branches: how great, a copy, alike.
-/
namespace Go.Proofs.YtaabcfgjmankgaaDoor
open Go.RowKit

theorem Tryd.infoNode : (Tryd.prog.info? 36).map (fun i => (i.zero, i.size, i.bytes)) = some (some (.agg #[.int .i64 0, .int .i64 0, .int .i64 0, .int .i64 0, .slice none 0 0]), 5, 56) := by kernel_rfl
theorem Tryd.sizeFs : (Tryd.prog.info? 26).map (·.size) = some 2 := by kernel_rfl


/-! ### A copy -/
theorem uSet (M : List NodeU) (i : Nat) (h : i < M.length) (y : NodeU) :
    (((((M.flatMap encU).set (i * 5) (.int .i64 y.1.k)).set (i * 5 + 1) (.int .i64 y.1.g)).set (i * 5 + 2) (.int .i64 y.1.t)).set (i * 5 + 3) (.int .i64 y.1.s)).set (i * 5 + 4) y.2 = (M.set i y).flatMap encU := by
  obtain ⟨⟨yk, yg, yt, ys, yb⟩, yu⟩ := y
  have e0 := flat_set encU_len M i h 0 (⟨yk, M[i].1.g, M[i].1.t, M[i].1.s, M[i].1.b⟩, M[i].2) (.int .i64 yk) (by omega) rfl
  have e1 := flat_set encU_len (M.set i (⟨yk, M[i].1.g, M[i].1.t, M[i].1.s, M[i].1.b⟩, M[i].2)) i (by simpa using h) 1 (⟨yk, yg, M[i].1.t, M[i].1.s, M[i].1.b⟩, M[i].2) (.int .i64 yg) (by omega) (by rw [List.getElem_set_self]; rfl)
  have e2 := flat_set encU_len (M.set i (⟨yk, yg, M[i].1.t, M[i].1.s, M[i].1.b⟩, M[i].2)) i (by simpa using h) 2 (⟨yk, yg, yt, M[i].1.s, M[i].1.b⟩, M[i].2) (.int .i64 yt) (by omega) (by rw [List.getElem_set_self]; rfl)
  have e3 := flat_set encU_len (M.set i (⟨yk, yg, yt, M[i].1.s, M[i].1.b⟩, M[i].2)) i (by simpa using h) 3 (⟨yk, yg, yt, ys, M[i].1.b⟩, M[i].2) (.int .i64 ys) (by omega) (by rw [List.getElem_set_self]; rfl)
  have e4 := flat_set encU_len (M.set i (⟨yk, yg, yt, ys, M[i].1.b⟩, M[i].2)) i (by simpa using h) 4 (⟨yk, yg, yt, ys, yb⟩, yu) yu (by omega) (by rw [List.getElem_set_self]; rfl)
  rw [List.set_set] at e1 e2 e3 e4
  rw [Nat.add_zero] at e0
  rw [e0, e1, e2, e3, e4]
theorem uCells {M : List NodeU} {i : Nat} (h : i < M.length) : (M.flatMap encU)[i * 5]? = some (.int .i64 M[i].1.k) ∧ (M.flatMap encU)[i * 5 + 1]? = some (.int .i64 M[i].1.g) ∧ (M.flatMap encU)[i * 5 + 2]? = some (.int .i64 M[i].1.t) ∧ (M.flatMap encU)[i * 5 + 3]? = some (.int .i64 M[i].1.s) ∧ (M.flatMap encU)[i * 5 + 4]? = some M[i].2 := by
  have e0 := flat_get encU_len M i h 0 (by omega)
  have e1 := flat_get encU_len M i h 1 (by omega)
  have e2 := flat_get encU_len M i h 2 (by omega)
  have e3 := flat_get encU_len M i h 3 (by omega)
  have e4 := flat_get encU_len M i h 4 (by omega)
  exact ⟨e0, e1, e2, e3, e4⟩
/-- A node and no slice. -/
def zeroU : NodeU := (zeroN, .slice none 0 0)
theorem set_fill (L : List NodeU) (n : Nat) (y : NodeU) (h : L.length < n) : (L ++ List.replicate (n - L.length) zeroU).set L.length y = (L ++ [y]) ++ List.replicate (n - (L ++ [y]).length) zeroU := by
  rw [List.set_append_right _ _ (Nat.le_refl _), Nat.sub_self, List.append_assoc]
  congr 1
  rw [show n - L.length = (n - (L ++ [y]).length) + 1 by simp; omega, List.replicate_succ, List.set_cons_zero]
  rfl
/-- While a row of nodes is filled, one behind the other: which are there, that each has blocks of its own. -/
structure FillU (w0 w : World) (n cap : Nat) (L : List NodeU) : Prop where
  len : L.length ≤ n
  row : w.ownsRow w0.heap.size 36 5 (.slice (some ⟨w0.heap.size, 0, none⟩) n cap) n ((L ++ List.replicate (n - L.length) zeroU).flatMap encU)
  inn : ∀ x ∈ L, w.ownsRow (w0.heap.size + 1) 3 1 x.2 x.1.b.length (x.1.b.map (Value.int .i64))
  apart : L.Pairwise fun x y => ∀ j, blk x.2 j → ¬ blk y.2 j
  bel : Below w0.heap.size w0 w
theorem FillU.new {w0 w w' : World} {n cap : Nat} {L : List NodeU} (h : FillU w0 w n cap L) (hb : Below w.heap.size w w') : FillU w0 w' n cap L :=
  ⟨h.len, ownsRow_below h.row hb (Nat.le_refl _), fun x hx => ownsRow_below (h.inn x hx) hb (Nat.le_refl _), h.apart, h.bel.trans (hb.mono h.bel.size)⟩
abbrev fiveAt (w : World) (P o : Nat) (a b c d e : Value) : World := ((((w.setCell ⟨P, o, none⟩ a).setCell ⟨P, o + 1, none⟩ b).setCell ⟨P, o + 2, none⟩ c).setCell ⟨P, o + 3, none⟩ d).setCell ⟨P, o + 4, none⟩ e
theorem only_five {S : Nat → Prop} {a w : World} (h : Only S a w) {P : Nat} (hp : S P) (o : Nat) (x0 x1 x2 x3 x4 : Value) : Only S a (fiveAt w P o x0 x1 x2 x3 x4) :=
  ((((h.setCell (p := ⟨P, o, none⟩) hp x0).setCell (p := ⟨P, o + 1, none⟩) hp x1).setCell (p := ⟨P, o + 2, none⟩) hp x2).setCell (p := ⟨P, o + 3, none⟩) hp x3).setCell (p := ⟨P, o + 4, none⟩) hp x4
theorem FillU.put {w0 w : World} {n cap : Nat} {L : List NodeU} (h : FillU w0 w n cap L) (hlt : L.length < n) (y : NodeU) (hy : w.ownsRow (w0.heap.size + 1) 3 1 y.2 y.1.b.length (y.1.b.map (Value.int .i64))) (ha : ∀ x ∈ L, ∀ j, blk x.2 j → ¬ blk y.2 j) :
    FillU w0 (fiveAt w w0.heap.size (L.length * 5) (.int .i64 y.1.k) (.int .i64 y.1.g) (.int .i64 y.1.t) (.int .i64 y.1.s) y.2) n cap (L ++ [y]) := by
  have hO : Only (fun k => k = w0.heap.size) w (fiveAt w w0.heap.size (L.length * 5) (.int .i64 y.1.k) (.int .i64 y.1.g) (.int .i64 y.1.t) (.int .i64 y.1.s) y.2) := only_five (S := fun k => k = w0.heap.size) (Only.refl _ _) rfl _ _ _ _ _ _
  refine ⟨by simp; omega, ?_, ?_, ?_, ?_⟩
  · have hst := ((((h.row.stored (L.length * 5) (.int .i64 y.1.k)).1.stored (L.length * 5 + 1) (.int .i64 y.1.g)).1.stored (L.length * 5 + 2) (.int .i64 y.1.t)).1.stored (L.length * 5 + 3) (.int .i64 y.1.s)).1.stored (L.length * 5 + 4) y.2
    have hst1 := hst.1
    rw [uSet _ L.length (by simp; omega), set_fill L n y hlt] at hst1
    exact hst1
  · intro x hx
    rcases List.mem_append.1 hx with hx | hx
    · exact own_only (h.inn x hx) hO (fun k hk e => by have := ((h.inn x hx).lt k hk).1; omega)
    · obtain rfl : x = y := by simpa using hx
      exact own_only hy hO (fun k hk e => by have := (hy.lt k hk).1; omega)
  · rw [List.pairwise_append]
    refine ⟨h.apart, by simp, fun x hx z hz => ?_⟩
    obtain rfl : z = y := by simpa using hz
    exact ha x hx
  · exact h.bel.trans (hO.below h.bel.size (fun k e => by omega))
theorem FillU.cells {w0 w : World} {n cap : Nat} {L : List NodeU} (h : FillU w0 w n cap L) (hlt : L.length < n) :
    w.cell? ⟨w0.heap.size, L.length * 5, none⟩ = some (.int .i64 0) ∧ w.cell? ⟨w0.heap.size, L.length * 5 + 1, none⟩ = some (.int .i64 0) ∧ w.cell? ⟨w0.heap.size, L.length * 5 + 2, none⟩ = some (.int .i64 0) ∧ w.cell? ⟨w0.heap.size, L.length * 5 + 3, none⟩ = some (.int .i64 0) ∧ w.cell? ⟨w0.heap.size, L.length * 5 + 4, none⟩ = some (.slice none 0 0) ∧
      w.frozen? ⟨w0.heap.size, L.length * 5, none⟩ = false ∧ w.frozen? ⟨w0.heap.size, L.length * 5 + 1, none⟩ = false ∧ w.frozen? ⟨w0.heap.size, L.length * 5 + 2, none⟩ = false ∧ w.frozen? ⟨w0.heap.size, L.length * 5 + 3, none⟩ = false ∧ w.frozen? ⟨w0.heap.size, L.length * 5 + 4, none⟩ = false := by
  have e := uCells (M := L ++ List.replicate (n - L.length) zeroU) (i := L.length) (by simp; omega)
  have hz : (L ++ List.replicate (n - L.length) zeroU)[L.length]'(by simp; omega) = zeroU := by
    rw [List.getElem_append_right (Nat.le_refl _)]; simp
  rw [hz] at e
  obtain ⟨e0, e1, e2, e3, e4⟩ := e
  exact ⟨(h.row.cellAt _ (by omega)).trans e0, (h.row.cellAt _ (by omega)).trans e1, (h.row.cellAt _ (by omega)).trans e2, (h.row.cellAt _ (by omega)).trans e3, (h.row.cellAt _ (by omega)).trans e4, h.row.frozenAt _, h.row.frozenAt _, h.row.frozenAt _, h.row.frozenAt _, h.row.frozenAt _⟩
theorem FillU.all {w0 w : World} {n cap : Nat} {L : List NodeU} (h : FillU w0 w n cap L) (hn : L.length = n) : OwnL w w0.heap.size w.heap.size (.slice (some ⟨w0.heap.size, 0, none⟩) L.length cap) L := by
  have hr := h.row
  rw [← hn, Nat.sub_self, List.replicate_zero, List.append_nil] at hr
  exact ⟨hr, fun x hx => ownsRow_base (h.inn x hx) (by omega), h.apart, fun j hj => (hr.lt j hj).2, fun x hx j hj => ((h.inn x hx).lt j hj).2⟩

set_option maxRecDepth 20000 in
set_option maxHeartbeats 1000000 in
theorem eqNodes (a c : Option Addr) (ca cc : Nat) (l : List NodeD) (w : World) (hl : l.length ≤ 4194304) (hs2 : ∀ n ∈ l, n.b.length ≤ 4194304) (hr : RdNs w a l) (hs : RdNs w c l) :
    Calls Tryd.prog 22 #[.slice a l.length ca, .slice c l.length cc] w fun e w' => e = .returned (.bool true) ∧ Below w.heap.size w w' := by
  have HCS : Hid (∀ k (hk : k < l.length), ∃ b off u, a = some ⟨b, off, none⟩ ∧ b < w.heap.size ∧ RdU w u l[k].b ∧ NodeAt w b (off + k * 5) l[k] u) := fun k hk => hr.at k hk
  have HDS : Hid (∀ k (hk : k < l.length), ∃ b off u, c = some ⟨b, off, none⟩ ∧ b < w.heap.size ∧ RdU w u l[k].b ∧ NodeAt w b (off + k * 5) l[k] u) := fun k hk => hs.at k hk
  have HSM : Hid (∀ n ∈ l, n.b.length ≤ 4194304) := hs2
  clear hr hs hs2
  go_enter Tryd.func22, Tryd.ntmps22
  go_wp2
  go_loopw [5] (fun i wr => ∃ k : Nat, k ≤ l.length ∧ i = .int .i64 k ∧ Below w.heap.size w wr) (fun i _ => l.length - (intOf i).toNat)
  case atStart => exact ⟨0, Nat.zero_le _, rfl, Below.refl _ _⟩
  case round =>
    obtain ⟨k, hk, rfl, hbel⟩ := hrel
    by_cases hlt : k < l.length
    · obtain ⟨b, off, u, rfl, hblt, hru, c0, c1, c2, c3, c4⟩ := HCS.out k hlt
      obtain ⟨b', off', u', rfl, hblt', hru', c0', c1', c2', c3', c4'⟩ := HDS.out k hlt
      have d0 := (hbel.cell (p := ⟨b, off + k * 5, none⟩) hblt).trans c0
      have d1 := (hbel.cell (p := ⟨b, off + k * 5 + 1, none⟩) hblt).trans c1
      have d2 := (hbel.cell (p := ⟨b, off + k * 5 + 2, none⟩) hblt).trans c2
      have d3 := (hbel.cell (p := ⟨b, off + k * 5 + 3, none⟩) hblt).trans c3
      have d4 := (hbel.cell (p := ⟨b, off + k * 5 + 4, none⟩) hblt).trans c4
      have e0 := (hbel.cell (p := ⟨b', off' + k * 5, none⟩) hblt').trans c0'
      have e1 := (hbel.cell (p := ⟨b', off' + k * 5 + 1, none⟩) hblt').trans c1'
      have e2 := (hbel.cell (p := ⟨b', off' + k * 5 + 2, none⟩) hblt').trans c2'
      have e3 := (hbel.cell (p := ⟨b', off' + k * 5 + 3, none⟩) hblt').trans c3'
      have e4 := (hbel.cell (p := ⟨b', off' + k * 5 + 4, none⟩) hblt').trans c4'
      have HE : Hid (Calls Tryd.prog 47 #[.agg #[.int .i64 l[k].k, .int .i64 l[k].g, .int .i64 l[k].t, .int .i64 l[k].s, u], .agg #[.int .i64 l[k].k, .int .i64 l[k].g, .int .i64 l[k].t, .int .i64 l[k].s, u']] wr.drew fun e w' => e = .returned (.bool true) ∧ Below wr.drew.heap.size wr.drew w') :=
        eqNodeW _ _ l[k] _ (HSM.out _ (List.getElem_mem hlt)) (hru.below hbel.drew (Nat.le_refl _)).node (hru'.below hbel.drew (Nat.le_refl _)).node
      clear c0 c1 c2 c3 c4 c0' c1' c2' c3' c4' hru hru'
      generalize l[k].k = y0 at *
      generalize l[k].g = y1 at *
      generalize l[k].t = y2 at *
      generalize l[k].s = y3 at *
      go_wp2
      go_region_with (go_at_call 47; refine HE.out.mono ?_; rintro e w2 ⟨rfl, hb2⟩)
      all_goals
        have hb3 : Below w.heap.size w w2 := hbel.drew.trans (hb2.mono hbel.size)
        go_wp2
        go_roundw
        case rel => exact ⟨k + 1, by omega, by go_num, hb3⟩
        case measure => simp [intOf]; omega
    · go_wp2
      go_ret
      exact ⟨rfl, hbel⟩

set_option maxRecDepth 20000 in
set_option maxHeartbeats 400000 in
theorem eqFsW (v u : Value) (F : FsD) (w : World) (hl : SmF F) (hr : RdFs w v F) (hs : RdFs w u F) :
    Calls Tryd.prog 8 #[v, u] w fun e w' => e = .returned (.bool true) ∧ Below w.heap.size w w' := by
  obtain ⟨a, ca, b, cb, rfl, _, r1, r2⟩ := hr
  obtain ⟨a', ca', b', cb', rfl, _, r1', r2'⟩ := hs
  have HR : Hid (RdNs w a F.ns ∧ RdS w b F.ds ∧ RdNs w a' F.ns ∧ RdS w b' F.ds) := ⟨r1, r2, r1', r2'⟩
  obtain ⟨hl1, hl2, hl3, _⟩ := hl
  have HL2 : Hid (∀ n ∈ F.ns, n.b.length ≤ 4194304) := fun n hn => by have := hl2 n hn; omega
  clear r1 r2 r1' r2' hl2
  go_enter Tryd.func8, Tryd.ntmps8
  go_wp2_with fail
  refine (eqNodes _ _ _ _ F.ns _ (by omega) HL2.out (HR.out.1.below (below2 _ _ _) (Nat.le_refl _)) (HR.out.2.2.1.below (below2 _ _ _) (Nat.le_refl _))).mono ?_
  rintro e w1 ⟨rfl, hb1⟩
  have hX : Var w1 w.heap.size #[.slice a F.ns.length ca, .slice b F.ds.length cb] 26 := ((Var.made w _ _).alloc _).new hb1
  have hY : Var w1 (w.heap.size + 1) #[.slice a' F.ns.length ca', .slice b' F.ds.length cb'] 26 := (Var.made2 w _ _ _).new hb1
  have hb01 : Below w.heap.size w w1 := (below2 w _ _).trans (hb1.mono (by simp; omega))
  have hx1 := hX.cell 1
  have hy1 := hY.cell 1
  clear hX hY hb1
  simp at hx1 hy1
  go_wp2_with fail
  refine (eqS _ _ _ _ F.ds _ (by omega) (HR.out.2.1.below hb01 (Nat.le_refl _)) (HR.out.2.2.2.below hb01 (Nat.le_refl _))).mono ?_
  rintro e w2 ⟨rfl, hb2⟩
  go_wp2
  go_ret
  exact ⟨rfl, hb01.trans (hb2.mono hb01.size)⟩
end Go.Proofs.YtaabcfgjmankgaaDoor

/-
  Own text: the laws' marks on branches, and whether they are still there.
-/
namespace Go.Proofs.YtaabcfgjmankgaaDoor
open Go.RowKit

/-- A node, all of it marked from k on. -/
def mkU (k : Nat) (n : NodeD) : NodeD := ⟨(k : Nat), ((k + 1 : Nat) : Int), ((k + 2 : Nat) : Int), ((k + 3 : Nat) : Int), marksI (k + 4) n.b.length⟩
def cntU (l : List NodeD) : Nat := (l.map fun n => 4 + n.b.length).sum
def mkNs : Nat → List NodeD → List NodeD
  | _, [] => []
  | k, n :: l => mkU k n :: mkNs (k + (4 + n.b.length)) l
def mkL (k : Nat) (M : List NodeU) : List NodeU := (mkNs k (M.map (·.1))).zip (M.map (·.2))
theorem mkNs_len : ∀ (k : Nat) (l : List NodeD), (mkNs k l).length = l.length
  | _, [] => rfl
  | k, n :: l => by simp [mkNs, mkNs_len]
theorem cntU_cons (n : NodeD) (l : List NodeD) : cntU (n :: l) = 4 + n.b.length + cntU l := by simp [cntU]
theorem cntU_app (l m : List NodeD) : cntU (l ++ m) = cntU l + cntU m := by simp [cntU]
theorem mkNs_app : ∀ (k : Nat) (l m : List NodeD), mkNs k (l ++ m) = mkNs k l ++ mkNs (k + cntU l) m
  | k, [], m => by simp [mkNs, cntU]
  | k, n :: l, m => by
    rw [List.cons_append, mkNs, mkNs, mkNs_app _ l m, cntU_cons, List.cons_append, show k + (4 + n.b.length) + cntU l = k + (4 + n.b.length + cntU l) by omega]
theorem mkL_app (k : Nat) (A B : List NodeU) : mkL k (A ++ B) = mkL k A ++ mkL (k + cntU (A.map (·.1))) B := by
  unfold mkL
  rw [List.map_append, List.map_append, mkNs_app, List.zip_append (by rw [mkNs_len]; simp)]
theorem mkL_one (k : Nat) (x : NodeU) : mkL k [x] = [(mkU k x.1, x.2)] := rfl
theorem mkL_len (k : Nat) (M : List NodeU) : (mkL k M).length = M.length := by unfold mkL; simp [mkNs_len]
theorem mkL_fst (k : Nat) (M : List NodeU) : (mkL k M).map (·.1) = mkNs k (M.map (·.1)) := by
  unfold mkL
  rw [← List.unzip_fst, List.unzip_zip (by rw [mkNs_len]; simp)]
theorem mkL_snd (k : Nat) (M : List NodeU) : (mkL k M).map (·.2) = M.map (·.2) := by
  unfold mkL
  rw [← List.unzip_snd, List.unzip_zip (by rw [mkNs_len]; simp)]
theorem cntU_le (l : List NodeD) : cntU l ≤ 4 * szN l := by
  induction l with
  | nil => simp [cntU]
  | cons n l ih => rw [cntU_cons]; simp only [szN, List.map_cons, List.sum_cons] at ih ⊢; omega
/-- Those ahead of j are marked. -/
def mkTo (k : Nat) (M : List NodeU) (j : Nat) : List NodeU := mkL k (M.take j) ++ M.drop j
theorem mkTo_len (k : Nat) (M : List NodeU) {j : Nat} (h : j ≤ M.length) : (mkTo k M j).length = M.length := by unfold mkTo; simp [mkL_len]; omega
theorem mkTo_at (k : Nat) (M : List NodeU) {j : Nat} (h : j < M.length) : (mkTo k M j)[j]? = some M[j] := by
  unfold mkTo
  rw [List.getElem?_append_right (by rw [mkL_len]; simp; omega), mkL_len, List.length_take, Nat.min_eq_left (by omega), Nat.sub_self]
  simp [h]
theorem mkTo_next (k : Nat) (M : List NodeU) {j : Nat} (h : j < M.length) : (mkTo k M j).set j (mkU (k + cntU ((M.take j).map (·.1))) M[j].1, M[j].2) = mkTo k M (j + 1) := by
  unfold mkTo
  rw [List.set_append_right _ _ (by rw [mkL_len]; simp; omega), mkL_len, List.length_take, Nat.min_eq_left (by omega), Nat.sub_self]
  rw [List.take_succ_eq_append_getElem h, mkL_app, mkL_one, List.append_assoc, List.drop_eq_getElem_cons h, List.set_cons_zero]
  rfl
theorem mkTo_zero (k : Nat) (M : List NodeU) : mkTo k M 0 = M := by simp [mkTo, mkL, mkNs]
theorem mkTo_all (k : Nat) (M : List NodeU) : mkTo k M M.length = mkL k M := by simp [mkTo]

theorem apart_map {M M' : List NodeU} (hp : M'.map (·.2) = M.map (·.2)) (h : M.Pairwise fun x y => ∀ j, blk x.2 j → ¬ blk y.2 j) : M'.Pairwise fun x y => ∀ j, blk x.2 j → ¬ blk y.2 j := by
  have h1 : (M.map (·.2)).Pairwise fun x y => ∀ j, blk x j → ¬ blk y j := List.pairwise_map.2 h
  rw [← hp] at h1
  exact List.pairwise_map.1 h1
/-- One cell of one node of a row is stored anew; its blocks stay. -/
theorem OwnL.set {w : World} {lo hi : Nat} {g c : Nat} {M : List NodeU} (h : OwnL w lo hi (.slice (some ⟨g, 0, none⟩) M.length c) M) {i : Nat} (hi' : i < M.length) (j : Nat) (hj : j < 4) (y : NodeD) (u : Value) (hb : y.b = M[i].1.b) (he : encU (y, M[i].2) = (encU M[i]).set j u) :
    OwnL (w.setCell ⟨g, i * 5 + j, none⟩ u) lo hi (.slice (some ⟨g, 0, none⟩) M.length c) (M.set i (y, M[i].2)) := by
  have hst := (h.row.stored (i * 5 + j) u).1
  rw [flat_set encU_len M i hi' j (y, M[i].2) u (by omega) he] at hst
  have hO : Only (fun k => k = g) w (w.setCell ⟨g, i * 5 + j, none⟩ u) := Only.setCell (S := fun k => k = g) (Only.refl _ _) (p := ⟨g, i * 5 + j, none⟩) rfl u
  have hx : ∀ x ∈ M, ∀ k, blk x.2 k → ¬ k = g := fun x hx k hk e => own_apart (h.inn x hx) h.row (by decide) k hk (by rw [e]; rfl)
  have hmem : ∀ x ∈ M.set i (y, M[i].2), ∃ z ∈ M, z.2 = x.2 ∧ z.1.b = x.1.b := by
    intro x hx
    rcases List.mem_or_eq_of_mem_set hx with hx | rfl
    · exact ⟨x, hx, rfl, rfl⟩
    · exact ⟨M[i], List.getElem_mem hi', rfl, hb.symm⟩
  refine ⟨by rw [List.length_set]; exact hst, ?_, ?_, h.top, ?_⟩
  · intro x hx'
    obtain ⟨z, hz, e1, e2⟩ := hmem x hx'
    rw [← e1, ← e2]
    exact own_only (h.inn z hz) hO (fun k hk => hx z hz k hk)
  · have hp : (M.set i (y, M[i].2)).map (·.2) = M.map (·.2) := by
      apply List.ext_getElem
      · simp
      · intro q h1 h2
        simp only [List.getElem_map, List.getElem_set]
        split
        · subst_vars; rfl
        · rfl
    exact apart_map hp h.apart
  · intro x hx' k hk
    obtain ⟨z, hz, e1, _⟩ := hmem x hx'
    exact h.low z hz k (by rw [e1]; exact hk)
/-- The blocks of one node are written anew. -/
theorem OwnL.inner {w w' : World} {lo hi : Nat} {v : Value} {M : List NodeU} (h : OwnL w lo hi v M) {i : Nat} (hi' : i < M.length) (y : NodeD) (hy : encU (y, M[i].2) = encU M[i])
    (hn : w'.ownsRow lo 3 1 M[i].2 y.b.length (y.b.map (Value.int .i64))) (hg : w.grownBy w' M[i].2.ownBlock) : OwnL w' lo hi v (M.set i (y, M[i].2)) := by
  have hO := Only.of_grown hg
  have hflat : (M.set i (y, M[i].2)).flatMap encU = M.flatMap encU := by
    have := flat_set encU_len M i hi' 4 (y, M[i].2) M[i].2 (by omega) (by rw [hy]; rfl)
    rw [← this]
    apply List.ext_getElem?
    intro q
    by_cases e : i * 5 + 4 = q
    · subst e
      rw [List.getElem?_set_self (by rw [flat_len_c encU_len]; omega), (uCells hi').2.2.2.2]
    · rw [List.getElem?_set_ne e]
  refine ⟨?_, ?_, ?_, h.top, ?_⟩
  · rw [hflat, List.length_set]
    exact own_only h.row hO (fun k hk e => own_apart h.row (h.inn _ (List.getElem_mem hi')) (by decide) k hk e)
  · intro x hx
    obtain ⟨q, hq, rfl⟩ := List.getElem_of_mem hx
    have hq' : q < M.length := by simpa using hq
    by_cases e : i = q
    · subst e
      rw [List.getElem_set_self]
      exact hn
    · rw [List.getElem_set_ne e]
      refine own_only (h.inn _ (List.getElem_mem hq')) hO (fun k hk e2 => ?_)
      have hp := List.pairwise_iff_getElem.1 h.apart
      rcases Nat.lt_or_gt_of_ne e with h1 | h1
      · exact hp i q hi' hq' h1 k e2 hk
      · exact hp q i hq' hi' h1 k hk e2
  · have hp : (M.set i (y, M[i].2)).map (·.2) = M.map (·.2) := by
      apply List.ext_getElem
      · simp
      · intro q h1 h2
        simp only [List.getElem_map, List.getElem_set]
        split
        · subst_vars; rfl
        · rfl
    exact apart_map hp h.apart
  · intro x hx k hk
    rcases List.mem_or_eq_of_mem_set hx with hx | rfl
    · exact h.low x hx k hk
    · exact h.low _ (List.getElem_mem hi') k hk
end Go.Proofs.YtaabcfgjmankgaaDoor

/-
  Own text: a branch of the call's own, whatever there is by now; a copy.
-/
namespace Go.Proofs.YtaabcfgjmankgaaDoor
open Go.RowKit

def OwnF (w : World) (lo : Nat) (v : Value) (F : FsD) : Prop := OwnFs w lo w.heap.size v F
theorem OwnF.rd {w : World} {lo : Nat} {v : Value} {F : FsD} (h : OwnF w lo v F) : RdFs w v F := OwnFs.rd h
theorem OwnF.lay {w : World} {lo : Nat} {v : Value} {F : FsD} (h : OwnF w lo v F) : ∃ a ca b cb, v = .agg #[.slice a F.ns.length ca, .slice b F.ds.length cb] := OwnFs.lay h
theorem OwnF.below {w w' : World} {lo : Nat} {v : Value} {F : FsD} (h : OwnF w lo v F) (hb : Below w.heap.size w w') : OwnF w' lo v F := (OwnFs.below h hb).hi hb.size
theorem OwnF.base {w : World} {lo lo' : Nat} {v : Value} {F : FsD} (h : OwnF w lo v F) (hl : lo' ≤ lo) : OwnF w lo' v F := OwnFs.base h hl
end Go.Proofs.YtaabcfgjmankgaaDoor

/-
  Own text: the laws' marks on branches: laid, and whether they are still there.
-/
namespace Go.Proofs.YtaabcfgjmankgaaDoor
open Go.RowKit

theorem mkL_at (k : Nat) (M : List NodeU) {j : Nat} (h : j < M.length) : (mkL k M)[j]? = some (mkU (k + cntU ((M.take j).map (·.1))) M[j].1, M[j].2) := by
  have e : M = M.take j ++ ([M[j]] ++ M.drop (j + 1)) := by
    rw [List.singleton_append, ← List.drop_eq_getElem_cons h, List.take_append_drop]
  have h2 : mkL k M = mkL k (M.take j) ++ (mkL (k + cntU ((M.take j).map (·.1))) [M[j]] ++ mkL (k + cntU ((M.take j).map (·.1)) + cntU ([M[j]].map (·.1))) (M.drop (j + 1))) := by
    conv => lhs; rw [e]
    rw [mkL_app, mkL_app]
  rw [h2, List.getElem?_append_right (by rw [mkL_len]; simp; omega), mkL_len, List.length_take, Nat.min_eq_left (by omega), Nat.sub_self, mkL_one]
  rfl
theorem cntU_take {M : List NodeU} {j : Nat} (h : j < M.length) : cntU ((M.take (j + 1)).map (·.1)) = cntU ((M.take j).map (·.1)) + (4 + M[j].1.b.length) := by
  rw [List.take_succ_eq_append_getElem h, List.map_append, cntU_app]
  simp [cntU]
theorem cntU_le_take (M : List NodeU) (j : Nat) : cntU ((M.take j).map (·.1)) ≤ cntU (M.map (·.1)) := by
  have h : M.map (·.1) = (M.take j).map (·.1) ++ (M.drop j).map (·.1) := by rw [← List.map_append, List.take_append_drop]
  rw [h, cntU_app]; omega
theorem cntU_len (l : List NodeD) : l.length ≤ cntU l := by
  induction l with
  | nil => simp [cntU]
  | cons n l ih => rw [cntU_cons]; simp only [List.length_cons]; omega
/-- The blocks of a row of nodes, those of their blocks' rows too. -/
def blkL (v : Value) (M : List NodeU) (j : Nat) : Prop := blk v j ∨ ∃ x ∈ M, blk x.2 j
theorem OwnL.blkL_in {w : World} {lo hi : Nat} {v : Value} {M : List NodeU} (h : OwnL w lo hi v M) {j : Nat} (hj : blkL v M j) : lo ≤ j ∧ j < hi := by
  rcases hj with hj | ⟨x, hx, hj⟩
  · exact ⟨(h.row.lt j hj).1, h.top j hj⟩
  · exact ⟨((h.inn x hx).lt j hj).1, h.low x hx j hj⟩
theorem OwnL.apart_txt {w : World} {lo hi lo' : Nat} {v u : Value} {M : List NodeU} {n : Nat} {xs : List Value} (h : OwnL w lo hi v M) (ho : w.ownsRow lo' 9 1 u n xs) : ∀ j, blk u j → ¬ blkL v M j := by
  rintro j hj (h1 | ⟨x, hx, h1⟩)
  · exact own_apart ho h.row (by decide) j hj h1
  · exact own_apart ho (h.inn x hx) (by decide) j hj h1
/-- Four cells of one node of a row are stored anew. -/
theorem OwnL.four {w : World} {lo hi : Nat} {g c : Nat} {M : List NodeU} (h : OwnL w lo hi (.slice (some ⟨g, 0, none⟩) M.length c) M) {i : Nat} (hi' : i < M.length) (x0 x1 x2 x3 : Int) :
    OwnL ((((w.setCell ⟨g, i * 5, none⟩ (.int .i64 x0)).setCell ⟨g, i * 5 + 1, none⟩ (.int .i64 x1)).setCell ⟨g, i * 5 + 2, none⟩ (.int .i64 x2)).setCell ⟨g, i * 5 + 3, none⟩ (.int .i64 x3)) lo hi (.slice (some ⟨g, 0, none⟩) M.length c) (M.set i (⟨x0, x1, x2, x3, M[i].1.b⟩, M[i].2)) := by
  have a0 := h.set hi' 0 (by omega) ⟨x0, M[i].1.g, M[i].1.t, M[i].1.s, M[i].1.b⟩ (.int .i64 x0) rfl rfl
  rw [Nat.add_zero] at a0
  have l0 : i < (M.set i ((⟨x0, M[i].1.g, M[i].1.t, M[i].1.s, M[i].1.b⟩ : NodeD), M[i].2)).length := by simpa using hi'
  have e0 : (M.set i ((⟨x0, M[i].1.g, M[i].1.t, M[i].1.s, M[i].1.b⟩ : NodeD), M[i].2))[i] = ((⟨x0, M[i].1.g, M[i].1.t, M[i].1.s, M[i].1.b⟩ : NodeD), M[i].2) := List.getElem_set_self _
  rw [show M.length = (M.set i ((⟨x0, M[i].1.g, M[i].1.t, M[i].1.s, M[i].1.b⟩ : NodeD), M[i].2)).length by simp] at a0
  have a1 := a0.set l0 1 (by omega) ⟨x0, x1, M[i].1.t, M[i].1.s, M[i].1.b⟩ (.int .i64 x1) (by rw [e0]) (by rw [e0]; rfl)
  rw [e0, List.set_set] at a1
  have l1 : i < (M.set i ((⟨x0, x1, M[i].1.t, M[i].1.s, M[i].1.b⟩ : NodeD), M[i].2)).length := by simpa using hi'
  have e1 : (M.set i ((⟨x0, x1, M[i].1.t, M[i].1.s, M[i].1.b⟩ : NodeD), M[i].2))[i] = ((⟨x0, x1, M[i].1.t, M[i].1.s, M[i].1.b⟩ : NodeD), M[i].2) := List.getElem_set_self _
  rw [show (M.set i ((⟨x0, M[i].1.g, M[i].1.t, M[i].1.s, M[i].1.b⟩ : NodeD), M[i].2)).length = (M.set i ((⟨x0, x1, M[i].1.t, M[i].1.s, M[i].1.b⟩ : NodeD), M[i].2)).length by simp] at a1
  have a2 := a1.set l1 2 (by omega) ⟨x0, x1, x2, M[i].1.s, M[i].1.b⟩ (.int .i64 x2) (by rw [e1]) (by rw [e1]; rfl)
  rw [e1, List.set_set] at a2
  have l2 : i < (M.set i ((⟨x0, x1, x2, M[i].1.s, M[i].1.b⟩ : NodeD), M[i].2)).length := by simpa using hi'
  have e2 : (M.set i ((⟨x0, x1, x2, M[i].1.s, M[i].1.b⟩ : NodeD), M[i].2))[i] = ((⟨x0, x1, x2, M[i].1.s, M[i].1.b⟩ : NodeD), M[i].2) := List.getElem_set_self _
  rw [show (M.set i ((⟨x0, x1, M[i].1.t, M[i].1.s, M[i].1.b⟩ : NodeD), M[i].2)).length = (M.set i ((⟨x0, x1, x2, M[i].1.s, M[i].1.b⟩ : NodeD), M[i].2)).length by simp] at a2
  have a3 := a2.set l2 3 (by omega) ⟨x0, x1, x2, x3, M[i].1.b⟩ (.int .i64 x3) (by rw [e2]) (by rw [e2]; rfl)
  rw [e2, List.set_set] at a3
  rw [show (M.set i ((⟨x0, x1, x2, M[i].1.s, M[i].1.b⟩ : NodeD), M[i].2)).length = M.length by simp] at a3
  exact a3
theorem OwnL.only_in {w w' : World} {lo hi : Nat} {v : Value} {M : List NodeU} {S : Nat → Prop} (_ : OwnL w lo hi v M) (ho : Only S w w') (hs : ∀ k, S k → lo ≤ k ∧ k < hi) : Only (fun k => lo ≤ k ∧ k < hi) w w' := ho.mono fun k _ h => hs k h

set_option maxRecDepth 20000 in
set_option maxHeartbeats 4000000 in
theorem markNodes (v : Value) (lo hi k : Nat) (M : List NodeU) (w : World) (hn : cntU (M.map (·.1)) ≤ 1073741824) (hk : k ≤ 1073741824) (ho : OwnL w lo hi v M) :
    Calls Tryd.prog 24 #[v, .int .i64 k] w fun e w' => e = .returned (.int .i64 ((k + cntU (M.map (·.1)) : Nat) : Int)) ∧ OwnL w' lo hi v (mkL k M) ∧ Only (blkL v M) w w' := by
  rcases ho.row.2 with ⟨rfl, h0⟩ | ⟨g, cap, cur, rfl, hbg, hrest⟩
  · obtain rfl : M = [] := List.eq_nil_of_length_eq_zero h0
    have HO : Hid (OwnL w lo hi (.slice none 0 0) (mkL k [])) := ho
    go_enter Tryd.func24, Tryd.ntmps24
    go_wp2
    go_loop [1, 5] (fun x i => x = .int .i64 k ∧ i = .int .i64 0) (fun _ _ => 0)
    case atStart => exact ⟨rfl, rfl⟩
    case round =>
      obtain ⟨rfl, rfl⟩ := hrel
      go_wp2
      go_ret
      exact ⟨by simp [cntU], HO.out, Only.refl _ _⟩
  · clear hrest
    have HC : Hid (∀ j, cntU ((M.take j).map (·.1)) ≤ cntU (M.map (·.1))) := fun j => cntU_le_take M j
    have hgi : blkL (.slice (some ⟨g, 0, none⟩) M.length cap) M g := .inl rfl
    have HO0 : Hid (OwnL w lo hi (.slice (some ⟨g, 0, none⟩) M.length cap) (mkTo k M 0)) := by show OwnL _ _ _ _ _; rw [mkTo_zero]; exact ho
    have hml : M.length ≤ cntU (M.map (·.1)) := by have := cntU_len (M.map (·.1)); simpa using this
    clear ho
    go_enter Tryd.func24, Tryd.ntmps24
    go_wp2
    go_loopw [1, 5] (fun x i wr => ∃ j c t : Nat, j ≤ M.length ∧ Hid (cntU ((M.take j).map (·.1)) = c) ∧ Hid (k + c = t) ∧ x = .int .i64 (t : Nat) ∧ i = .int .i64 (j : Nat) ∧ Hid (OwnL wr lo hi (.slice (some ⟨g, 0, none⟩) M.length cap) (mkTo k M j)) ∧ Hid (Only (blkL (.slice (some ⟨g, 0, none⟩) M.length cap) M) w wr)) (fun _ i _ => M.length - (intOf i).toNat)
    case atStart => exact ⟨0, 0, k, Nat.zero_le _, rfl, rfl, rfl, rfl, HO0, Only.refl _ _⟩
    case round =>
      clear HO0
      obtain ⟨j, c, t, hj, HCJ, HT, rfl, rfl, HO, HON⟩ := hrel
      have hcl : c ≤ cntU (M.map (·.1)) := by rw [← HCJ.out]; exact HC.out j
      by_cases hlt : j < M.length
      · have hlen := mkTo_len k M hj
        have hat := mkTo_at k M hlt
        have hjl : j < (mkTo k M j).length := by omega
        have hget : (mkTo k M j)[j] = M[j] := by rw [List.getElem?_eq_getElem hjl] at hat; injection hat
        have hOw := HO.out
        rw [← hlen] at hOw
        have hcs := uCells hjl
        rw [hget] at hcs
        obtain ⟨e0, e1, e2, e3, e4⟩ := hcs
        have x0 := (hOw.row.cellAt (j * 5) (by omega)).trans e0
        have x1 := (hOw.row.cellAt (j * 5 + 1) (by omega)).trans e1
        have x2 := (hOw.row.cellAt (j * 5 + 2) (by omega)).trans e2
        have x3 := (hOw.row.cellAt (j * 5 + 3) (by omega)).trans e3
        have x4 := (hOw.row.cellAt (j * 5 + 4) (by omega)).trans e4
        have f0 := hOw.row.frozenAt (j * 5)
        have f1 := hOw.row.frozenAt (j * 5 + 1)
        have f2 := hOw.row.frozenAt (j * 5 + 2)
        have f3 := hOw.row.frozenAt (j * 5 + 3)
        have HO4 := hOw.four hjl
        have HN4 : Hid (∀ a0 a1 a2 a3 : Value, Only (blkL (.slice (some ⟨g, 0, none⟩) M.length cap) M) w ((((wr.setCell ⟨g, j * 5, none⟩ a0).setCell ⟨g, j * 5 + 1, none⟩ a1).setCell ⟨g, j * 5 + 2, none⟩ a2).setCell ⟨g, j * 5 + 3, none⟩ a3)) := fun _ _ _ _ => (((HON.out.setCell (p := ⟨g, j * 5, none⟩) hgi _).setCell (p := ⟨g, j * 5 + 1, none⟩) hgi _).setCell (p := ⟨g, j * 5 + 2, none⟩) hgi _).setCell (p := ⟨g, j * 5 + 3, none⟩) hgi _
        rw [hget] at HO4
        have HO5 : Hid (∀ y0 y1 y2 y3 : Int, OwnL ((((wr.setCell ⟨g, j * 5, none⟩ (.int .i64 y0)).setCell ⟨g, j * 5 + 1, none⟩ (.int .i64 y1)).setCell ⟨g, j * 5 + 2, none⟩ (.int .i64 y2)).setCell ⟨g, j * 5 + 3, none⟩ (.int .i64 y3)) lo hi (.slice (some ⟨g, 0, none⟩) (mkTo k M j).length cap) ((mkTo k M j).set j (⟨y0, y1, y2, y3, M[j].1.b⟩, M[j].2))) := HO4
        have HNX : Hid ((mkTo k M j).set j (mkU t M[j].1, M[j].2) = mkTo k M (j + 1)) := by have := mkTo_next k M hlt; rw [HCJ.out, HT.out] at this; exact this
        have HCN : Hid (cntU ((M.take (j + 1)).map (·.1)) = c + (4 + M[j].1.b.length)) := by show _ = _; rw [cntU_take hlt, HCJ.out]
        have hcl2 : c + (4 + M[j].1.b.length) ≤ cntU (M.map (·.1)) := by rw [← HCN.out]; exact HC.out (j + 1)
        have HMB : Hid (∀ q, blk M[j].2 q → blkL (.slice (some ⟨g, 0, none⟩) M.length cap) M q) := fun q hq => .inr ⟨_, List.getElem_mem hlt, hq⟩
        obtain ⟨ua, uc, hu2, _⟩ : ∃ ua uc, M[j].2 = .slice ua M[j].1.b.length uc ∧ True := by
          obtain ⟨ua, uc, h1, _⟩ := RdU.own (hOw.inn (M[j]) (by rw [← hget]; exact List.getElem_mem hjl))
          exact ⟨ua, uc, h1, trivial⟩
        have hti : t ≤ 2147483648 := by rw [← HT.out]; omega
        clear e0 e1 e2 e3 e4 HO hOw hat HO4 hget HON
        generalize M[j] = y at *
        obtain ⟨⟨yk, yg, yt, ys, yb⟩, yu⟩ := y
        simp only at hu2 hcl2
        subst hu2
        simp only at x0 x1 x2 x3 x4
        have hO5 := HO5.out (t : Int) ((t : Int) + 1) ((t : Int) + 1 + 1) ((t : Int) + 1 + 1 + 1)
        have hN5 := HN4.out (.int .i64 (t : Int)) (.int .i64 ((t : Int) + 1)) (.int .i64 ((t : Int) + 1 + 1)) (.int .i64 ((t : Int) + 1 + 1 + 1))
        have hset := HNX.out
        have ek : mkU t ⟨yk, yg, yt, ys, yb⟩ = ⟨(t : Int), (t : Int) + 1, (t : Int) + 1 + 1, (t : Int) + 1 + 1 + 1, marksI (t + 4) yb.length⟩ := by
          unfold mkU
          apply NodeD.ext'
          · rfl
          · show ((t + 1 : Nat) : Int) = (t : Int) + 1; omega
          · show ((t + 2 : Nat) : Int) = (t : Int) + 1 + 1; omega
          · show ((t + 3 : Nat) : Int) = (t : Int) + 1 + 1 + 1; omega
          · rfl
        simp only at hO5 hset
        rw [ek] at hset
        have HSET : Hid ((mkTo k M j).set j ((⟨(t : Int), (t : Int) + 1, (t : Int) + 1 + 1, (t : Int) + 1 + 1 + 1, marksI (t + 4) yb.length⟩ : NodeD), .slice ua yb.length uc) = mkTo k M (j + 1)) := hset
        have HCN2 : Hid (cntU ((M.take (j + 1)).map (·.1)) = c + (4 + yb.length)) := HCN.out
        have HO6 : Hid (OwnL ((((wr.setCell ⟨g, j * 5, none⟩ (.int .i64 (t : Int))).setCell ⟨g, j * 5 + 1, none⟩ (.int .i64 ((t : Int) + 1))).setCell ⟨g, j * 5 + 2, none⟩ (.int .i64 ((t : Int) + 1 + 1))).setCell ⟨g, j * 5 + 3, none⟩ (.int .i64 ((t : Int) + 1 + 1 + 1))) lo hi (.slice (some ⟨g, 0, none⟩) (mkTo k M j).length cap) ((mkTo k M j).set j ((⟨(t : Int), (t : Int) + 1, (t : Int) + 1 + 1, (t : Int) + 1 + 1 + 1, yb⟩ : NodeD), .slice ua yb.length uc))) := hO5
        have HN6 : Hid (Only (blkL (.slice (some ⟨g, 0, none⟩) M.length cap) M) w ((((wr.setCell ⟨g, j * 5, none⟩ (.int .i64 (t : Int))).setCell ⟨g, j * 5 + 1, none⟩ (.int .i64 ((t : Int) + 1))).setCell ⟨g, j * 5 + 2, none⟩ (.int .i64 ((t : Int) + 1 + 1))).setCell ⟨g, j * 5 + 3, none⟩ (.int .i64 ((t : Int) + 1 + 1 + 1)))) := hN5
        clear hO5 hN5 hset ek HO5 HN4 HNX HCN
        go_wp2_with fail
        clear x0 x1 x2 x3 x4 f0 f1 f2 f3
        generalize (((wr.setCell ⟨g, j * 5, none⟩ (.int .i64 (t : Int))).setCell ⟨g, j * 5 + 1, none⟩ (.int .i64 ((t : Int) + 1))).setCell ⟨g, j * 5 + 2, none⟩ (.int .i64 ((t : Int) + 1 + 1))).setCell ⟨g, j * 5 + 3, none⟩ (.int .i64 ((t : Int) + 1 + 1 + 1)) = W4 at *
        have hjs : j < ((mkTo k M j).set j ((⟨(t : Int), (t : Int) + 1, (t : Int) + 1 + 1, (t : Int) + 1 + 1 + 1, yb⟩ : NodeD), Value.slice ua yb.length uc)).length := by simpa using hjl
        have hgs : ((mkTo k M j).set j ((⟨(t : Int), (t : Int) + 1, (t : Int) + 1 + 1, (t : Int) + 1 + 1 + 1, yb⟩ : NodeD), Value.slice ua yb.length uc))[j] = ((⟨(t : Int), (t : Int) + 1, (t : Int) + 1 + 1, (t : Int) + 1 + 1 + 1, yb⟩ : NodeD), Value.slice ua yb.length uc) := List.getElem_set_self _
        have hin := HO6.out.inn _ (List.getElem_mem hjs)
        rw [hgs] at hin
        have HMI := markI (.slice ua yb.length uc) yb.length (t + 4) lo yb W4 (by omega) (by omega) hin
        rw [show (((t + 4 : Nat)) : Int) = (t : Int) + 1 + 1 + 1 + 1 by omega] at HMI
        have HMI2 : Hid (Calls Tryd.prog 48 #[.slice ua yb.length uc, .int .i64 ((t : Int) + 1 + 1 + 1 + 1)] W4 fun e w' => e = .returned (.int .i64 ((t + 4 + yb.length : Nat) : Int)) ∧ w'.ownsRow lo 3 1 (.slice ua yb.length uc) yb.length ((marksI (t + 4) yb.length).map (Value.int .i64)) ∧ W4.grownBy w' (Value.slice ua yb.length uc).ownBlock) := HMI
        have HLOW : Hid (∀ q, blk (.slice ua yb.length uc) q → blkL (.slice (some ⟨g, 0, none⟩) M.length cap) M q) := HMB.out
        have HIN : Hid (∀ W', W'.ownsRow lo 3 1 (.slice ua yb.length uc) yb.length ((marksI (t + 4) yb.length).map (Value.int .i64)) → W4.grownBy W' (Value.slice ua yb.length uc).ownBlock → OwnL W' lo hi (.slice (some ⟨g, 0, none⟩) M.length cap) (mkTo k M (j + 1))) := by
          intro W' h1 h2
          have := HO6.out.inner hjs (⟨(t : Int), (t : Int) + 1, (t : Int) + 1 + 1, (t : Int) + 1 + 1 + 1, marksI (t + 4) yb.length⟩ : NodeD) (by rw [hgs]; rfl) (by rw [hgs]; show World.ownsRow _ _ _ _ _ (marksI _ _).length _; rw [marksI_len]; exact h1) (by rw [hgs]; exact h2)
          rw [hgs, List.set_set, HSET.out, hlen] at this
          exact this
        clear HMI hin hgs hjs
        refine HMI2.out.mono ?_
        rintro e w5 ⟨rfl, ho5, hg5⟩
        have HO7 : Hid (OwnL w5 lo hi (.slice (some ⟨g, 0, none⟩) M.length cap) (mkTo k M (j + 1))) := HIN.out w5 ho5 hg5
        have HN7 : Hid (Only (blkL (.slice (some ⟨g, 0, none⟩) M.length cap) M) w w5) := HN6.out.trans ((Only.of_grown hg5).mono fun q _ hq => HLOW.out q hq)
        have HT7 : Hid (k + (c + (4 + yb.length)) = t + 4 + yb.length) := by have := HT.out; show _ = _; omega
        clear HMI2 HIN HLOW ho5 hg5 HO6 HN6 HSET hjl hlen
        go_wp2
        go_roundw
        case rel => exact ⟨j + 1, c + (4 + yb.length), t + 4 + yb.length, by omega, HCN2, HT7, rfl, by go_num, HO7, HN7⟩
        case measure => simp [intOf]; omega
      · obtain rfl : j = M.length := by omega
        have HOE : Hid (OwnL wr lo hi (.slice (some ⟨g, 0, none⟩) M.length cap) (mkL k M)) := by have := HO.out; rwa [mkTo_all] at this
        have HTE : Hid (k + cntU (M.map (·.1)) = t) := by have h1 := HCJ.out; rw [List.take_length] at h1; have h2 := HT.out; show _ = _; rw [h1]; exact h2
        go_wp2
        go_ret
        exact ⟨by rw [HTE.out]; rfl, HOE.out, HON.out⟩

set_option maxRecDepth 20000 in
set_option maxHeartbeats 4000000 in
theorem heldNodes (v : Value) (lo hi k : Nat) (M : List NodeU) (w : World) (hn : cntU (M.map (·.1)) ≤ 1073741824) (hk : k ≤ 1073741824) (ho : OwnL w lo hi v (mkL k M)) :
    Calls Tryd.prog 25 #[v, .int .i64 k] w fun e w' => e = .returned (.int .i64 ((k + cntU (M.map (·.1)) : Nat) : Int)) ∧ w' = w := by
  have hml := mkL_len k M
  rcases ho.row.2 with ⟨rfl, h0⟩ | ⟨g, cap, cur, rfl, hbg, hrest⟩
  · obtain rfl : M = [] := List.eq_nil_of_length_eq_zero (by omega)
    go_enter Tryd.func25, Tryd.ntmps25
    go_wp2
    go_loop [1, 5] (fun x i => x = .int .i64 k ∧ i = .int .i64 0) (fun _ _ => 0)
    case atStart => exact ⟨rfl, rfl⟩
    case round =>
      obtain ⟨rfl, rfl⟩ := hrel
      go_wp2
      go_ret
      exact ⟨by simp [cntU], rfl⟩
  · clear hrest
    have HC : Hid (∀ j, cntU ((M.take j).map (·.1)) ≤ cntU (M.map (·.1))) := fun j => cntU_le_take M j
    have HO : Hid (OwnL w lo hi (.slice (some ⟨g, 0, none⟩) (mkL k M).length cap) (mkL k M)) := ho
    have hmc : M.length ≤ cntU (M.map (·.1)) := by have := cntU_len (M.map (·.1)); simpa using this
    clear ho
    rw [hml]
    go_enter Tryd.func25, Tryd.ntmps25
    go_wp2
    go_loop [1, 5] (fun x i => ∃ j c t : Nat, j ≤ M.length ∧ Hid (cntU ((M.take j).map (·.1)) = c) ∧ Hid (k + c = t) ∧ x = .int .i64 (t : Nat) ∧ i = .int .i64 (j : Nat)) (fun _ i => M.length - (intOf i).toNat)
    case atStart => exact ⟨0, 0, k, Nat.zero_le _, rfl, rfl, rfl, rfl⟩
    case round =>
      obtain ⟨j, c, t, hj, HCJ, HT, rfl, rfl⟩ := hrel
      have hcl : c ≤ cntU (M.map (·.1)) := by rw [← HCJ.out]; exact HC.out j
      by_cases hlt : j < M.length
      · have hjl : j < (mkL k M).length := by omega
        have hat := mkL_at k M hlt
        rw [HCJ.out, HT.out] at hat
        have hget : (mkL k M)[j] = (mkU t M[j].1, M[j].2) := by rw [List.getElem?_eq_getElem hjl] at hat; injection hat
        have hcs := uCells hjl
        rw [hget] at hcs
        obtain ⟨e0, e1, e2, e3, e4⟩ := hcs
        have x0 := (HO.out.row.cellAt (j * 5) (by omega)).trans e0
        have x1 := (HO.out.row.cellAt (j * 5 + 1) (by omega)).trans e1
        have x2 := (HO.out.row.cellAt (j * 5 + 2) (by omega)).trans e2
        have x3 := (HO.out.row.cellAt (j * 5 + 3) (by omega)).trans e3
        have x4 := (HO.out.row.cellAt (j * 5 + 4) (by omega)).trans e4
        have hin := HO.out.inn _ (List.getElem_mem hjl)
        rw [hget] at hin
        have HCN : Hid (cntU ((M.take (j + 1)).map (·.1)) = c + (4 + M[j].1.b.length)) := by show _ = _; rw [cntU_take hlt, HCJ.out]
        have hcl2 : c + (4 + M[j].1.b.length) ≤ cntU (M.map (·.1)) := by rw [← HCN.out]; exact HC.out (j + 1)
        have hti : t ≤ 2147483648 := by rw [← HT.out]; omega
        have HHI := heldI M[j].2 M[j].1.b.length (t + 4) lo w (by omega) (by omega) (by
          have h9 : (mkU t M[j].1).b.length = M[j].1.b.length := marksI_len _ _
          have h8 := hin
          simp only at h8
          rw [h9] at h8
          exact h8)
        rw [show (((t + 4 : Nat)) : Int) = (t : Int) + 1 + 1 + 1 + 1 by omega] at HHI
        have HHI2 : Hid (Calls Tryd.prog 49 #[M[j].2, .int .i64 ((t : Int) + 1 + 1 + 1 + 1)] w fun e w' => e = .returned (.int .i64 ((t + 4 + M[j].1.b.length : Nat) : Int)) ∧ w' = w) := HHI
        have HT7 : Hid (k + (c + (4 + M[j].1.b.length)) = t + 4 + M[j].1.b.length) := by have := HT.out; show _ = _; omega
        simp only [mkU] at x0 x1 x2 x3 x4
        rw [show ((t + 1 : Nat) : Int) = (t : Int) + 1 by omega] at x1
        rw [show ((t + 2 : Nat) : Int) = (t : Int) + 1 + 1 by omega] at x2
        rw [show ((t + 3 : Nat) : Int) = (t : Int) + 1 + 1 + 1 by omega] at x3
        clear e0 e1 e2 e3 e4 hat hget hin HHI
        obtain ⟨m, hm⟩ : ∃ x, M[j].1.b.length = x := ⟨_, rfl⟩
        rw [hm] at HHI2 HT7 HCN hcl2
        clear hm
        generalize M[j].2 = yu at *
        have hnn : ¬ ((t + 4 + m : Nat) : Int) < 0 := by omega
        go_wp2_with fail
        refine HHI2.out.mono ?_
        rintro e w5 ⟨rfl, hw5⟩
        subst w5
        go_wp2
        go_round
        case rel => exact ⟨j + 1, c + (4 + m), t + 4 + m, by omega, HCN, HT7, rfl, by go_num⟩
        case measure => simp [intOf]; omega
      · obtain rfl : j = M.length := by omega
        have HTE : Hid ((k : Int) + ((cntU (M.map (·.1)) : Nat) : Int) = (t : Int)) := by have h1 := HCJ.out; rw [List.take_length] at h1; have h2 := HT.out; show _ = _; rw [h1]; omega
        go_wp2
        go_ret
        exact ⟨by rw [HTE.out]; rfl, rfl⟩

/-- A branch, all of it marked from k on, and how many marks. -/
def mkF (k : Nat) (F : FsD) : FsD := ⟨mkNs k F.ns, marksS (k + cntU F.ns) F.ds.length⟩
def cntF (F : FsD) : Nat := cntU F.ns + F.ds.length

theorem cntF_le {F : FsD} (h : szF F ≤ 1048576) : cntF F ≤ 8388608 := by
  have h1 := cntU_le F.ns
  have h2 := szT_len F.ds
  unfold szF at h
  unfold cntF
  omega
theorem mkF_len (k : Nat) (F : FsD) : (mkF k F).ns.length = F.ns.length ∧ (mkF k F).ds.length = F.ds.length := ⟨mkNs_len _ _, marksS_len _ _⟩

set_option maxRecDepth 20000 in
set_option maxHeartbeats 1000000 in
theorem markFsW (v : Value) (lo hi k : Nat) (F : FsD) (w : World) (hl : szF F ≤ 4194304) (hk : k ≤ 67108864) (hhw : hi ≤ w.heap.size) (ho : OwnFs w lo hi v F) :
    Calls Tryd.prog 11 #[v, .int .i64 k] w fun e w' => e = .returned (.int .i64 ((k + cntF F : Nat) : Int)) ∧ OwnFs w' lo hi v (mkF k F) ∧ Only (fun j => lo ≤ j ∧ j < hi) w w' := by
  obtain ⟨v1, v2, rfl, ⟨M, hM, ho1⟩, ho2, hh2⟩ := ho
  have hcn := cntU_le F.ns
  have hds := szT_len F.ds
  have hz : szF F = szN F.ns + szT F.ds := rfl
  obtain ⟨a, ca, rfl, _, _, _, _⟩ := ho1.rd
  obtain ⟨b, cb, rfl, _, _⟩ := own_rdS ho2
  have HAP : Hid (∀ j, blk (.slice b F.ds.length cb) j → ¬ blkL (.slice a M.length ca) M j) := ho1.apart_txt ho2
  have HH2 : Hid (∀ j, blk (.slice b F.ds.length cb) j → lo ≤ j ∧ j < hi) := fun j hj => ⟨(ho2.lt j hj).1, hh2 j hj⟩
  have HO1 : Hid (OwnL w lo hi (.slice a M.length ca) M) := ho1
  have HO2 : Hid (w.ownsRow lo 9 1 (.slice b F.ds.length cb) F.ds.length (F.ds.map Value.string)) := ho2
  have HCN : Hid (k + cntF F = k + cntU F.ns + F.ds.length) := by show _ = _; unfold cntF; omega
  have HFN : Hid (F.ns = M.map (·.1)) := hM.symm
  have hcu : cntU (M.map (·.1)) ≤ 16777216 := by rw [hM]; omega
  have hdl : F.ds.length ≤ 4194304 := by omega
  have HCM : Hid (cntU F.ns = cntU (M.map (·.1))) := by show _ = _; rw [hM]
  have hVX : Var (w.alloc (.cells #[.slice a M.length ca, .slice b F.ds.length cb] 26)) w.heap.size #[.slice a M.length ca, .slice b F.ds.length cb] 26 := Var.made _ _ _
  clear ho1 ho2 hh2 hM hcn hds hz hl
  go_enter Tryd.func11, Tryd.ntmps11
  go_wp2_with fail
  refine (markNodes _ lo hi k M _ (by omega) (by omega) (HO1.out.below (below1 _ _))).mono ?_
  rintro e w1 ⟨rfl, hm1, hon1⟩
  have hX1 := hVX.only hon1 (fun h => by have := (HO1.out.blkL_in h).2; omega)
  have x1 := hX1.cell 1
  simp at x1
  have hp1 := own_only (ownsRow_below HO2.out (below1 w (.cells #[.slice a M.length ca, .slice b F.ds.length cb] 26)) (Nat.le_refl _)) hon1 (fun j hj => HAP.out j hj)
  have HM1 : Hid (OwnL w1 lo hi (.slice a M.length ca) (mkL k M)) := hm1
  have HP1 : Hid (w1.ownsRow lo 9 1 (.slice b F.ds.length cb) F.ds.length (F.ds.map Value.string)) := hp1
  have hon01 : Only (fun j => lo ≤ j ∧ j < hi) w w1 := (Only.of_new (below1 w _)).trans (hon1.mono fun j _ hj => HO1.out.blkL_in hj)
  clear hm1 hp1 hon1 hX1 hVX
  generalize hcc : cntU (M.map (·.1)) = cc at *
  go_wp2_with fail
  refine (markStrO _ F.ds.length (k + cc) lo F.ds _ (by omega) (by omega) HP1.out).mono ?_
  rintro e w2 ⟨rfl, hm2, hon2⟩
  have HM2 : Hid (w2.ownsRow lo 9 1 (.slice b F.ds.length cb) F.ds.length ((marksS (k + cc) F.ds.length).map Value.string)) := hm2
  have HM3 : Hid (OwnL w2 lo hi (.slice a M.length ca) (mkL k M)) := by
    have h := HM1.out
    exact ⟨own_only h.row hon2 (fun j hj e => h.apart_txt HP1.out j e (.inl hj)), fun x hx => own_only (h.inn x hx) hon2 (fun j hj e => h.apart_txt HP1.out j e (.inr ⟨x, hx, hj⟩)), h.apart, h.top, h.low⟩
  have hon02 : Only (fun j => lo ≤ j ∧ j < hi) w w2 := hon01.trans (hon2.mono fun j _ hj => HH2.out j hj)
  clear hm2 hon2
  go_wp2
  go_ret
  refine ⟨by rw [HCN.out, HCM.out]; rfl, ⟨_, _, rfl, ⟨mkL k M, ?_, ?_⟩, ?_, fun j hj => (HH2.out j hj).2⟩, hon02⟩
  · rw [mkL_fst, ← HFN.out]; rfl
  · exact HM3.out
  · rw [(mkF_len k F).2]
    show World.ownsRow _ _ _ _ _ _ ((marksS (k + cntU F.ns) F.ds.length).map Value.string)
    rw [HCM.out]
    exact HM2.out

theorem unmark {M' : List NodeU} {k : Nat} {l : List NodeD} (h : M'.map (·.1) = mkNs k l) : ∃ M : List NodeU, M.map (·.1) = l ∧ mkL k M = M' := by
  have hlm : M'.length = l.length := by have := congrArg List.length h; simpa [mkNs_len] using this
  have e1 : (l.zip (M'.map (·.2))).map (·.1) = l := List.map_fst_zip (by simp [hlm])
  have e2 : (l.zip (M'.map (·.2))).map (·.2) = M'.map (·.2) := List.map_snd_zip (by simp [hlm])
  refine ⟨l.zip (M'.map (·.2)), e1, ?_⟩
  unfold mkL
  rw [e1, e2, ← h]
  exact (List.zip_of_prod rfl rfl).symm

set_option maxRecDepth 20000 in
set_option maxHeartbeats 1000000 in
theorem heldFsW (v : Value) (lo hi k : Nat) (F : FsD) (w : World) (hl : szF F ≤ 4194304) (hk : k ≤ 67108864) (ho : OwnFs w lo hi v (mkF k F)) :
    Calls Tryd.prog 12 #[v, .int .i64 k] w fun e w' => e = .returned (.int .i64 ((k + cntF F : Nat) : Int)) ∧ Below w.heap.size w w' := by
  obtain ⟨v1, v2, rfl, ⟨M', hM, ho1⟩, ho2, _⟩ := ho
  have hlm : M'.length = F.ns.length := by have := congrArg List.length hM; simpa [mkF, mkNs_len] using this
  obtain ⟨M, hMf, hMM⟩ := unmark (M' := M') (k := k) (l := F.ns) hM
  subst hMM
  have hcn := cntU_le F.ns
  have hds := szT_len F.ds
  have hz : szF F = szN F.ns + szT F.ds := rfl
  obtain ⟨a, ca, rfl, _, _, _, _⟩ := ho1.rd
  rw [(mkF_len k F).2] at ho2
  obtain ⟨b, cb, hv2, hleq, hr2⟩ := own_rdS ho2
  clear hleq
  have hl2 : (mkF k F).ds.length = F.ds.length := (mkF_len k F).2
  rw [hl2] at hv2
  subst hv2
  have HO1 : Hid (OwnL w lo hi (.slice a (mkL k M).length ca) (mkL k M)) := ho1
  have HR2 : Hid (RdS w b (marksS (k + cntU (M.map (·.1))) F.ds.length)) := by rw [hMf]; exact hr2
  have HCN : Hid (k + cntF F = k + cntU (M.map (·.1)) + F.ds.length) := by show _ = _; unfold cntF; rw [hMf]; omega
  have hcu : cntU (M.map (·.1)) ≤ 16777216 := by rw [hMf]; omega
  have hdl : F.ds.length ≤ 4194304 := by omega
  have hml := mkL_len k M
  have HML : Hid ((mkL k M).length = M.length) := hml
  clear ho1 ho2 hr2 hM hcn hds hz hl hlm hl2 hml
  have hVX : Var (w.alloc (.cells #[.slice a (mkL k M).length ca, .slice b F.ds.length cb] 26)) w.heap.size #[.slice a (mkL k M).length ca, .slice b F.ds.length cb] 26 := Var.made _ _ _
  have hb01 : Below w.heap.size w (w.alloc (.cells #[.slice a (mkL k M).length ca, .slice b F.ds.length cb] 26)) := below1 _ _
  have HHN : Hid (Calls Tryd.prog 25 #[.slice a (mkL k M).length ca, .int .i64 k] (w.alloc (.cells #[.slice a (mkL k M).length ca, .slice b F.ds.length cb] 26)) fun e w' => e = .returned (.int .i64 ((k + cntU (M.map (·.1)) : Nat) : Int)) ∧ w' = (w.alloc (.cells #[.slice a (mkL k M).length ca, .slice b F.ds.length cb] 26))) := heldNodes _ lo hi k M _ (by omega) (by omega) (HO1.out.below (below1 _ _))
  generalize (mkL k M).length = ml at *
  generalize cntU (M.map (·.1)) = cc at *
  have hnn : ¬ ((k + cc : Nat) : Int) < 0 := by omega
  have hnn2 : ¬ ((k + cc + F.ds.length : Nat) : Int) < 0 := by omega
  clear HO1 HML
  go_enter Tryd.func12, Tryd.ntmps12
  go_wp2_with fail
  refine HHN.out.mono ?_
  rintro e w1 ⟨rfl, hw1⟩
  subst w1
  clear HHN
  generalize w.alloc (.cells #[.slice a ml ca, .slice b F.ds.length cb] 26) = W1 at *
  have x1 := hVX.cell 1
  simp at x1
  go_wp2_with fail
  refine (heldStrs _ _ F.ds.length (k + cc) _ (by omega) (by omega) (HR2.out.below hb01 (Nat.le_refl _))).mono ?_
  rintro e w2 ⟨rfl, hb2⟩
  have hb02 := hb01.trans (hb2.mono hb01.size)
  go_wp2
  go_ret
  exact ⟨by rw [HCN.out]; rfl, hb02⟩
end Go.Proofs.YtaabcfgjmankgaaDoor

/-
  Own text: rows of texts and of writes of the call's own, between two bounds; the laws' helpers over them in one make.
-/
namespace Go.Proofs.YtaabcfgjmankgaaDoor
open Go.RowKit

def RdTx (w : World) (v : Value) (l : List ByteArray) : Prop := ∃ a c, v = .slice a l.length c ∧ RdS w a l
def OwnTx (w : World) (lo hi : Nat) (v : Value) (l : List ByteArray) : Prop := w.ownsRow lo 9 1 v l.length (l.map Value.string) ∧ ∀ j, blk v j → j < hi
theorem OwnTx.rd {w : World} {lo hi : Nat} {v : Value} {l : List ByteArray} (h : OwnTx w lo hi v l) : RdTx w v l := by
  obtain ⟨a, c, rfl, _, hr⟩ := own_rdS h.1
  exact ⟨a, c, rfl, hr⟩
theorem OwnTx.below {w w' : World} {lo hi : Nat} {v : Value} {l : List ByteArray} (h : OwnTx w lo hi v l) (hb : Below w.heap.size w w') : OwnTx w' lo hi v l := ⟨ownsRow_below h.1 hb (Nat.le_refl _), h.2⟩
theorem OwnTx.only {S : Nat → Prop} {w w' : World} {lo hi : Nat} {v : Value} {l : List ByteArray} (h : OwnTx w lo hi v l) (ho : Only S w w') (hs : ∀ k, lo ≤ k → k < hi → ¬ S k) : OwnTx w' lo hi v l := ⟨own_only h.1 ho (fun k hk => hs k (h.1.lt k hk).1 (h.2 k hk)), h.2⟩
theorem OwnTx.of {w : World} {lo : Nat} {v : Value} {l : List ByteArray} (h : w.ownsRow lo 9 1 v l.length (l.map Value.string)) : OwnTx w lo w.heap.size v l := ⟨h, fun j hj => (h.lt j hj).2⟩
theorem eqTxX (v u : Value) (l : List ByteArray) (w : World) (hl : l.length ≤ 4194304) (hr : RdTx w v l) (hs : RdTx w u l) : Calls Tryd.prog 9 #[v, u] w fun e w' => e = .returned (.bool true) ∧ Below w.heap.size w w' := by
  obtain ⟨a, c, rfl, hr⟩ := hr
  obtain ⟨a', c', rfl, hs⟩ := hs
  exact eqS _ _ _ _ l w hl hr hs
theorem markTxX (v : Value) (lo hi k : Nat) (l : List ByteArray) (w : World) (hl : l.length ≤ 4194304) (hk : k ≤ 67108864) (_ : hi ≤ w.heap.size) (ho : OwnTx w lo hi v l) : Calls Tryd.prog 10 #[v, .int .i64 k] w fun e w' => e = .returned (.int .i64 ((k + l.length : Nat) : Int)) ∧ OwnTx w' lo hi v (marksS k l.length) ∧ Only (fun j => lo ≤ j ∧ j < hi) w w' := by
  refine (markStrO v l.length k lo l w (by omega) (by omega) ho.1).mono ?_
  rintro e w' ⟨rfl, h1, h2⟩
  refine ⟨rfl, ⟨by rw [marksS_len]; exact h1, ho.2⟩, h2.mono fun j _ hj => ⟨(ho.1.lt j hj).1, ho.2 j hj⟩⟩
theorem heldTxX (v : Value) (lo hi k : Nat) (l : List ByteArray) (w : World) (hl : l.length ≤ 4194304) (hk : k ≤ 67108864) (ho : OwnTx w lo hi v (marksS k l.length)) : Calls Tryd.prog 26 #[v, .int .i64 k] w fun e w' => e = .returned (.int .i64 ((k + l.length : Nat) : Int)) ∧ Below w.heap.size w w' := by
  obtain ⟨a, c, rfl, hr⟩ := ho.rd
  rw [marksS_len]
  exact heldStrs a c l.length k w (by omega) (by omega) hr
def RdPt (w : World) (v : Value) (l : List PutD) : Prop := ∃ a c, v = .slice a l.length c ∧ RdF encP 2 w a l
end Go.Proofs.YtaabcfgjmankgaaDoor

/-
  Own text: a row of texts that comes in and goes out of a law's frame, with its capacity.
-/
namespace Go.Proofs.YtaabcfgjmankgaaDoor
open Go.ChangeShapes Go.WideShapes Go.ChangeAt Go.RowKit

def szTk (l : List ByteArray) : Nat := (l.map fun s => 1 + s.size).sum
theorem szTk_take {l : List ByteArray} {k : Nat} (h : k < l.length) : szTk (l.take (k + 1)) = szTk (l.take k) + 1 + (l[k]).size := by
  unfold szTk
  rw [List.take_succ_eq_append_getElem h, List.map_append, List.sum_append]
  simp
  omega
theorem szTk_all (l : List ByteArray) : szTk (l.take l.length) = szTk l := by rw [List.take_length]
theorem szTk_len (l : List ByteArray) : l.length ≤ szTk l := by
  induction l with
  | nil => simp [szTk]
  | cons x l ih => simp only [szTk, List.map_cons, List.sum_cons, List.length_cons] at ih ⊢; omega
theorem szTk_mem {l : List ByteArray} {n : ByteArray} (h : n ∈ l) : n.size ≤ szTk l := by
  induction l with
  | nil => cases h
  | cons x l ih =>
    simp only [szTk, List.map_cons, List.sum_cons] at ih ⊢
    rcases List.mem_cons.1 h with rfl | h
    · omega
    · have := ih h; omega

set_option maxRecDepth 20000 in
set_option maxHeartbeats 400000 in
theorem szSK (a : Option Addr) (cap : Nat) (l : List ByteArray) (w : World) (hl : l.length ≤ maxLen) (hz : ∀ s ∈ l, s.size ≤ maxLen) (hr : RdS w a l) :
    Calls Tryd.prog 4 #[.slice a l.length cap, .int .i64 1048576] w fun e w' => ∃ r : Int, e = .returned (.int .i64 r) ∧ (0 ≤ r → szTk l ≤ 1048576) ∧ -1 ≤ r ∧ r ≤ 1048576 ∧ w' = w := by
  have HCS : Hid (∀ k (hk : k < l.length), ∃ b off, a = some ⟨b, off, none⟩ ∧ b < w.heap.size ∧ w.cell? ⟨b, off + k, none⟩ = some (.string l[k])) := fun k hk => hr.cellT k hk
  have HZ : Hid (∀ s ∈ l, s.size ≤ maxLen) := hz
  have hm : l.length ≤ 9223372036854775807 := by unfold maxLen at hl; omega
  clear hr hz hl
  by_cases hbig : 1048576 < l.length
  · have hbig' : (1048576 : Int) < (l.length : Int) := by omega
    have hneg : (1048576 : Int) - (l.length : Int) < 0 := by omega
    go_enter Tryd.func4, Tryd.ntmps4
    go_wp2
    go_ret
    exact ⟨-1, rfl, fun h => by omega, by omega, by omega, rfl⟩
  · have hneg : ¬ (1048576 : Int) - (l.length : Int) < 0 := by omega
    go_enter Tryd.func4, Tryd.ntmps4
    go_wp2
    go_loopw [1, 5] (fun x i wr => ∃ (m : Int) (k : Nat), x = .int .i64 m ∧ 0 ≤ m ∧ m ≤ 1048576 ∧ k ≤ l.length ∧ i = .int .i64 k ∧ wr = w ∧ Hid (m + ((l.length : Int) - k) + (szTk (l.take k) : Int) = 1048576)) (fun _ i _ => l.length - (intOf i).toNat)
    case atStart => exact ⟨1048576 - (l.length : Int), 0, by go_num, by omega, by omega, Nat.zero_le _, rfl, rfl, by show _ = _; simp [szTk]⟩
    case round =>
      obtain ⟨m, k, rfl, hm0, hm1, hk, rfl, hwr, HA⟩ := hrel
      subst hwr
      by_cases hlt : k < l.length
      · obtain ⟨b, off, rfl, hblt, hcell⟩ := HCS.out k hlt
        have HS : Hid (szTk (l.take (k + 1)) = szTk (l.take k) + 1 + (l[k]).size) := szTk_take hlt
        have hyz : (l[k]).size ≤ 9223372036854775807 := by have := HZ.out l[k] (List.getElem_mem hlt); unfold maxLen at this; omega
        generalize l[k] = y at *
        by_cases hm2 : m - (y.size : Int) < 0
        · go_wp2
          go_ret
          exact ⟨-1, rfl, fun h => by omega, by omega, by omega, rfl⟩
        · go_wp2
          go_roundw
          case rel => exact ⟨m - (y.size : Int), k + 1, by go_num, by omega, by omega, by omega, by go_num, by trivial, by show _ = _; rw [HS.out]; have := HA.out; omega⟩
          case measure => simp [intOf]; omega
      · obtain rfl : k = l.length := by omega
        have HE : Hid (szTk l ≤ 1048576) := by have := HA.out; rw [szTk_all] at this; show _ ≤ _; omega
        go_wp2
        go_ret
        exact ⟨m, rfl, fun _ => HE.out, by omega, by omega, rfl⟩

theorem made_strK (n : Nat) : (madeCells #[Value.string ⟨#[]⟩] n).toList = (List.replicate n (⟨#[]⟩ : ByteArray)).map Value.string := by
  apply List.ext_getElem
  · simp [size_madeCells]
  · intro i h1 h2
    simp [madeCells, Nat.mod_one]

/-- The first k of l, then empty texts. -/
def fillSK (l : List ByteArray) (k : Nat) : List ByteArray := l.take k ++ List.replicate (l.length - k) ⟨#[]⟩
theorem fillS_setK (l : List ByteArray) (k : Nat) (h : k < l.length) : (fillSK l k).set k l[k] = fillSK l (k + 1) := by
  unfold fillSK
  apply List.ext_getElem
  · simp; omega
  · intro i h1 h2
    simp only [List.getElem_set, List.getElem_append, List.length_take, List.getElem_take, List.getElem_replicate]
    by_cases hi : k = i
    · subst hi
      simp
      omega
    · by_cases h3 : i < k
      · simp [hi, show i < min k l.length by omega, show i < min (k + 1) l.length by omega]
      · simp [hi, show ¬ i < min k l.length by omega, show ¬ i < min (k + 1) l.length by omega]
theorem fillS_lenK (l : List ByteArray) (k : Nat) (h : k ≤ l.length) : (fillSK l k).length = l.length := by unfold fillSK; simp; omega
theorem fillS_allK (l : List ByteArray) : fillSK l l.length = l := by simp [fillSK]
theorem fillS_zeroK (l : List ByteArray) : fillSK l 0 = List.replicate l.length ⟨#[]⟩ := by simp [fillSK]
theorem own_rdS_atK {w : World} {base : Nat} {e : TypeId} {g n cap : Nat} {l : List ByteArray} (h : w.ownsRow base e 1 (.slice (some ⟨g, 0, none⟩) n cap) n (l.map Value.string)) : RdS w (some ⟨g, 0, none⟩) l := by
  obtain ⟨a, c, hv, _, hr⟩ := own_rdS h
  cases hv
  exact hr

set_option maxRecDepth 20000 in
set_option maxHeartbeats 400000 in
theorem toSK (a : Option Addr) (cap : Nat) (l : List ByteArray) (w : World) (hl : l.length ≤ 1048576) (hr : RdS w a l) :
    Calls Tryd.prog 6 #[.slice a l.length cap] w fun e w' => ∃ v, e = .returned v ∧ w'.ownsRow w.heap.size 9 1 v l.length (l.map Value.string) ∧ Below w.heap.size w w' := by
  obtain ⟨i0, hi, hz0, hz1, hz2⟩ := info_parts Tryd.infoTxt
  have HCS : Hid (∀ k (hk : k < l.length), ∃ b off, a = some ⟨b, off, none⟩ ∧ b < w.heap.size ∧ w.cell? ⟨b, off + k, none⟩ = some (.string l[k])) := fun k hk => hr.cellT k hk
  clear hr
  go_enter Tryd.func6, Tryd.ntmps6
  go_wp2_with (at_make; refine wpList_make_full _ rfl _ _ 22 rfl w.heap.size 9 i0 (.string ⟨#[]⟩) 1 Tryd.underlying22 hi hz0 hz1 _ _ _ _ l.length rfl rfl rfl rfl (by rw [hz2]; omega) (by unfold maxLen; omega) (Nat.le_refl _) ?_)
  intro w1 hown hgrow
  have hown1 : w1.ownsRow w.heap.size 9 1 (.slice (some ⟨w.heap.size, 0, none⟩) l.length l.length) l.length ((fillSK l 0).map Value.string) := by
    rw [fillS_zeroK, ← made_strK]
    exact hown
  clear hown
  go_wp2
  go_loopw [4] (fun i wr => ∃ k : Nat, k ≤ l.length ∧ i = .int .i64 k ∧ wr.ownsRow w.heap.size 9 1 (.slice (some ⟨w.heap.size, 0, none⟩) l.length l.length) l.length ((fillSK l k).map Value.string) ∧ Below w.heap.size w wr) (fun i _ => l.length - (intOf i).toNat)
  case atStart => exact ⟨0, Nat.zero_le _, rfl, hown1, (Below.refl _ _).grown hgrow (Nat.le_refl _) (fun k h => by simp at h)⟩
  case round =>
    obtain ⟨k, hk, rfl, ho, hbel⟩ := hrel
    by_cases hlt : k < l.length
    · obtain ⟨b, off, rfl, hblt, hcell⟩ := HCS.out k hlt
      have hcr : wr.cell? ⟨b, off + k, none⟩ = some (.string l[k]) := (hbel.cell hblt).trans hcell
      have hfz := ho.frozenAt k
      have hce : wr.cell? ⟨w.heap.size, k, none⟩ = some (.string ((fillSK l k).getD k ⟨#[]⟩)) := by
        rw [ho.cellAt k (by omega)]
        have := fillS_lenK l k hk
        simp [List.getD, show k < (fillSK l k).length by omega]
      generalize (fillSK l k).getD k ⟨#[]⟩ = old at hce
      have hst := (ho.stored k (.string l[k])).1
      rw [← List.map_set, fillS_setK l k hlt] at hst
      clear hown1 hgrow hcell
      generalize l[k] = y at *
      go_wp2
      go_roundw
      case rel => exact ⟨k + 1, by omega, by go_num, hst, hbel.setCell (Nat.le_refl _) _⟩
      case measure => simp [intOf]; omega
    · obtain rfl : k = l.length := by omega
      go_wp2
      go_ret
      rw [fillS_allK] at ho
      exact ⟨_, rfl, ho, hbel⟩


def FitTk (l : List ByteArray) : Prop := l.length ≤ maxLen ∧ ∀ s ∈ l, s.size ≤ maxLen
def RdTk (w : World) (v : Value) (l : List ByteArray) : Prop := ∃ a c, v = .slice a l.length c ∧ l.length ≤ c ∧ RdS w a l
def OwnTk (w : World) (lo hi : Nat) (v : Value) (l : List ByteArray) : Prop := OwnTx w lo hi v l
theorem OwnTk.rd {w : World} {lo hi : Nat} {v : Value} {l : List ByteArray} (h : OwnTk w lo hi v l) : RdTk w v l := by
  obtain ⟨a, c, hv, _, hr⟩ := own_rdS h.1
  rcases h.1.2 with ⟨rfl, h0⟩ | ⟨g, cap, cur, rfl, _, _, hc, _⟩
  · exact ⟨none, 0, by rw [h0], by omega, .inl (List.eq_nil_of_length_eq_zero h0)⟩
  · cases hv
    exact ⟨_, _, rfl, hc, hr⟩
theorem OwnTk.below {w w' : World} {lo hi : Nat} {v : Value} {l : List ByteArray} (h : OwnTk w lo hi v l) (hb : Below w.heap.size w w') : OwnTk w' lo hi v l := OwnTx.below h hb
theorem OwnTk.only {S : Nat → Prop} {w w' : World} {lo hi : Nat} {v : Value} {l : List ByteArray} (h : OwnTk w lo hi v l) (ho : Only S w w') (hs : ∀ k, lo ≤ k → k < hi → ¬ S k) : OwnTk w' lo hi v l := OwnTx.only h ho hs
theorem RdTk.tx {w : World} {v : Value} {l : List ByteArray} (h : RdTk w v l) : RdTx w v l := by
  obtain ⟨a, c, rfl, _, hr⟩ := h
  exact ⟨a, c, rfl, hr⟩
theorem eqTk (v u : Value) (l : List ByteArray) (w : World) (hl : l.length ≤ 4194304) (hr : RdTk w v l) (hs : RdTk w u l) : Calls Tryd.prog 9 #[v, u] w fun e w' => e = .returned (.bool true) ∧ Below w.heap.size w w' := eqTxX v u l w hl hr.tx hs.tx
theorem markTk (v : Value) (lo hi k : Nat) (l : List ByteArray) (w : World) (hl : l.length ≤ 4194304) (hk : k ≤ 67108864) (hh : hi ≤ w.heap.size) (ho : OwnTk w lo hi v l) : Calls Tryd.prog 10 #[v, .int .i64 k] w fun e w' => e = .returned (.int .i64 ((k + l.length : Nat) : Int)) ∧ OwnTk w' lo hi v (marksS k l.length) ∧ Only (fun j => lo ≤ j ∧ j < hi) w w' := markTxX v lo hi k l w hl hk hh ho
theorem szTkX (v : Value) (l : List ByteArray) (left : Int) (w : World) (h0 : left = 1048576) (_ : left ≤ 1048576) (hf : FitTk l) (hr : RdTk w v l) : Calls Tryd.prog 4 #[v, .int .i64 left] w fun e w' => ∃ r : Int, e = .returned (.int .i64 r) ∧ (0 ≤ r → szTk l ≤ 1048576) ∧ -1 ≤ r ∧ r ≤ 1048576 ∧ Below w.heap.size w w' := by
  subst h0
  obtain ⟨a, c, rfl, _, hr⟩ := hr
  refine (szSK a c l w hf.1 hf.2 hr).mono ?_
  rintro e w' ⟨r, h1, h2, h3, h4, rfl⟩
  exact ⟨r, h1, h2, h3, h4, Below.refl _ _⟩
theorem toTkX (v : Value) (l : List ByteArray) (w : World) (hl : szTk l ≤ 1048576) (hr : RdTk w v l) : Calls Tryd.prog 6 #[v] w fun e w' => ∃ v', e = .returned v' ∧ OwnTk w' w.heap.size w'.heap.size v' l ∧ Below w.heap.size w w' := by
  obtain ⟨a, c, rfl, _, hr⟩ := hr
  refine (toSK a c l w (Nat.le_trans (szTk_len l) hl) hr).mono ?_
  rintro e w' ⟨v', rfl, h1, h2⟩
  exact ⟨v', rfl, OwnTx.of h1, h2⟩
section
variable {H : Type} {enc : TypeId × Value → H} {w : World} {held : Bool}
set_option maxRecDepth 100000 in
theorem open_Texts {r : Reach} {b0 : Nat} {v : Value} {d : DataW H} {p : List MemPlace} (hv : Value.okWide Tryd.prog w r b0 22 v) (h : DataW.Trod enc Tryd.prog w 0 (fun _ => true) held 22 v d p) :
    ∃ (a : Option Addr) (cap : Nat) (l : List ByteArray), v = .slice a l.length cap ∧ FitTk l ∧ l.length ≤ cap ∧ RdS w a l := by
  obtain ⟨a0, len0, cap0, rfl⟩ := okWide_slice Tryd.underlying22 hv
  obtain ⟨fuel, hf⟩ := h
  rcases open_strings Tryd.underlying22 Tryd.underlying9 (by kernel_rfl) hf with ⟨hcs, _⟩ | ⟨x, len, c, zs, hcs, _, hl, hm, hz, _, hcell, hwz⟩
  · simp [Value.cells] at hcs
    obtain ⟨rfl, rfl, rfl⟩ := hcs
    exact ⟨none, 0, [], rfl, ⟨Nat.zero_le _, by simp⟩, Nat.zero_le _, .inl rfl⟩
  · simp [Value.cells] at hcs
    obtain ⟨rfl, rfl, rfl⟩ := hcs
    have hzl : zs.length = cap0 := by simpa using hz
    have htl : (zs.take len0).length = len0 := by rw [List.length_take]; omega
    refine ⟨some x, cap0, zs.take len0, by rw [htl], ⟨by omega, fun s hs => hwz s (List.mem_of_mem_take hs)⟩, by omega, ?_⟩
    by_cases h0 : len0 = 0
    · left; simp [h0]
    · right
      obtain ⟨b, off, spot⟩ := x
      have hc0 := hcell 0 (by omega)
      have hspot : spot = none := by simpa [Addr.add] using World.cell?_spot hc0
      subst hspot
      refine ⟨b, off, rfl, World.block_lt_of_cell? w _ hc0, fun i hi => ?_⟩
      rw [htl] at hi
      have := hcell i (by omega)
      rw [Go.WideShapes.add_plain] at this
      rw [this]
      simp [List.getD, show i < zs.length by omega]
end
end Go.Proofs.YtaabcfgjmankgaaDoor
