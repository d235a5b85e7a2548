/-
  Own text: the laws' helpers over branches: how great, a copy, alike.
-/
import Derived.Test.YtioecnfgliponaaFsF
import Derived.Test.YtioecnfgliponaaNodeL
namespace Go.Proofs.Ytioecnfgliponaa
open Go.RowKit

theorem Try.infoNode : (Try.prog.info? 57).map (fun i => (i.zero, i.size, i.bytes)) = some (some (.agg #[.int .i64 0, .int .i64 0, .int .i64 0, .int .i64 0, .slice none 0 0]), 5, 56) := by kernel_rfl
theorem Try.sizeFs : (Try.prog.info? 31).map (·.size) = some 2 := by kernel_rfl

theorem szIntX (a : Option Addr) (cap n : Nat) (left : Int) (w : World) (h0 : 0 ≤ left) (h1 : left ≤ 1048576) (hn : n ≤ maxLen) :
    Calls Try.prog 70 #[.slice a n cap, .int .i64 left] w fun e w' => ∃ r : Int, e = .returned (.int .i64 r) ∧ (0 ≤ r → r + n = left) ∧ -1 ≤ r ∧ r ≤ 1048576 ∧ w' = w := by
  unfold maxLen at hn
  have hw : IntKind.i64.wrap (left - (n : Int)) = left - (n : Int) := by rw [IntKind.wrap_i64]; omega
  by_cases h : left - (n : Int) < 0
  · go_enter Try.func70, Try.ntmps70
    go_wp2
    go_ret
    exact ⟨-1, rfl, by omega, by omega, by omega, rfl⟩
  · go_enter Try.func70, Try.ntmps70
    go_wp2
    go_ret
    exact ⟨_, rfl, by omega, by omega, by omega, rfl⟩
set_option maxRecDepth 20000 in
theorem szNodeX (n : NodeD) (u : Value) (left : Int) (w : World) (h0 : 0 ≤ left) (h1 : left ≤ 1048576) (hr : RdU w u n.b) :
    Calls Try.prog 49 #[.agg #[.int .i64 n.k, .int .i64 n.g, .int .i64 n.t, .int .i64 n.s, u], .int .i64 left] w fun e w' => ∃ r : Int, e = .returned (.int .i64 r) ∧ (0 ≤ r → r + n.b.length = left) ∧ -1 ≤ r ∧ r ≤ 1048576 ∧ Below w.heap.size w w' := by
  obtain ⟨a, c, rfl, hc1, hc2, hr⟩ := hr
  clear hr
  go_enter Try.func49, Try.ntmps49
  go_wp2_with fail
  refine (szIntX _ _ n.b.length left _ h0 h1 (Nat.le_trans hc1 hc2)).mono ?_
  rintro e w1 ⟨r, rfl, hr1, hr2, hr3, hw1⟩
  subst w1
  have hb : Below w.heap.size w (w.alloc (.cells #[.int .i64 n.k, .int .i64 n.g, .int .i64 n.t, .int .i64 n.s, .slice a n.b.length c] 70)) := below1 _ _
  by_cases h : r < 0
  · clear hr1
    go_wp2
    go_ret
    exact ⟨-1, rfl, by omega, by omega, by omega, hb⟩
  · have HR1 : Hid (r + (n.b.length : Int) = left) := hr1 (by omega)
    clear hr1
    go_wp2
    go_ret
    exact ⟨r, rfl, fun _ => HR1.out, hr2, hr3, hb⟩

set_option maxRecDepth 20000 in
set_option maxHeartbeats 400000 in
theorem szNodes (a : Option Addr) (cap : Nat) (l : List NodeD) (left : Int) (w : World) (h0 : 0 ≤ left) (h1 : left ≤ 1048576) (hl : l.length ≤ maxLen) (hr : RdNs w a l) :
    Calls Try.prog 20 #[.slice a l.length cap, .int .i64 left] w fun e w' => ∃ r : Int, e = .returned (.int .i64 r) ∧ (0 ≤ r → r + szN l = left) ∧ -1 ≤ r ∧ r ≤ 1048576 ∧ Below w.heap.size w w' := by
  have HCS : Hid (∀ k (hk : k < l.length), ∃ b off u, a = some ⟨b, off, none⟩ ∧ b < w.heap.size ∧ RdU w u l[k].b ∧ NodeAt w b (off + k * 5) l[k] u) := fun k hk => hr.at k hk
  have hm : l.length ≤ 9223372036854775807 := by unfold maxLen at hl; omega
  clear hr hl
  by_cases hbig : left < l.length
  · have hneg : left - (l.length : Int) < 0 := by omega
    go_enter Try.func20, Try.ntmps20
    go_wp2
    go_ret
    exact ⟨-1, rfl, fun h => by omega, by omega, by omega, Below.refl _ _⟩
  · have hneg : ¬ left - (l.length : Int) < 0 := by omega
    go_enter Try.func20, Try.ntmps20
    go_wp2
    go_loopw [1, 5] (fun x i wr => ∃ (m : Int) (k : Nat), x = .int .i64 m ∧ 0 ≤ m ∧ m ≤ 1048576 ∧ k ≤ l.length ∧ i = .int .i64 k ∧ Below w.heap.size w wr ∧ Hid (m + ((l.length : Int) - k) + (szN (l.take k) : Int) = left)) (fun _ i _ => l.length - (intOf i).toNat)
    case atStart => exact ⟨left - (l.length : Int), 0, by go_num, by omega, by omega, Nat.zero_le _, rfl, Below.refl _ _, by show _ = _; simp [szN]⟩
    case round =>
      obtain ⟨m, k, rfl, hm0, hm1, hk, rfl, hbel, HA⟩ := hrel
      by_cases hlt : k < l.length
      · obtain ⟨b, off, u, rfl, hblt, hru, c0, c1, c2, c3, c4⟩ := HCS.out k hlt
        have d0 := (hbel.cell (p := ⟨b, off + k * 5, none⟩) hblt).trans c0
        have d1 := (hbel.cell (p := ⟨b, off + k * 5 + 1, none⟩) hblt).trans c1
        have d2 := (hbel.cell (p := ⟨b, off + k * 5 + 2, none⟩) hblt).trans c2
        have d3 := (hbel.cell (p := ⟨b, off + k * 5 + 3, none⟩) hblt).trans c3
        have d4 := (hbel.cell (p := ⟨b, off + k * 5 + 4, none⟩) hblt).trans c4
        have HS : Hid (szN (l.take (k + 1)) = szN (l.take k) + 1 + (l[k]).b.length) := szN_take hlt
        have HRU : Hid (RdU wr u l[k].b) := hru.below hbel (Nat.le_refl _)
        clear c0 c1 c2 c3 c4 hru
        generalize l[k] = y at *
        go_wp2_with fail
        refine (szNodeX y u m _ hm0 hm1 HRU.out).mono ?_
        rintro e w2 ⟨r, rfl, hrm, hr0, hr1, hb2⟩
        have hb3 : Below w.heap.size w w2 := hbel.trans (hb2.mono hbel.size)
        by_cases hrn : r < 0
        · clear hrm
          go_wp2
          go_ret
          exact ⟨-1, rfl, fun h => by omega, by omega, by omega, hb3⟩
        · have HRM : Hid (r + (y.b.length : Int) = m) := hrm (by omega)
          clear hrm
          go_wp2
          go_roundw
          case rel => exact ⟨r, k + 1, rfl, by omega, by omega, by omega, by go_num, hb3, by show _ = _; rw [HS.out]; have := HA.out; have := HRM.out; omega⟩
          case measure => simp [intOf]; omega
      · obtain rfl : k = l.length := by omega
        have HE : Hid (m + szN l = left) := by have := HA.out; rw [List.take_length] at this; show _ = _; omega
        go_wp2
        go_ret
        exact ⟨m, rfl, fun _ => HE.out, by omega, by omega, hbel⟩

set_option maxRecDepth 20000 in
set_option maxHeartbeats 400000 in
theorem szFsW (v : Value) (F : FsD) (left : Int) (w : World) (h0 : 0 ≤ left) (h1 : left ≤ 1048576) (hf : FitF F) (hr : RdFs w v F) :
    Calls Try.prog 7 #[v, .int .i64 left] w fun e w' => ∃ r : Int, e = .returned (.int .i64 r) ∧ (0 ≤ r → r + szF F = left) ∧ -1 ≤ r ∧ r ≤ 1048576 ∧ Below w.heap.size w w' := by
  obtain ⟨a, ca, b, cb, rfl, _, r1, r2⟩ := hr
  obtain ⟨f1, f2, f3, f4⟩ := hf
  have HR1 : Hid (RdNs w a F.ns) := r1
  have HR2 : Hid (RdS w b F.ds) := r2
  have HF : Hid (∀ s ∈ F.ds, s.size ≤ maxLen) := f4
  have HZ : Hid (szF F = szN F.ns + szT F.ds) := rfl
  clear r1 r2 f3 f4
  go_enter Try.func7, Try.ntmps7
  go_wp2_with fail
  refine (szNodes _ _ F.ns left _ h0 h1 f1 (HR1.out.below (below1 _ _) (Nat.le_refl _))).mono ?_
  rintro e w1 ⟨r, rfl, hr1, hr2, hr3, hb1⟩
  have hX : Var w1 w.heap.size #[.slice a F.ns.length ca, .slice b F.ds.length cb] 25 := (Var.made w _ _).new hb1
  have hb01 : Below w.heap.size w w1 := (below1 w _).trans (hb1.mono (by simp))
  have hx1 := hX.cell 1
  simp at hx1
  clear hX hb1
  by_cases h : r < 0
  · clear hr1
    go_wp2
    go_ret
    exact ⟨-1, rfl, by omega, by omega, by omega, hb01⟩
  · have HR1' : Hid (r + (szN F.ns : Int) = left) := hr1 (by omega)
    clear hr1
    go_wp2_with fail
    refine (szStrs _ _ F.ds r _ (by omega) hr3 f2 HF.out (HR2.out.below hb01 (Nat.le_refl _))).mono ?_
    rintro e w2 ⟨q, rfl, hq1, hq2, hq3, hb2⟩
    have hb02 : Below w.heap.size w w2 := hb01.trans (hb2.mono hb01.size)
    by_cases h2 : q < 0
    · clear hq1
      go_wp2
      go_ret
      exact ⟨-1, rfl, by omega, by omega, by omega, hb02⟩
    · have HQ1 : Hid (q + (szT F.ds : Int) = r) := hq1 (by omega)
      clear hq1
      go_wp2
      go_ret
      exact ⟨q, rfl, fun _ => by rw [HZ.out]; have := HQ1.out; have := HR1'.out; omega, hq2, hq3, hb02⟩

/-! ### A copy -/
theorem uSet (M : List NodeU) (i : Nat) (h : i < M.length) (y : NodeU) :
    (((((M.flatMap encU).set (i * 5) (.int .i64 y.1.k)).set (i * 5 + 1) (.int .i64 y.1.g)).set (i * 5 + 2) (.int .i64 y.1.t)).set (i * 5 + 3) (.int .i64 y.1.s)).set (i * 5 + 4) y.2 = (M.set i y).flatMap encU := by
  obtain ⟨⟨yk, yg, yt, ys, yb⟩, yu⟩ := y
  have e0 := flat_set encU_len M i h 0 (⟨yk, M[i].1.g, M[i].1.t, M[i].1.s, M[i].1.b⟩, M[i].2) (.int .i64 yk) (by omega) rfl
  have e1 := flat_set encU_len (M.set i (⟨yk, M[i].1.g, M[i].1.t, M[i].1.s, M[i].1.b⟩, M[i].2)) i (by simpa using h) 1 (⟨yk, yg, M[i].1.t, M[i].1.s, M[i].1.b⟩, M[i].2) (.int .i64 yg) (by omega) (by rw [List.getElem_set_self]; rfl)
  have e2 := flat_set encU_len (M.set i (⟨yk, yg, M[i].1.t, M[i].1.s, M[i].1.b⟩, M[i].2)) i (by simpa using h) 2 (⟨yk, yg, yt, M[i].1.s, M[i].1.b⟩, M[i].2) (.int .i64 yt) (by omega) (by rw [List.getElem_set_self]; rfl)
  have e3 := flat_set encU_len (M.set i (⟨yk, yg, yt, M[i].1.s, M[i].1.b⟩, M[i].2)) i (by simpa using h) 3 (⟨yk, yg, yt, ys, M[i].1.b⟩, M[i].2) (.int .i64 ys) (by omega) (by rw [List.getElem_set_self]; rfl)
  have e4 := flat_set encU_len (M.set i (⟨yk, yg, yt, ys, M[i].1.b⟩, M[i].2)) i (by simpa using h) 4 (⟨yk, yg, yt, ys, yb⟩, yu) yu (by omega) (by rw [List.getElem_set_self]; rfl)
  rw [List.set_set] at e1 e2 e3 e4
  rw [Nat.add_zero] at e0
  rw [e0, e1, e2, e3, e4]
theorem uCells {M : List NodeU} {i : Nat} (h : i < M.length) : (M.flatMap encU)[i * 5]? = some (.int .i64 M[i].1.k) ∧ (M.flatMap encU)[i * 5 + 1]? = some (.int .i64 M[i].1.g) ∧ (M.flatMap encU)[i * 5 + 2]? = some (.int .i64 M[i].1.t) ∧ (M.flatMap encU)[i * 5 + 3]? = some (.int .i64 M[i].1.s) ∧ (M.flatMap encU)[i * 5 + 4]? = some M[i].2 := by
  have e0 := flat_get encU_len M i h 0 (by omega)
  have e1 := flat_get encU_len M i h 1 (by omega)
  have e2 := flat_get encU_len M i h 2 (by omega)
  have e3 := flat_get encU_len M i h 3 (by omega)
  have e4 := flat_get encU_len M i h 4 (by omega)
  exact ⟨e0, e1, e2, e3, e4⟩
/-- A node and no slice. -/
def zeroU : NodeU := (zeroN, .slice none 0 0)
theorem set_fill (L : List NodeU) (n : Nat) (y : NodeU) (h : L.length < n) : (L ++ List.replicate (n - L.length) zeroU).set L.length y = (L ++ [y]) ++ List.replicate (n - (L ++ [y]).length) zeroU := by
  rw [List.set_append_right _ _ (Nat.le_refl _), Nat.sub_self, List.append_assoc]
  congr 1
  rw [show n - L.length = (n - (L ++ [y]).length) + 1 by simp; omega, List.replicate_succ, List.set_cons_zero]
  rfl
/-- While a row of nodes is filled, one behind the other: which are there, that each has blocks of its own. -/
structure FillU (w0 w : World) (n cap : Nat) (L : List NodeU) : Prop where
  len : L.length ≤ n
  row : w.ownsRow w0.heap.size 57 5 (.slice (some ⟨w0.heap.size, 0, none⟩) n cap) n ((L ++ List.replicate (n - L.length) zeroU).flatMap encU)
  inn : ∀ x ∈ L, w.ownsRow (w0.heap.size + 1) 3 1 x.2 x.1.b.length (x.1.b.map (Value.int .i64))
  apart : L.Pairwise fun x y => ∀ j, blk x.2 j → ¬ blk y.2 j
  bel : Below w0.heap.size w0 w
theorem FillU.new {w0 w w' : World} {n cap : Nat} {L : List NodeU} (h : FillU w0 w n cap L) (hb : Below w.heap.size w w') : FillU w0 w' n cap L :=
  ⟨h.len, ownsRow_below h.row hb (Nat.le_refl _), fun x hx => ownsRow_below (h.inn x hx) hb (Nat.le_refl _), h.apart, h.bel.trans (hb.mono h.bel.size)⟩
abbrev fiveAt (w : World) (P o : Nat) (a b c d e : Value) : World := ((((w.setCell ⟨P, o, none⟩ a).setCell ⟨P, o + 1, none⟩ b).setCell ⟨P, o + 2, none⟩ c).setCell ⟨P, o + 3, none⟩ d).setCell ⟨P, o + 4, none⟩ e
theorem only_five {S : Nat → Prop} {a w : World} (h : Only S a w) {P : Nat} (hp : S P) (o : Nat) (x0 x1 x2 x3 x4 : Value) : Only S a (fiveAt w P o x0 x1 x2 x3 x4) :=
  ((((h.setCell (p := ⟨P, o, none⟩) hp x0).setCell (p := ⟨P, o + 1, none⟩) hp x1).setCell (p := ⟨P, o + 2, none⟩) hp x2).setCell (p := ⟨P, o + 3, none⟩) hp x3).setCell (p := ⟨P, o + 4, none⟩) hp x4
theorem FillU.put {w0 w : World} {n cap : Nat} {L : List NodeU} (h : FillU w0 w n cap L) (hlt : L.length < n) (y : NodeU) (hy : w.ownsRow (w0.heap.size + 1) 3 1 y.2 y.1.b.length (y.1.b.map (Value.int .i64))) (ha : ∀ x ∈ L, ∀ j, blk x.2 j → ¬ blk y.2 j) :
    FillU w0 (fiveAt w w0.heap.size (L.length * 5) (.int .i64 y.1.k) (.int .i64 y.1.g) (.int .i64 y.1.t) (.int .i64 y.1.s) y.2) n cap (L ++ [y]) := by
  have hO : Only (fun k => k = w0.heap.size) w (fiveAt w w0.heap.size (L.length * 5) (.int .i64 y.1.k) (.int .i64 y.1.g) (.int .i64 y.1.t) (.int .i64 y.1.s) y.2) := only_five (S := fun k => k = w0.heap.size) (Only.refl _ _) rfl _ _ _ _ _ _
  refine ⟨by simp; omega, ?_, ?_, ?_, ?_⟩
  · have hst := ((((h.row.stored (L.length * 5) (.int .i64 y.1.k)).1.stored (L.length * 5 + 1) (.int .i64 y.1.g)).1.stored (L.length * 5 + 2) (.int .i64 y.1.t)).1.stored (L.length * 5 + 3) (.int .i64 y.1.s)).1.stored (L.length * 5 + 4) y.2
    have hst1 := hst.1
    rw [uSet _ L.length (by simp; omega), set_fill L n y hlt] at hst1
    exact hst1
  · intro x hx
    rcases List.mem_append.1 hx with hx | hx
    · exact own_only (h.inn x hx) hO (fun k hk e => by have := ((h.inn x hx).lt k hk).1; omega)
    · obtain rfl : x = y := by simpa using hx
      exact own_only hy hO (fun k hk e => by have := (hy.lt k hk).1; omega)
  · rw [List.pairwise_append]
    refine ⟨h.apart, by simp, fun x hx z hz => ?_⟩
    obtain rfl : z = y := by simpa using hz
    exact ha x hx
  · exact h.bel.trans (hO.below h.bel.size (fun k e => by omega))
theorem FillU.cells {w0 w : World} {n cap : Nat} {L : List NodeU} (h : FillU w0 w n cap L) (hlt : L.length < n) :
    w.cell? ⟨w0.heap.size, L.length * 5, none⟩ = some (.int .i64 0) ∧ w.cell? ⟨w0.heap.size, L.length * 5 + 1, none⟩ = some (.int .i64 0) ∧ w.cell? ⟨w0.heap.size, L.length * 5 + 2, none⟩ = some (.int .i64 0) ∧ w.cell? ⟨w0.heap.size, L.length * 5 + 3, none⟩ = some (.int .i64 0) ∧ w.cell? ⟨w0.heap.size, L.length * 5 + 4, none⟩ = some (.slice none 0 0) ∧
      w.frozen? ⟨w0.heap.size, L.length * 5, none⟩ = false ∧ w.frozen? ⟨w0.heap.size, L.length * 5 + 1, none⟩ = false ∧ w.frozen? ⟨w0.heap.size, L.length * 5 + 2, none⟩ = false ∧ w.frozen? ⟨w0.heap.size, L.length * 5 + 3, none⟩ = false ∧ w.frozen? ⟨w0.heap.size, L.length * 5 + 4, none⟩ = false := by
  have e := uCells (M := L ++ List.replicate (n - L.length) zeroU) (i := L.length) (by simp; omega)
  have hz : (L ++ List.replicate (n - L.length) zeroU)[L.length]'(by simp; omega) = zeroU := by
    rw [List.getElem_append_right (Nat.le_refl _)]; simp
  rw [hz] at e
  obtain ⟨e0, e1, e2, e3, e4⟩ := e
  exact ⟨(h.row.cellAt _ (by omega)).trans e0, (h.row.cellAt _ (by omega)).trans e1, (h.row.cellAt _ (by omega)).trans e2, (h.row.cellAt _ (by omega)).trans e3, (h.row.cellAt _ (by omega)).trans e4, h.row.frozenAt _, h.row.frozenAt _, h.row.frozenAt _, h.row.frozenAt _, h.row.frozenAt _⟩
theorem FillU.all {w0 w : World} {n cap : Nat} {L : List NodeU} (h : FillU w0 w n cap L) (hn : L.length = n) : OwnL w w0.heap.size w.heap.size (.slice (some ⟨w0.heap.size, 0, none⟩) L.length cap) L := by
  have hr := h.row
  rw [← hn, Nat.sub_self, List.replicate_zero, List.append_nil] at hr
  exact ⟨hr, fun x hx => ownsRow_base (h.inn x hx) (by omega), h.apart, fun j hj => (hr.lt j hj).2, fun x hx j hj => ((h.inn x hx).lt j hj).2⟩

set_option maxRecDepth 20000 in
set_option maxHeartbeats 1000000 in
theorem toNodes (a : Option Addr) (cap : Nat) (l : List NodeD) (w : World) (hl : l.length ≤ 1048576) (hs : ∀ n ∈ l, n.b.length ≤ 1048576) (hr : RdNs w a l) :
    Calls Try.prog 24 #[.slice a l.length cap] w fun e w' => ∃ v, e = .returned v ∧ OwnNs w' w.heap.size w'.heap.size v l ∧ Below w.heap.size w w' := by
  obtain ⟨i0, hi, hz0, hz1, hz2⟩ := info_parts Try.infoNode
  have HCS : Hid (∀ k (hk : k < l.length), ∃ b off u, a = some ⟨b, off, none⟩ ∧ b < w.heap.size ∧ RdU w u l[k].b ∧ NodeAt w b (off + k * 5) l[k] u) := fun k hk => hr.at k hk
  have HSM : Hid (∀ n ∈ l, n.b.length ≤ 1048576) := hs
  clear hr hs
  go_enter Try.func24, Try.ntmps24
  go_wp2_with (at_make; refine wpList_make_full _ rfl _ _ 29 rfl w.heap.size 57 i0 (.agg #[.int .i64 0, .int .i64 0, .int .i64 0, .int .i64 0, .slice none 0 0]) 5 Try.underlying29 hi hz0 hz1 _ _ _ _ l.length rfl rfl rfl rfl (by rw [hz2]; omega) (by unfold maxLen; omega) (Nat.le_refl _) ?_)
  intro w1 hown hgrow
  have HF0 : FillU w w1 l.length l.length [] := by
    refine ⟨Nat.zero_le _, ?_, by simp, by simp, (Below.refl _ _).grown hgrow (Nat.le_refl _) (fun k h => by simp at h)⟩
    rw [List.nil_append, List.length_nil, Nat.sub_zero, ← made_flat encU_len zeroU #[.int .i64 0, .int .i64 0, .int .i64 0, .int .i64 0, .slice none 0 0] rfl (by omega)]
    exact hown
  clear hown hgrow
  go_wp2
  go_loopw [4] (fun i wr => ∃ L : List NodeU, Hid (L.map (·.1) = l.take L.length) ∧ i = .int .i64 (L.length : Nat) ∧ FillU w wr l.length l.length L) (fun i _ => l.length - (intOf i).toNat)
  case atStart => exact ⟨[], rfl, rfl, HF0⟩
  case round =>
    obtain ⟨L, HL, rfl, HFi⟩ := hrel
    have hk := HFi.len
    obtain ⟨k, HK⟩ : ∃ k, Hid (L.length = k) := ⟨_, rfl⟩
    rw [HK.out] at hk ⊢
    by_cases hlt : k < l.length
    · obtain ⟨b, off, u, rfl, hblt, hru, c0, c1, c2, c3, c4⟩ := HCS.out k hlt
      have hbel := HFi.bel
      have d0 := (hbel.cell (p := ⟨b, off + k * 5, none⟩) hblt).trans c0
      have d1 := (hbel.cell (p := ⟨b, off + k * 5 + 1, none⟩) hblt).trans c1
      have d2 := (hbel.cell (p := ⟨b, off + k * 5 + 2, none⟩) hblt).trans c2
      have d3 := (hbel.cell (p := ⟨b, off + k * 5 + 3, none⟩) hblt).trans c3
      have d4 := (hbel.cell (p := ⟨b, off + k * 5 + 4, none⟩) hblt).trans c4
      have HRU : Hid (RdN wr (aggN l[k] u) l[k]) := (hru.below hbel (Nat.le_refl _)).node
      have HSY : Hid (l[k].b.length ≤ 1048576) := HSM.out _ (List.getElem_mem hlt)
      have HTK : Hid (l.take (k + 1) = l.take k ++ [l[k]]) := List.take_succ_eq_append_getElem hlt
      clear c0 c1 c2 c3 c4 hru HF0
      generalize l[k] = y at *
      go_wp2_with fail
      refine (toNodeW (aggN y u) y _ HSY.out HRU.out).mono ?_
      rintro e w2 ⟨v2, rfl, ho2, hb2⟩
      obtain ⟨u2, rfl, ho2⟩ := ho2
      obtain ⟨a2, c2, rfl, _, _⟩ := own_rd ho2
      have hF2 := HFi.new hb2
      have hsz := HFi.bel.size
      have hrl := (HFi.row.lt w.heap.size rfl).2
      have ho3 := ownsRow_base ho2 (show w.heap.size + 1 ≤ wr.heap.size by omega)
      have hap : ∀ x ∈ L, ∀ j, blk x.2 j → ¬ blk (y, (Value.slice a2 y.b.length c2)).2 j := by
        intro x hx j hj hj2
        have h1 := ((HFi.inn x hx).lt j hj).2
        have h2 := (ho2.lt j hj2).1
        omega
      obtain ⟨x0, x1, x2, x3, x4, f0, f1, f2, f3, f4⟩ := hF2.cells (by rw [HK.out]; exact hlt)
      have hF3 := hF2.put (by rw [HK.out]; exact hlt) (y, (Value.slice a2 y.b.length c2)) ho3 hap
      rw [HK.out] at x0 x1 x2 x3 x4 f0 f1 f2 f3 f4 hF3
      have HF3 : Hid (FillU w (fiveAt w2 w.heap.size (k * 5) (.int .i64 y.k) (.int .i64 y.g) (.int .i64 y.t) (.int .i64 y.s) (Value.slice a2 y.b.length c2)) l.length l.length (L ++ [(y, (Value.slice a2 y.b.length c2))])) := hF3
      have HL3 : Hid ((L ++ [(y, (Value.slice a2 y.b.length c2))]).map (·.1) = l.take (L ++ [(y, (Value.slice a2 y.b.length c2))]).length) := by
        show _ = _
        rw [List.map_append, HL.out, List.length_append, HK.out]
        exact HTK.out.symm
      have HLN : Hid ((L ++ [(y, (Value.slice a2 y.b.length c2))]).length = k + 1) := by show _ = _; rw [List.length_append, HK.out]; rfl
      clear hF2 hF3 ho2 ho3 hap HFi hbel hb2 HRU d0 d1 d2 d3 d4 hsz hrl
      unfold aggN
      go_wp2
      go_roundw
      case rel => exact ⟨L ++ [(y, (Value.slice a2 y.b.length c2))], HL3, by rw [HLN.out]; go_num, HF3.out⟩
      case measure => simp [intOf]; omega
    · obtain rfl : k = l.length := by omega
      have HO := HFi.all HK.out
      rw [HK.out] at HO
      have hB := HFi.bel
      go_wp2
      go_ret
      refine ⟨_, rfl, ⟨L, ?_, HO⟩, hB⟩
      have := HL.out
      rwa [HK.out, List.take_length] at this

set_option maxRecDepth 20000 in
set_option maxHeartbeats 1000000 in
theorem toFsW (v : Value) (F : FsD) (w : World) (hs : SmF F) (hr : RdFs w v F) :
    Calls Try.prog 9 #[v] w fun e w' => ∃ v', e = .returned v' ∧ OwnFs w' w.heap.size w'.heap.size v' F ∧ Below w.heap.size w w' := by
  obtain ⟨a, ca, b, cb, rfl, _, r1, r2⟩ := hr
  obtain ⟨hl1, hl2, hl3, _⟩ := hs
  have HR1 : Hid (RdNs w a F.ns) := r1
  have HR2 : Hid (RdS w b F.ds) := r2
  have HL2 : Hid (∀ n ∈ F.ns, n.b.length ≤ 1048576) := hl2
  clear r1 r2 hl2
  go_enter Try.func9, Try.ntmps9
  go_wp2_with fail
  refine (toNodes _ _ F.ns _ hl1 HL2.out (HR1.out.below (below3 _ _ _ _) (Nat.le_refl _))).mono ?_
  rintro e w1 ⟨v1, rfl, ho1, hb1⟩
  obtain ⟨a1, c1, rfl, _, _⟩ := ho1.rd
  have hV0 : Var w1 (w.heap.size + 1 + 1) #[.slice none 0 0, .slice none 0 0] 31 := (Var.made3 w _ _ _ _).new hb1
  have hR0 : Var w1 (w.heap.size + 1) #[.slice none 0 0, .slice none 0 0] 31 := ((Var.made2 w _ _ _).alloc _).new hb1
  have hX0 : Var w1 w.heap.size #[.slice a F.ns.length ca, .slice b F.ds.length cb] 25 := (((Var.made w _ _).alloc _).alloc _).new hb1
  have hs0 : (((w.alloc (.cells #[.slice a F.ns.length ca, .slice b F.ds.length cb] 25)).alloc (.cells #[.slice none 0 0, .slice none 0 0] 31)).alloc (.cells #[.slice none 0 0, .slice none 0 0] 31)).heap.size = w.heap.size + 1 + 1 + 1 := by simp
  rw [hs0] at ho1 hb1
  have hb01 : Below w.heap.size w w1 := (below3 w _ _ _).trans (hb1.mono (by omega))
  have hV1 := hV0.set 0 (.slice a1 F.ns.length c1)
  have hR1 := hR0.other (Q := w.heap.size + 1 + 1) (by omega) 0 (.slice a1 F.ns.length c1)
  have hX1 := hX0.other (Q := w.heap.size + 1 + 1) (by omega) 0 (.slice a1 F.ns.length c1)
  have hb02 : Below w.heap.size w (w1.setCell ⟨w.heap.size + 1 + 1, 0, none⟩ (.slice a1 F.ns.length c1)) := hb01.setCell (p := ⟨w.heap.size + 1 + 1, 0, none⟩) (by show _ ≤ w.heap.size + 1 + 1; omega) _
  have hc0 := hV0.cell 0
  have hf0 := hV0.frozen 0
  have hcx := hX1.cell 1
  go_wp2_with fail
  have ho1' := OwnNs.only ho1 (Only.setCell (S := fun k => k = w.heap.size + 1 + 1) (Only.refl _ _) (p := ⟨w.heap.size + 1 + 1, 0, none⟩) rfl (.slice a1 F.ns.length c1)) (fun k h1 h2 e => by omega)
  have hsz1 : w.heap.size + 1 + 1 + 1 ≤ (w1.setCell ⟨w.heap.size + 1 + 1, 0, none⟩ (.slice a1 F.ns.length c1)).heap.size := by have := hV1.lt; omega
  have hsz2 : w1.heap.size ≤ (w1.setCell ⟨w.heap.size + 1 + 1, 0, none⟩ (.slice a1 F.ns.length c1)).heap.size := by simp [World.setCell]
  clear hc0 hf0 hcx hV0 hR0 hX0 hb01 hb1 ho1 hs0
  generalize w1.setCell ⟨w.heap.size + 1 + 1, 0, none⟩ (.slice a1 F.ns.length c1) = wx at *
  refine (toStrs _ _ F.ds _ hl3 (HR2.out.below hb02 (Nat.le_refl _))).mono ?_
  rintro e w2 ⟨v2, rfl, ho2, hb2⟩
  obtain ⟨a2, c2, rfl, _, _⟩ := own_rdS ho2
  have hV2 := hV1.new hb2
  have hR2 := hR1.new hb2
  have ho12 := (ho1'.below hb2).hi (show w1.heap.size ≤ w2.heap.size by have := hb2.size; omega)
  have ho2' := ownsRow_base ho2 hsz1
  have hhi : ∀ j, blk (.slice a2 F.ds.length c2) j → j < w2.heap.size := fun j hj => (ho2.lt j hj).2
  have hb03 : Below w.heap.size w w2 := hb02.trans (hb2.mono hb02.size)
  clear hV1 hR1 hX1 ho1' ho2 hb2 hb02 hsz1 hsz2
  have hV3 := hV2.set 1 (.slice a2 F.ds.length c2)
  have hR3 := hR2.other (Q := w.heap.size + 1 + 1) (by omega) 1 (.slice a2 F.ds.length c2)
  have hR4 := hR3.set 0 (.slice a1 F.ns.length c1)
  have hR5 := hR4.set 1 (.slice a2 F.ds.length c2)
  have HR5 : Hid (Var (((w2.setCell ⟨w.heap.size + 1 + 1, 1, none⟩ (.slice a2 F.ds.length c2)).setCell ⟨w.heap.size + 1, 0, none⟩ (.slice a1 F.ns.length c1)).setCell ⟨w.heap.size + 1, 1, none⟩ (.slice a2 F.ds.length c2)) (w.heap.size + 1) #[.slice a1 F.ns.length c1, .slice a2 F.ds.length c2] 31) := hR5
  have hOn : Only (fun k => k = w.heap.size + 1 + 1 ∨ k = w.heap.size + 1) w2 (((w2.setCell ⟨w.heap.size + 1 + 1, 1, none⟩ (.slice a2 F.ds.length c2)).setCell ⟨w.heap.size + 1, 0, none⟩ (.slice a1 F.ns.length c1)).setCell ⟨w.heap.size + 1, 1, none⟩ (.slice a2 F.ds.length c2)) :=
    ((((Only.refl _ _).setCell (p := ⟨w.heap.size + 1 + 1, 1, none⟩) (.inl rfl) _).setCell (p := ⟨w.heap.size + 1, 0, none⟩) (.inr rfl) _).setCell (p := ⟨w.heap.size + 1, 1, none⟩) (.inr rfl) _)
  have E1 : Hid (OwnFs (((w2.setCell ⟨w.heap.size + 1 + 1, 1, none⟩ (.slice a2 F.ds.length c2)).setCell ⟨w.heap.size + 1, 0, none⟩ (.slice a1 F.ns.length c1)).setCell ⟨w.heap.size + 1, 1, none⟩ (.slice a2 F.ds.length c2)) w.heap.size w2.heap.size (.agg #[.slice a1 F.ns.length c1, .slice a2 F.ds.length c2]) F) :=
    (OwnFs.only (lo := w.heap.size + 1 + 1 + 1) ⟨_, _, rfl, ho12, ho2', hhi⟩ hOn (fun k h1 _ e => by omega)).base (by omega)
  have hb04 : Below w.heap.size w (((w2.setCell ⟨w.heap.size + 1 + 1, 1, none⟩ (.slice a2 F.ds.length c2)).setCell ⟨w.heap.size + 1, 0, none⟩ (.slice a1 F.ns.length c1)).setCell ⟨w.heap.size + 1, 1, none⟩ (.slice a2 F.ds.length c2)) := hb03.trans (hOn.below hb03.size (fun k e => by omega))
  have hs4 : (((w2.setCell ⟨w.heap.size + 1 + 1, 1, none⟩ (.slice a2 F.ds.length c2)).setCell ⟨w.heap.size + 1, 0, none⟩ (.slice a1 F.ns.length c1)).setCell ⟨w.heap.size + 1, 1, none⟩ (.slice a2 F.ds.length c2)).heap.size = w2.heap.size := by simp [World.setCell]
  have HS4 : Hid _ := hs4
  have hc1 := hV2.cell 1
  have hf1 := hV2.frozen 1
  have hd0 := hV3.cell 0
  have hd1 := hV3.cell 1
  have hr0 := hR3.cell 0
  have hr1 := hR4.cell 1
  have hg0 := hR3.frozen 0
  have hg1 := hR4.frozen 1
  clear ho12 ho2' hb03 hV2 hV3 hR2 hR3 hR4 hR5 hOn hhi hs4
  simp at hc1 hd0 hd1 hr0 hr1
  go_wp2
  refine bodyPost_ret (results_cell_row rfl _ _ (w.heap.size + 1) 31 #[.slice a1 F.ns.length c1, .slice a2 F.ds.length c2] (0, 0) _ rfl HR5.out Try.underlying31 rfl Try.sizeFs) rfl ?_
  exact ⟨_, rfl, by rw [HS4.out]; exact E1.out, hb04⟩

set_option maxRecDepth 20000 in
set_option maxHeartbeats 1000000 in
theorem eqNodes (a c : Option Addr) (ca cc : Nat) (l : List NodeD) (w : World) (hl : l.length ≤ 4194304) (hs2 : ∀ n ∈ l, n.b.length ≤ 4194304) (hr : RdNs w a l) (hs : RdNs w c l) :
    Calls Try.prog 28 #[.slice a l.length ca, .slice c l.length cc] w fun e w' => e = .returned (.bool true) ∧ Below w.heap.size w w' := by
  have HCS : Hid (∀ k (hk : k < l.length), ∃ b off u, a = some ⟨b, off, none⟩ ∧ b < w.heap.size ∧ RdU w u l[k].b ∧ NodeAt w b (off + k * 5) l[k] u) := fun k hk => hr.at k hk
  have HDS : Hid (∀ k (hk : k < l.length), ∃ b off u, c = some ⟨b, off, none⟩ ∧ b < w.heap.size ∧ RdU w u l[k].b ∧ NodeAt w b (off + k * 5) l[k] u) := fun k hk => hs.at k hk
  have HSM : Hid (∀ n ∈ l, n.b.length ≤ 4194304) := hs2
  clear hr hs hs2
  go_enter Try.func28, Try.ntmps28
  go_wp2
  go_loopw [5] (fun i wr => ∃ k : Nat, k ≤ l.length ∧ i = .int .i64 k ∧ Below w.heap.size w wr) (fun i _ => l.length - (intOf i).toNat)
  case atStart => exact ⟨0, Nat.zero_le _, rfl, Below.refl _ _⟩
  case round =>
    obtain ⟨k, hk, rfl, hbel⟩ := hrel
    by_cases hlt : k < l.length
    · obtain ⟨b, off, u, rfl, hblt, hru, c0, c1, c2, c3, c4⟩ := HCS.out k hlt
      obtain ⟨b', off', u', rfl, hblt', hru', c0', c1', c2', c3', c4'⟩ := HDS.out k hlt
      have d0 := (hbel.cell (p := ⟨b, off + k * 5, none⟩) hblt).trans c0
      have d1 := (hbel.cell (p := ⟨b, off + k * 5 + 1, none⟩) hblt).trans c1
      have d2 := (hbel.cell (p := ⟨b, off + k * 5 + 2, none⟩) hblt).trans c2
      have d3 := (hbel.cell (p := ⟨b, off + k * 5 + 3, none⟩) hblt).trans c3
      have d4 := (hbel.cell (p := ⟨b, off + k * 5 + 4, none⟩) hblt).trans c4
      have e0 := (hbel.cell (p := ⟨b', off' + k * 5, none⟩) hblt').trans c0'
      have e1 := (hbel.cell (p := ⟨b', off' + k * 5 + 1, none⟩) hblt').trans c1'
      have e2 := (hbel.cell (p := ⟨b', off' + k * 5 + 2, none⟩) hblt').trans c2'
      have e3 := (hbel.cell (p := ⟨b', off' + k * 5 + 3, none⟩) hblt').trans c3'
      have e4 := (hbel.cell (p := ⟨b', off' + k * 5 + 4, none⟩) hblt').trans c4'
      have HE : Hid (Calls Try.prog 54 #[.agg #[.int .i64 l[k].k, .int .i64 l[k].g, .int .i64 l[k].t, .int .i64 l[k].s, u], .agg #[.int .i64 l[k].k, .int .i64 l[k].g, .int .i64 l[k].t, .int .i64 l[k].s, u']] wr.drew fun e w' => e = .returned (.bool true) ∧ Below wr.drew.heap.size wr.drew w') :=
        eqNodeW _ _ l[k] _ (HSM.out _ (List.getElem_mem hlt)) (hru.below hbel.drew (Nat.le_refl _)).node (hru'.below hbel.drew (Nat.le_refl _)).node
      clear c0 c1 c2 c3 c4 c0' c1' c2' c3' c4' hru hru'
      generalize l[k].k = y0 at *
      generalize l[k].g = y1 at *
      generalize l[k].t = y2 at *
      generalize l[k].s = y3 at *
      go_wp2
      go_region_with (go_at_call 54; refine HE.out.mono ?_; rintro e w2 ⟨rfl, hb2⟩)
      all_goals
        have hb3 : Below w.heap.size w w2 := hbel.drew.trans (hb2.mono hbel.size)
        go_wp2
        go_roundw
        case rel => exact ⟨k + 1, by omega, by go_num, hb3⟩
        case measure => simp [intOf]; omega
    · go_wp2
      go_ret
      exact ⟨rfl, hbel⟩

set_option maxRecDepth 20000 in
set_option maxHeartbeats 400000 in
theorem eqFsW (v u : Value) (F : FsD) (w : World) (hl : SmF F) (hr : RdFs w v F) (hs : RdFs w u F) :
    Calls Try.prog 11 #[v, u] w fun e w' => e = .returned (.bool true) ∧ Below w.heap.size w w' := by
  obtain ⟨a, ca, b, cb, rfl, _, r1, r2⟩ := hr
  obtain ⟨a', ca', b', cb', rfl, _, r1', r2'⟩ := hs
  have HR : Hid (RdNs w a F.ns ∧ RdS w b F.ds ∧ RdNs w a' F.ns ∧ RdS w b' F.ds) := ⟨r1, r2, r1', r2'⟩
  obtain ⟨hl1, hl2, hl3, _⟩ := hl
  have HL2 : Hid (∀ n ∈ F.ns, n.b.length ≤ 4194304) := fun n hn => by have := hl2 n hn; omega
  clear r1 r2 r1' r2' hl2
  go_enter Try.func11, Try.ntmps11
  go_wp2_with fail
  refine (eqNodes _ _ _ _ F.ns _ (by omega) HL2.out (HR.out.1.below (below2 _ _ _) (Nat.le_refl _)) (HR.out.2.2.1.below (below2 _ _ _) (Nat.le_refl _))).mono ?_
  rintro e w1 ⟨rfl, hb1⟩
  have hX : Var w1 w.heap.size #[.slice a F.ns.length ca, .slice b F.ds.length cb] 31 := ((Var.made w _ _).alloc _).new hb1
  have hY : Var w1 (w.heap.size + 1) #[.slice a' F.ns.length ca', .slice b' F.ds.length cb'] 31 := (Var.made2 w _ _ _).new hb1
  have hb01 : Below w.heap.size w w1 := (below2 w _ _).trans (hb1.mono (by simp; omega))
  have hx1 := hX.cell 1
  have hy1 := hY.cell 1
  clear hX hY hb1
  simp at hx1 hy1
  go_wp2_with fail
  refine (eqS _ _ _ _ F.ds _ (by omega) (HR.out.2.1.below hb01 (Nat.le_refl _)) (HR.out.2.2.2.below hb01 (Nat.le_refl _))).mono ?_
  rintro e w2 ⟨rfl, hb2⟩
  go_wp2
  go_ret
  exact ⟨rfl, hb01.trans (hb2.mono hb01.size)⟩
end Go.Proofs.Ytioecnfgliponaa
