/-
  Own text: what differs between two branches, as both programs tell it.
-/
import Derived.Test.YtjbeonicbcihlaaBlkX
import Derived.Deep.RegionHeld3
namespace Go.Proofs.Ytjbeonicbcihlaa
open Go.RowKit

theorem srcPut {W : World} (n : Int) (s : ByteArray) : Src Try.prog 2 43 (.slice (some ⟨W.heap.size, 0, none⟩) 1 1) 1 ([((n, s) : PutD)].flatMap encP) (W.alloc (.cells #[.int .i64 n, .string s] 75)) := by
  refine Src.ofSlice _ Try.underlying43 ⟨W.heap.size, 0, none⟩ 1 1 [.int .i64 n, .string s] rfl ?_ (fun x hx => by simp at hx; rcases hx with rfl | rfl <;> rfl)
  intro j x hj
  obtain ⟨hj1, rfl⟩ := List.getElem?_eq_some_iff.1 hj
  rw [Go.WideShapes.add_plain, Nat.zero_add]
  match j, hj1 with
  | 0, _ => exact (Var.made W #[.int .i64 n, .string s] 75).cell 0
  | 1, _ => exact (Var.made W #[.int .i64 n, .string s] 75).cell 1
theorem diffL_same {X Y : List ByteArray} {k : Nat} (h1 : k < X.length) (h2 : k < Y.length) (h : X[k] = Y[k]) : diffL X Y (k + 1) = diffL X Y k := by
  rw [diffL, List.getElem?_eq_getElem h1, List.getElem?_eq_getElem h2]
  simp only
  rw [if_pos h, List.append_nil]
theorem diffL_other {X Y : List ByteArray} {k : Nat} (h1 : k < X.length) (h2 : k < Y.length) (h : ¬ X[k] = Y[k]) : diffL X Y (k + 1) = diffL X Y k ++ [((k : Int), Y[k])] := by
  rw [diffL, List.getElem?_eq_getElem h1, List.getElem?_eq_getElem h2]
  simp only
  rw [if_neg h]
theorem diffL_len (X Y : List ByteArray) (k : Nat) : (diffL X Y k).length ≤ k := by
  induction k with
  | zero => simp [diffL]
  | succ k ih =>
    rw [diffL, List.length_append]
    split
    · split <;> simp <;> omega
    · simp; omega
theorem diffF_len (A B : FsD) : (diffF A B).length ≤ 1048576 := by
  unfold diffF
  split
  · have h1 := diffL_len (fsBl A) (fsBl B) (fsBl A).length
    have h2 := fsBl_small A
    omega
  · simp
theorem fsBl_48 (F : FsD) : (fsBl F).length ≤ 48 := by
  by_cases h : ShapeP F
  · rw [fsBl_len h]
    have := h.1
    unfold CountP at this
    omega
  · rw [fsBl_no (shOk_no h)]; simp
theorem bytes_neD {a b : ByteArray} (h : ¬ a = b) : (a.toList == b.toList) = false := by
  rw [ByteArray.toList_eq, ByteArray.toList_eq]
  obtain ⟨⟨x⟩⟩ := a
  obtain ⟨⟨y⟩⟩ := b
  have : ¬ x = y := fun e => h (by rw [e])
  simpa using this
/-- Two rows of texts that are held against each other, and the row of writes that is put together. -/
structure DfInv (w W : World) (ux uy v : Value) (X Y : List ByteArray) (L : List PutD) : Prop where
  rx : W.ownsRow w.heap.size 9 1 ux X.length (X.map Value.string)
  ry : W.ownsRow w.heap.size 9 1 uy Y.length (Y.map Value.string)
  row : W.ownsRow w.heap.size 75 2 v L.length (L.flatMap encP)
  bel : Below w.heap.size w W
theorem DfInv.new {w W W' : World} {ux uy v : Value} {X Y : List ByteArray} {L : List PutD} (h : DfInv w W ux uy v X Y L) (hb : Below W.heap.size W W') : DfInv w W' ux uy v X Y L :=
  ⟨ownsRow_below h.rx hb (Nat.le_refl _), ownsRow_below h.ry hb (Nat.le_refl _), ownsRow_below h.row hb (Nat.le_refl _), h.bel.trans (hb.mono h.bel.size)⟩
theorem DfInv.drew {w W : World} {ux uy v : Value} {X Y : List ByteArray} {L : List PutD} (h : DfInv w W ux uy v X Y L) : DfInv w W.drew ux uy v X Y L := ⟨h.rx, h.ry, h.row, h.bel.drew⟩
theorem DfInv.drewN {w W : World} {ux uy v : Value} {X Y : List ByteArray} {L : List PutD} (h : DfInv w W ux uy v X Y L) (p : Nat) : DfInv w (W.drewN p) ux uy v X Y L := ⟨h.rx, h.ry, h.row, h.bel.trans ⟨rfl, rfl, rfl, Nat.le_refl _, fun _ _ => rfl⟩⟩
theorem DfInv.app {w W W' : World} {ux uy v v' : Value} {X Y : List ByteArray} {L M : List PutD} (h : DfInv w W ux uy v X Y L) (ho : W'.ownsRow w.heap.size 75 2 v' (L.length + M.length) (L.flatMap encP ++ M.flatMap encP)) (hg : W.grownBy W' v.ownBlock) : DfInv w W' ux uy v' X Y (L ++ M) := by
  refine ⟨own_only h.rx (Only.of_grown hg) (fun k hk e => own_apart h.rx h.row (by decide) k hk e), own_only h.ry (Only.of_grown hg) (fun k hk e => own_apart h.ry h.row (by decide) k hk e), ?_, h.bel.grown hg h.bel.size (fun j hj => (h.row.lt j hj).1)⟩
  rw [List.length_append, List.flatMap_append]
  exact ho
theorem DfInv.cells {w W : World} {ux uy v : Value} {X Y : List ByteArray} {L : List PutD} (h : DfInv w W ux uy v X Y L) : ∃ ax cx ay cy, ux = .slice ax X.length cx ∧ uy = .slice ay Y.length cy ∧ RdS W ax X ∧ RdS W ay Y := by
  obtain ⟨ax, cx, rfl, _, hx⟩ := own_rdS h.rx
  obtain ⟨ay, cy, rfl, _, hy⟩ := own_rdS h.ry
  exact ⟨ax, cx, ay, cy, rfl, rfl, hx, hy⟩
theorem DfInv.rds {w W : World} {ax ay : Option Addr} {n m cx cy : Nat} {v : Value} {X Y : List ByteArray} {L : List PutD} (h : DfInv w W (.slice ax n cx) (.slice ay m cy) v X Y L) : RdS W ax X ∧ RdS W ay Y := by
  obtain ⟨ax', cx', ay', cy', ex, ey, hx, hy⟩ := h.cells
  injection ex with ex1 _ _
  injection ey with ey1 _ _
  rw [ex1, ey1]
  exact ⟨hx, hy⟩

set_option maxRecDepth 20000 in
set_option maxHeartbeats 4000000 in
theorem specDiff (v u : Value) (A B : FsD) (w : World) (hs0 : szF A ≤ 1048576) (hs1 : szF B ≤ 1048576) (hr : RdFs w v A) (hs : RdFs w u B) :
    Calls Try.prog 30 #[v, u] w fun e w' => ∃ u0, e = .returned u0 ∧ OwnPt w' w.heap.size w'.heap.size u0 (diffF A B) ∧ Below w.heap.size w w' := by
  obtain ⟨i1, gi, gz0, gz1, gz2⟩ := info_parts Try.infoPut
  have HRA : Hid (∀ W, Below w.heap.size w W → RdFs W v A) := fun W h => hr.below h (Nat.le_refl _)
  have HRB : Hid (∀ W, Below w.heap.size w W → RdFs W u B) := fun W h => hs.below h (Nat.le_refl _)
  obtain ⟨a, ca, b, cb, rfl⟩ := hr.lay
  obtain ⟨a', ca', b', cb', rfl⟩ := hs.lay
  have HS0 : Hid (szF A ≤ 1048576) := hs0
  have HS1 : Hid (szF B ≤ 1048576) := hs1
  have hX48 := fsBl_48 A
  have hY48 := fsBl_48 B
  have HDF : Hid (diffF A B = if (fsBl A).length = (fsBl B).length then diffL (fsBl A) (fsBl B) (fsBl A).length else []) := rfl
  clear hr hs hs0 hs1
  have hb3 : Below w.heap.size w (((w.alloc (.cells #[.slice a A.ns.length ca, .slice b A.ds.length cb] 30)).alloc (.cells #[.slice a' B.ns.length ca', .slice b' B.ds.length cb'] 30)).alloc (.cells #[] 75)) := below3 _ _ _ _
  have ho3 : (((w.alloc (.cells #[.slice a A.ns.length ca, .slice b A.ds.length cb] 30)).alloc (.cells #[.slice a' B.ns.length ca', .slice b' B.ds.length cb'] 30)).alloc (.cells #[] 75)).ownsRow w.heap.size 75 2 (.slice (some ⟨w.heap.size + 1 + 1, 0, none⟩) 0 0) 0 [] := by
    have := World.ownsRow_made (e := 75) (size := 2) ((w.alloc (.cells #[.slice a A.ns.length ca, .slice b A.ds.length cb] 30)).alloc (.cells #[.slice a' B.ns.length ca', .slice b' B.ds.length cb'] 30)) #[] 0 (base := w.heap.size) (by simp; omega) (Nat.zero_le _) rfl
    simpa using this
  have hV0 : Var (((w.alloc (.cells #[.slice a A.ns.length ca, .slice b A.ds.length cb] 30)).alloc (.cells #[.slice a' B.ns.length ca', .slice b' B.ds.length cb'] 30)).alloc (.cells #[] 75)) (w.heap.size + 1) #[.slice a' B.ns.length ca', .slice b' B.ds.length cb'] 30 := (Var.made2 w _ _ _).alloc _
  go_enter Try.func30, Try.ntmps30
  go_wp2_with fail
  generalize ((w.alloc (.cells #[.slice a A.ns.length ca, .slice b A.ds.length cb] 30)).alloc (.cells #[.slice a' B.ns.length ca', .slice b' B.ds.length cb'] 30)).alloc (.cells #[] 75) = w3 at *
  refine (specFsBlocksX _ A _ HS0.out (HRA.out _ hb3)).mono ?_
  rintro e w4 ⟨ux, rfl, hox, hb4⟩
  have hV4 := hV0.new hb4
  have ho4 := ownsRow_below ho3 hb4 (Nat.le_refl _)
  have hb04 : Below w.heap.size w w4 := hb3.trans (hb4.mono hb3.size)
  have hx4 := ownsRow_base hox.1 hb3.size
  have y0 := hV4.cell 0
  have y1 := hV4.cell 1
  simp at y0 y1
  clear hV0 ho3 hb4 hb3 hox
  go_wp2_with fail
  refine (specFsBlocksX _ B _ HS1.out (HRB.out _ hb04)).mono ?_
  rintro e w5 ⟨uy, rfl, hoy, hb5⟩
  have HI5 : DfInv w w5 ux uy (.slice (some ⟨w.heap.size + 1 + 1, 0, none⟩) 0 0) (fsBl A) (fsBl B) [] := ⟨ownsRow_below hx4 hb5 (Nat.le_refl _), ownsRow_base hoy.1 hb04.size, ownsRow_below ho4 hb5 (Nat.le_refl _), hb04.trans (hb5.mono hb04.size)⟩
  clear hV4 ho4 hb5 hb04 hx4 hoy y0 y1 HRA HRB
  obtain ⟨ax, cx, ay, cy, rfl, rfl, _, _⟩ := HI5.cells
  generalize fsBl A = X at *
  generalize fsBl B = Y at *
  by_cases hne : X.length = Y.length
  rotate_left
  · have HF : Hid (diffF A B = []) := by show _ = _; rw [HDF.out, if_neg hne]
    have hne' : ¬ (X.length : Int) = (Y.length : Int) := by omega
    have hne2 : ((X.length : Int) == (Y.length : Int)) = false := by simpa using hne'
    have HO : Hid (OwnPt w5 w.heap.size w5.heap.size (.slice (some ⟨w.heap.size + 1 + 1, 0, none⟩) 0 0) (diffF A B)) := by show OwnPt _ _ _ _ _; rw [HF.out]; exact OwnPt.of HI5.row
    have hb := HI5.bel
    clear HI5 HDF
    go_wp2
    go_ret
    exact ⟨_, rfl, HO.out, hb⟩
  have HF : Hid (diffF A B = diffL X Y X.length) := by show _ = _; rw [HDF.out, if_pos hne]
  have HNE : Hid (X.length = Y.length) := hne
  have hv : (Value.slice ay Y.length cy) = .slice ay X.length cy := by rw [hne]
  have HI0 : Hid (DfInv w w5 (.slice ax X.length cx) (.slice ay X.length cy) (.slice (some ⟨w.heap.size + 1 + 1, 0, none⟩) 0 0) X Y (diffL X Y 0)) := hv ▸ HI5
  rw [hv]
  clear HDF HI5 hne hv hY48
  go_wp2
  go_loopw [5, 8] (fun v i wr => ∃ k : Nat, k ≤ X.length ∧ i = .int .i64 k ∧ Hid (DfInv w wr (.slice ax X.length cx) (.slice ay X.length cy) v X Y (diffL X Y k))) (fun _ i _ => X.length - (intOf i).toNat)
  case atStart => exact ⟨0, Nat.zero_le _, rfl, HI0⟩
  case round =>
    clear HI0
    obtain ⟨k, hk, rfl, HI⟩ := hrel
    have hdl := diffL_len X Y k
    by_cases hlt : k < X.length
    · have hlt2 : k < Y.length := by have := HNE.out; omega
      obtain ⟨hrx, hry⟩ := HI.out.rds
      obtain ⟨gx, ox, rfl, _, hcx⟩ := hrx.cellT k hlt
      obtain ⟨gy, oy, rfl, _, hcy⟩ := hry.cellT k hlt2
      have HSM : Hid (X[k] = Y[k] → diffL X Y (k + 1) = diffL X Y k) := diffL_same hlt hlt2
      have HOT : Hid (¬ X[k] = Y[k] → diffL X Y (k + 1) = diffL X Y k ++ [((k : Int), Y[k])]) := diffL_other hlt hlt2
      clear hrx hry
      generalize X[k] = xs at *
      generalize Y[k] = ys at *
      have j0 : (0 : Int) ≤ (k : Int) := by omega
      have j1 : (k : Int) < (X.length : Int) := by omega
      by_cases hq : xs = ys
      · have HI2 : Hid (∀ p, DfInv w (wr.drewN p) (.slice (some ⟨gx, ox, none⟩) X.length cx) (.slice (some ⟨gy, oy, none⟩) X.length cy) u5 X Y (diffL X Y (k + 1))) := by intro p; rw [HSM.out hq]; exact HI.out.drewN p
        subst hq
        clear HI HSM HOT
        go_wp2
        go_quiet (fail)
        go_wp2
        go_roundw
        case rel => exact ⟨k + 1, by omega, by go_num, HI2.out _⟩
        case measure => simp [intOf]; omega
      · have hql := bytes_neD hq
        have HEQ2 : Hid (diffL X Y (k + 1) = diffL X Y k ++ [((k : Int), ys)]) := HOT.out hq
        have HI3 : Hid (∀ p, DfInv w (wr.drewN p) (.slice (some ⟨gx, ox, none⟩) X.length cx) (.slice (some ⟨gy, oy, none⟩) X.length cy) u5 X Y (diffL X Y k)) := fun p => HI.out.drewN p
        have HCY : Hid (∀ p, (wr.drewN p).cell? ⟨gy, oy + k, none⟩ = some (.string ys)) := fun p => hcy
        clear HI HSM HOT hq
        go_wp2
        go_quiet (fail)
        clear hcx hcy
        generalize hW6 : wr.drewN _ = W6
        have HI6 : DfInv w W6 (.slice (some ⟨gx, ox, none⟩) X.length cx) (.slice (some ⟨gy, oy, none⟩) X.length cy) u5 X Y (diffL X Y k) := hW6 ▸ HI3.out _
        have hcy6 : W6.cell? ⟨gy, oy + k, none⟩ = some (.string ys) := hW6 ▸ HCY.out _
        have hI7 := HI6.new (below1 W6 (.cells #[.int .i64 (k : Int), .string ys] 75))
        have HS7 : Hid (Src Try.prog 2 43 (.slice (some ⟨W6.heap.size, 0, none⟩) 1 1) 1 ([(((k : Int), ys) : PutD)].flatMap encP) (W6.alloc (.cells #[.int .i64 (k : Int), .string ys] 75))) := srcPut _ _
        have ho7 := hI7.row
        clear hW6 HI3 HCY HI6
        go_wp2_with (at_builtin; refine wpList_append_own_src _ rfl (.tmp 35) (.tmp 42) 43 43 rfl w.heap.size 75 i1 (.agg #[.int .i64 0, .string ⟨#[]⟩]) 2 24 Try.underlying43 gi gz0 gz1 gz2 rfl _ _ _ rfl ho7 _ 1 ([(((k : Int), ys) : PutD)].flatMap encP) rfl HS7.out (by unfold maxLen; omega) (by omega) hI7.bel.size ?_)
        intro v8 w8 ho8 hg8
        have HI8 : Hid (DfInv w w8 (.slice (some ⟨gx, ox, none⟩) X.length cx) (.slice (some ⟨gy, oy, none⟩) X.length cy) v8 X Y (diffL X Y (k + 1))) := by show DfInv _ _ _ _ _ _ _ _; rw [HEQ2.out]; exact hI7.app ho8 hg8
        clear hI7 HS7 ho7 ho8 hg8 hcy6 HEQ2
        go_wp2
        go_roundw
        case rel => exact ⟨k + 1, by omega, by go_num, HI8⟩
        case measure => simp [intOf]; omega
    · obtain rfl : k = X.length := by omega
      have HO : Hid (OwnPt wr w.heap.size wr.heap.size u5 (diffF A B)) := by show OwnPt _ _ _ _ _; rw [HF.out]; exact OwnPt.of HI.out.row
      have hb := HI.out.bel
      clear HI
      go_wp2
      go_ret
      exact ⟨_, rfl, HO.out, hb⟩

set_option maxRecDepth 20000 in
set_option maxHeartbeats 4000000 in
theorem implDiff (v u : Value) (A B : FsD) (w : World) (hs0 : szF A ≤ 1048576) (hs1 : szF B ≤ 1048576) (hr : RdFs w v A) (hs : RdFs w u B) :
    Calls Try.prog 31 #[v, u] w fun e w' => ∃ u0, e = .returned u0 ∧ OwnPt w' w.heap.size w'.heap.size u0 (diffF A B) ∧ Below w.heap.size w w' := by
  obtain ⟨i1, gi, gz0, gz1, gz2⟩ := info_parts Try.infoPut
  have HRA : Hid (∀ W, Below w.heap.size w W → RdFs W v A) := fun W h => hr.below h (Nat.le_refl _)
  have HRB : Hid (∀ W, Below w.heap.size w W → RdFs W u B) := fun W h => hs.below h (Nat.le_refl _)
  obtain ⟨a, ca, b, cb, rfl⟩ := hr.lay
  obtain ⟨a', ca', b', cb', rfl⟩ := hs.lay
  have HS0 : Hid (szF A ≤ 1048576) := hs0
  have HS1 : Hid (szF B ≤ 1048576) := hs1
  have hX48 := fsBl_48 A
  have hY48 := fsBl_48 B
  have HDF : Hid (diffF A B = if (fsBl A).length = (fsBl B).length then diffL (fsBl A) (fsBl B) (fsBl A).length else []) := rfl
  clear hr hs hs0 hs1
  have hb3 : Below w.heap.size w ((w.alloc (.cells #[.slice a A.ns.length ca, .slice b A.ds.length cb] 30)).alloc (.cells #[.slice a' B.ns.length ca', .slice b' B.ds.length cb'] 30)) := below2 _ _ _
  have hV0 : Var ((w.alloc (.cells #[.slice a A.ns.length ca, .slice b A.ds.length cb] 30)).alloc (.cells #[.slice a' B.ns.length ca', .slice b' B.ds.length cb'] 30)) (w.heap.size + 1) #[.slice a' B.ns.length ca', .slice b' B.ds.length cb'] 30 := Var.made2 w _ _ _
  have hU0 : Var ((w.alloc (.cells #[.slice a A.ns.length ca, .slice b A.ds.length cb] 30)).alloc (.cells #[.slice a' B.ns.length ca', .slice b' B.ds.length cb'] 30)) w.heap.size #[.slice a A.ns.length ca, .slice b A.ds.length cb] 30 := (Var.made w _ _).alloc _
  go_enter Try.func31, Try.ntmps31
  go_wp2_with fail
  generalize (w.alloc (.cells #[.slice a A.ns.length ca, .slice b A.ds.length cb] 30)).alloc (.cells #[.slice a' B.ns.length ca', .slice b' B.ds.length cb'] 30) = w3 at *
  have HV0 : Hid (Var w3 (w.heap.size + 1) #[.slice a' B.ns.length ca', .slice b' B.ds.length cb'] 30) := hV0
  have HU0 : Hid (Var w3 w.heap.size #[.slice a A.ns.length ca, .slice b A.ds.length cb] 30) := hU0
  have y0 := hV0.cell 0
  have y1 := hV0.cell 1
  have z0 := hU0.cell 0
  have z1 := hU0.cell 1
  simp at y0 y1 z0 z1
  have HT6 : Hid (Calls Try.prog 20 #[.agg #[.slice a A.ns.length ca, .slice b A.ds.length cb]] w3.drew fun e w' => ∃ u, e = .returned u ∧ OwnTx w' w3.heap.size w'.heap.size u (fsBl A) ∧ Below w3.heap.size w3 w') := by
    refine (implFsBlocksX _ A w3.drew HS0.out (HRA.out _ hb3.drew)).mono ?_
    rintro e w' ⟨u, rfl, h1, h2⟩
    exact ⟨u, rfl, h1, ⟨h2.os, h2.tape, h2.output, h2.size, h2.block⟩⟩
  clear hV0 hU0
  go_region_held3 (fun W => W.cell? ⟨w.heap.size, 0, none⟩ = some (.slice a A.ns.length ca) ∧ W.cell? ⟨w.heap.size, 1, none⟩ = some (.slice b A.ds.length cb) ∧ W.cell? ⟨w.heap.size + 1, 0, none⟩ = some (.slice a' B.ns.length ca') ∧ W.cell? ⟨w.heap.size + 1, 1, none⟩ = some (.slice b' B.ds.length cb')) (go_keep) (first
    | (go_at_call_of 20 (cb')
       refine (implFsBlocksX _ B _ HS1.out (HRB.out _ (hb3.trans (hbp.mono hb3.size)))).mono ?_
       rintro e w5 ⟨uy, rfl, hoy, hbq⟩
       have hbp2 : Below w3.heap.size w3 w5 := hbp.trans (hbq.mono hbp.size)
       have hzz : w3.heap.size ≤ w4.heap.size := hbp.size
       have hox2 := hox.below hbq
       obtain ⟨ht0, ht1, ht2, ht3⟩ : w5.cell? ⟨w.heap.size, 0, none⟩ = some (.slice a A.ns.length ca) ∧ w5.cell? ⟨w.heap.size, 1, none⟩ = some (.slice b A.ds.length cb) ∧ w5.cell? ⟨w.heap.size + 1, 0, none⟩ = some (.slice a' B.ns.length ca') ∧ w5.cell? ⟨w.heap.size + 1, 1, none⟩ = some (.slice b' B.ds.length cb') := ⟨(HU0.out.new hbp2).cell 0, (HU0.out.new hbp2).cell 1, (HV0.out.new hbp2).cell 0, (HV0.out.new hbp2).cell 1⟩
       clear hu0 hu1 hu2 hu3 hox hbp hbq)
    | (go_at_call_of 20 (cb)
       refine HT6.out.mono ?_
       rintro e w4 ⟨ux, rfl, hox, hbp⟩
       obtain ⟨hu0, hu1, hu2, hu3⟩ : w4.cell? ⟨w.heap.size, 0, none⟩ = some (.slice a A.ns.length ca) ∧ w4.cell? ⟨w.heap.size, 1, none⟩ = some (.slice b A.ds.length cb) ∧ w4.cell? ⟨w.heap.size + 1, 0, none⟩ = some (.slice a' B.ns.length ca') ∧ w4.cell? ⟨w.heap.size + 1, 1, none⟩ = some (.slice b' B.ds.length cb') := ⟨(HU0.out.new hbp).cell 0, (HU0.out.new hbp).cell 1, (HV0.out.new hbp).cell 0, (HV0.out.new hbp).cell 1⟩
       skip))
  all_goals
    have HI5 : DfInv w w5 ux uy (.slice none 0 0) (fsBl A) (fsBl B) [] := ⟨ownsRow_base hox2.1 hb3.size, ownsRow_base hoy.1 (Nat.le_trans hb3.size hzz), World.ownsRow_nil _ _ _ _, hb3.trans (hbp2.mono hb3.size)⟩
    clear ht0 ht1 ht2 ht3 hox2 hoy hbp2 hzz HT6 HV0 HU0 y0 y1 z0 z1 hb3 HRA HRB
    obtain ⟨ax, cx, ay, cy, rfl, rfl, _, _⟩ := HI5.cells
    generalize fsBl A = X at *
    generalize fsBl B = Y at *
    by_cases hne : X.length = Y.length
    rotate_left
    · have HF : Hid (diffF A B = []) := by show _ = _; rw [HDF.out, if_neg hne]
      have hne' : ¬ (X.length : Int) = (Y.length : Int) := by omega
      have hne2 : ((X.length : Int) == (Y.length : Int)) = false := by simpa using hne'
      have HO : Hid (OwnPt w5 w.heap.size w5.heap.size (.slice none 0 0) (diffF A B)) := by show OwnPt _ _ _ _ _; rw [HF.out]; exact OwnPt.of HI5.row
      have hb := HI5.bel
      clear HI5 HDF
      go_wp2
      go_ret
      exact ⟨_, rfl, HO.out, hb⟩
    have HF : Hid (diffF A B = diffL X Y X.length) := by show _ = _; rw [HDF.out, if_pos hne]
    have HNE : Hid (X.length = Y.length) := hne
    have hv : (Value.slice ay Y.length cy) = .slice ay X.length cy := by rw [hne]
    have HI0 : Hid (DfInv w w5 (.slice ax X.length cx) (.slice ay X.length cy) (.slice none 0 0) X Y (diffL X Y 0)) := hv ▸ HI5
    rw [hv]
    clear HDF HI5 hne hv hY48
    go_wp2
    go_loopw [7, 8, 9, 21] (fun v _ _ i wr => ∃ k : Nat, k ≤ X.length ∧ i = .int .i64 k ∧ Hid (DfInv w wr (.slice ax X.length cx) (.slice ay X.length cy) v X Y (diffL X Y k))) (fun _ _ _ i _ => X.length - (intOf i).toNat)
    case atStart => exact ⟨0, Nat.zero_le _, rfl, HI0⟩
    case round =>
      clear HI0
      obtain ⟨k, hk, rfl, HI⟩ := hrel
      have hdl := diffL_len X Y k
      by_cases hlt : k < X.length
      · have hlt2 : k < Y.length := by have := HNE.out; omega
        obtain ⟨hrx, hry⟩ := HI.out.rds
        obtain ⟨gx, ox, rfl, _, hcx⟩ := hrx.cellT k hlt
        obtain ⟨gy, oy, rfl, _, hcy⟩ := hry.cellT k hlt2
        have HSM : Hid (X[k] = Y[k] → diffL X Y (k + 1) = diffL X Y k) := diffL_same hlt hlt2
        have HOT : Hid (¬ X[k] = Y[k] → diffL X Y (k + 1) = diffL X Y k ++ [((k : Int), Y[k])]) := diffL_other hlt hlt2
        clear hrx hry
        generalize X[k] = xs at *
        generalize Y[k] = ys at *
        have j0 : (0 : Int) ≤ (k : Int) := by omega
        have j1 : (k : Int) < (X.length : Int) := by omega
        by_cases hq : xs = ys
        · have HI2 : Hid (DfInv w wr (.slice (some ⟨gx, ox, none⟩) X.length cx) (.slice (some ⟨gy, oy, none⟩) X.length cy) u7 X Y (diffL X Y (k + 1))) := by show DfInv _ _ _ _ _ _ _ _; rw [HSM.out hq]; exact HI.out
          subst hq
          clear HI HSM HOT
          go_wp2
          go_roundw
          case rel => exact ⟨k + 1, by omega, by go_num, HI2⟩
          case measure => simp [intOf]; omega
        · have hql := bytes_neD (fun e => hq (e.symm) : ¬ ys = xs)
          have HEQ2 : Hid (diffL X Y (k + 1) = diffL X Y k ++ [((k : Int), ys)]) := HOT.out hq
          have hI7 := HI.out.new (below1 wr (.cells #[.int .i64 (k : Int), .string ys] 75))
          have HS7 : Hid (Src Try.prog 2 43 (.slice (some ⟨wr.heap.size, 0, none⟩) 1 1) 1 ([(((k : Int), ys) : PutD)].flatMap encP) (wr.alloc (.cells #[.int .i64 (k : Int), .string ys] 75))) := srcPut _ _
          have ho7 := hI7.row
          clear HI HSM HOT hq
          go_wp2_with (at_builtin; refine wpList_append_own_src _ rfl (.tmp 32) (.tmp 36) 43 43 rfl w.heap.size 75 i1 (.agg #[.int .i64 0, .string ⟨#[]⟩]) 2 24 Try.underlying43 gi gz0 gz1 gz2 rfl _ _ _ rfl ho7 _ 1 ([(((k : Int), ys) : PutD)].flatMap encP) rfl HS7.out (by unfold maxLen; omega) (by omega) hI7.bel.size ?_)
          intro v8 w8 ho8 hg8
          have HI8 : Hid (DfInv w w8 (.slice (some ⟨gx, ox, none⟩) X.length cx) (.slice (some ⟨gy, oy, none⟩) X.length cy) v8 X Y (diffL X Y (k + 1))) := by show DfInv _ _ _ _ _ _ _ _; rw [HEQ2.out]; exact hI7.app ho8 hg8
          clear hI7 HS7 ho7 ho8 hg8 HEQ2
          go_wp2
          go_roundw
          case rel => exact ⟨k + 1, by omega, by go_num, HI8⟩
          case measure => simp [intOf]; omega
      · obtain rfl : k = X.length := by omega
        have HO : Hid (OwnPt wr w.heap.size wr.heap.size u7 (diffF A B)) := by show OwnPt _ _ _ _ _; rw [HF.out]; exact OwnPt.of HI.out.row
        have hb := HI.out.bel
        clear HI
        go_wp2
        go_ret
        exact ⟨_, rfl, HO.out, hb⟩
end Go.Proofs.Ytjbeonicbcihlaa
