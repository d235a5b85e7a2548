/-
  Own text: which node a text tells, as the other program reads it.
-/
import Derived.Test.YtaabcfgjmankgaaDoorNodeB
import Derived.Test.YtaabcfgjmankgaaDoorBunW
import Derived.Test.YtaabcfgjmankgaaDoorSNodeTW
import Derived.Test.YtaabcfgjmankgaaDoorSpecGetW
import Derived.Test.YtaabcfgjmankgaaDoorINodeTW
namespace Go.Proofs.YtaabcfgjmankgaaDoor
open Go.RowKit

theorem src_oneI {P : Program} {t e e' : TypeId} (ht : P.underlying t = some (.slice e')) (W : World) (u : Value) (h1 : u.oneCell' = true) : Src P 1 t (.slice (some ⟨W.heap.size, 0, none⟩) 1 1) 1 [u] (W.alloc (.cells #[u] e)) := by
  refine Src.ofSlice _ ht ⟨W.heap.size, 0, none⟩ 1 1 [u] rfl (fun j v hj => ?_) (fun v hv => by simp at hv; subst hv; exact h1)
  have hj0 : j = 0 := by
    rcases Nat.eq_zero_or_pos j with h | h
    · exact h
    · rw [List.getElem?_eq_none (by simp; omega)] at hj; cases hj
  subst hj0
  simp at hj
  subst hj
  rw [Go.WideShapes.add_plain]
  exact (Var.made W #[u] e).cell 0

/-- A row of numbers, cut from its fourth one on. -/
theorem cut3 (g cr L : Nat) (hL : 3 ≤ L) (hc : L ≤ cr) : ∃ o c', (∀ W : World, (Instr.slice 34 (.slice (some ⟨g, 0, none⟩) L cr) (some (.int .i64 3)) none none).run Tryd.prog W = .ok (.slice (some ⟨g, o, none⟩) (L - 3) c') W) ∧ (L - 3 = 0 ∨ o = 3) := by
  have hs : ∀ W : World, (sizeOf 3).run Tryd.prog W = .ok 1 W := fun W => by
    obtain ⟨i, hi, hz0, hz1, hz2⟩ := info_parts Tryd.infoInt
    simp [sizeOf, typeInfo, hi, hz1]
  have hsz : ∀ W : World, (sizeOf (Tryd.prog.elem 34)).run Tryd.prog W = .ok 1 W := fun W => by
    have he : Tryd.prog.elem 34 = 3 := by kernel_rfl
    rw [he]
    exact hs W
  have hel : Tryd.prog.underlying 34 = some (.slice (Tryd.prog.elem 34)) := by kernel_rfl
  by_cases h : cr = 3
  · refine ⟨0, 0, fun W => ?_, .inl (by omega)⟩
    have e := run_slice_l W 34 (some ⟨g, 0, none⟩) L cr hel .i64 3 (by omega) (by omega)
    rw [e, hsz]
    subst h
    simp [sliced]
  · refine ⟨3, cr - 3, fun W => ?_, .inr rfl⟩
    have e := run_slice_l W 34 (some ⟨g, 0, none⟩) L cr hel .i64 3 (by omega) (by omega)
    rw [e, hsz]
    simp [sliced, h, Addr.add]
set_option maxRecDepth 20000 in
set_option maxHeartbeats 4000000 in
theorem specNodeOf (s : ByteArray) (w : World) (hs : s.size ≤ 1048576) :
    Calls Tryd.prog 14 #[.string s] w fun e w' => ∃ v, e = .returned (.tuple #[v, .bool (ofOk s)]) ∧ OwnN w' w.heap.size v (ofN s) ∧ Below w.heap.size w w' := by
  obtain ⟨i1, ii, iz0, iz1, iz2⟩ := info_parts Tryd.infoInt
  obtain ⟨cap, W, hcv, hrd, hbW, hlW, hc1, hc2⟩ := bytes_rowN s (w.alloc (.cells zeroC 36)) hs
  rw [show (w.alloc (.cells zeroC 36)).heap.size = w.heap.size + 1 by simp] at hcv hrd hbW hlW
  have hbl := bytesOf_len s
  have hu := bytesOf_u8 s
  have HNO : Hid ((∀ n, ¬ OfP (bytesOf s) n) → ofN s = zeroN ∧ ofOk s = false) := of_no
  have HYE : Hid (∀ n, OfP (bytesOf s) n → ofN s = n ∧ ofOk s = true) := fun _ => of_yes
  have hl : (bytesOf s).length ≤ 1048576 := by omega
  clear hbl hc1 hc2
  generalize bytesOf s = b at *
  have hR0 : Var W w.heap.size zeroC 36 := (Var.made w _ _).below hbW (by omega)
  have hbw : Below w.heap.size w W := (below1 w _).trans (hbW.mono (by omega))
  have HRD : Hid (∀ W', Below W.heap.size W W' → Rd .u8 W' (some ⟨w.heap.size + 1, 0, none⟩) b) := fun W' h => hrd.below h (Nat.le_refl _)
  have HU : Hid (U8 b) := hu
  have HC0 : Hid (0 < b.length → W.cell? ⟨w.heap.size + 1, 0, none⟩ = some (.int .u8 (b.getD 0 0))) := by
    intro h
    rcases hrd with h0 | ⟨g, off, he, _, hc⟩
    · rw [h0] at h; simp at h
    · cases he
      have := hc 0 h
      rwa [Nat.zero_add] at this
  have HGN : Hid (∀ W' (p : Nat), Below W.heap.size W W' → p ≤ 1048581 → Calls Tryd.prog 27 #[.slice (some ⟨w.heap.size + 1, 0, none⟩) b.length cap, .int .i64 (p : Int)] W' fun e w' => ((∃ n next, Good b (p : Int) n next ∧ e = .returned (.tuple #[.int .i64 (n : Nat), .int .i64 (next : Nat), .bool true])) ∨ ((∀ n next, ¬ Good b (p : Int) n next) ∧ e = .returned (.tuple #[.int .i64 0, .int .i64 0, .bool false]))) ∧ w' = W') :=
    fun W' p h hp => specGetNum _ cap b (p : Int) W' (by omega) HU.out (HRD.out W' h) (by omega)
  clear hrd hu hbW
  by_cases h0 : b.length = 0
  · have HE : Hid (ofN s = zeroN ∧ ofOk s = false) := HNO.out (no_kind h0)
    have h01 : ((b.length : Nat) : Int) = 0 := by omega
    obtain ⟨hR9, r0, r1, r2, r3, r4, q0, q1, q2, q3, q4⟩ := hR0.five (.int .i64 0) (.int .i64 0) (.int .i64 0) (.int .i64 0) (.slice none 0 0)
    have HR9 : Hid (Var (five W w.heap.size (.int .i64 0) (.int .i64 0) (.int .i64 0) (.int .i64 0) (.slice none 0 0)) w.heap.size zeroC 36) := hR9
    have HB9 : Hid (Below w.heap.size w (five W w.heap.size (.int .i64 0) (.int .i64 0) (.int .i64 0) (.int .i64 0) (.slice none 0 0))) := below_five hbw (Nat.le_refl _) _ _ _ _ _
    clear hR9 hR0 hbw HGN HC0 HNO HYE
    go_enter Tryd.func14, Tryd.ntmps14
    go_wp2
    refine bodyPost_ret (res_row1 rfl _ _ w.heap.size 36 zeroC _ rfl HR9.out Tryd.underlying36 rfl Tryd.sizeNode) rfl ?_
    exact ⟨_, by rw [HE.out.2]; rfl, by rw [HE.out.1]; exact ⟨_, rfl, World.ownsRow_nil _ _ _ _⟩, HB9.out⟩
  have hc0 := HC0.out (by omega)
  have hk8 := HU.out.at 0
  have h01 : (0 : Int) < (b.length : Int) := by omega
  have h02 : (((b.length : Nat) : Int) == 0) = false := by rw [beq_eq_false_iff_ne]; omega
  clear HC0
  by_cases hk0 : b.getD 0 0 = 0
  · have HL : Hid (ofN s = zeroN ∧ ofOk s = decide (b.length = 1)) := by
      show _ ∧ _
      by_cases h1 : b.length = 1
      · have hb : b = ndB zeroN := by
          match b, h1 with
          | [x], _ => simp at hk0; subst hk0; rfl
        obtain ⟨e1, e2⟩ := HYE.out zeroN ⟨.inl rfl, hb⟩
        exact ⟨e1, by rw [e2, decide_eq_true h1]⟩
      · obtain ⟨e1, e2⟩ := HNO.out (no_free hk0 h1)
        exact ⟨e1, by rw [e2, decide_eq_false h1]⟩
    rw [hk0] at hc0
    have hRA := hR0.alloc (.cells zeroC 36)
    have hNA := Var.made W zeroC 36
    have x0 := hNA.cell 0
    have x1 := hNA.cell 1
    have x2 := hNA.cell 2
    have x3 := hNA.cell 3
    have x4 := hNA.cell 4
    simp at x0 x1 x2 x3 x4
    obtain ⟨hR9, r0, r1, r2, r3, r4, q0, q1, q2, q3, q4⟩ := hRA.five (.int .i64 0) (.int .i64 0) (.int .i64 0) (.int .i64 0) (.slice none 0 0)
    have hbA : Below w.heap.size w (W.alloc (.cells zeroC 36)) := hbw.alloc hbw.size _
    have HR9 : Hid (Var (five (W.alloc (.cells zeroC 36)) w.heap.size (.int .i64 0) (.int .i64 0) (.int .i64 0) (.int .i64 0) (.slice none 0 0)) w.heap.size zeroC 36) := hR9
    have HB9 : Hid (Below w.heap.size w (five (W.alloc (.cells zeroC 36)) w.heap.size (.int .i64 0) (.int .i64 0) (.int .i64 0) (.int .i64 0) (.slice none 0 0))) := below_five hbA (Nat.le_refl _) _ _ _ _ _
    clear hR9 hRA hNA hbA hR0 hbw HGN HNO HYE h0 hk0
    by_cases h1 : b.length = 1
    · have HL2 : Hid (ofN s = zeroN ∧ ofOk s = true) := by have := HL.out; rwa [decide_eq_true h1] at this
      have h11 : ((b.length : Nat) : Int) = 1 := by omega
      clear HL h1
      go_enter Tryd.func14, Tryd.ntmps14
      go_wp2
      refine bodyPost_ret (res_row1 rfl _ _ w.heap.size 36 zeroC _ rfl HR9.out Tryd.underlying36 rfl Tryd.sizeNode) rfl ?_
      exact ⟨_, by rw [HL2.out.2]; rfl, by rw [HL2.out.1]; exact ⟨_, rfl, World.ownsRow_nil _ _ _ _⟩, HB9.out⟩
    · have HL2 : Hid (ofN s = zeroN ∧ ofOk s = false) := by have := HL.out; rwa [decide_eq_false h1] at this
      have h11 : ¬ ((b.length : Nat) : Int) = 1 := by omega
      have h12 : (((b.length : Nat) : Int) == 1) = false := by simpa using h11
      clear HL h1
      go_enter Tryd.func14, Tryd.ntmps14
      go_wp2
      refine bodyPost_ret (res_row1 rfl _ _ w.heap.size 36 zeroC _ rfl HR9.out Tryd.underlying36 rfl Tryd.sizeNode) rfl ?_
      exact ⟨_, by rw [HL2.out.2]; rfl, by rw [HL2.out.1]; exact ⟨_, rfl, World.ownsRow_nil _ _ _ _⟩, HB9.out⟩
  have HK0 : Hid (b.getD 0 0 ≠ 0) := hk0
  obtain ⟨k, hk⟩ : ∃ k, b.getD 0 0 = k := ⟨_, rfl⟩
  have HK : Hid (b.getD 0 0 = k) := hk
  rw [hk] at hc0 hk8 hk0
  clear hk
  have b1 : (k == 0) = false := by simpa using hk0
  have x0 := (Var.made W #[.int .i64 k, .int .i64 0, .int .i64 0, .int .i64 0, .slice none 0 0] 36).cell 0
  simp at x0
  have HN0 : Hid (NInv w w.heap.size W.heap.size (W.heap.size + 1) #[.int .i64 k, .int .i64 0, .int .i64 0, .int .i64 0, .slice none 0 0] ((W.alloc (.cells #[.int .i64 k, .int .i64 0, .int .i64 0, .int .i64 0, .slice none 0 0] 36)).alloc (.cells #[] 3)) (.slice (some ⟨W.heap.size + 1, 0, none⟩) 0 0) []) := by
    refine ⟨by omega, by omega, by omega, Nat.le_refl _, by omega, (hbw.alloc hbw.size _).alloc (by simp; omega) _, (hR0.alloc _).alloc _, (Var.made W _ _).alloc _, ?_, by simp⟩
    have := World.ownsRow_made (e := 3) (size := 1) (W.alloc (.cells #[.int .i64 k, .int .i64 0, .int .i64 0, .int .i64 0, .slice none 0 0] 36)) #[] 0 (base := W.heap.size + 1) (by simp) (Nat.zero_le _) rfl
    rwa [show (W.alloc (.cells #[.int .i64 k, .int .i64 0, .int .i64 0, .int .i64 0, .slice none 0 0] 36)).heap.size = W.heap.size + 1 by simp] at this
  have HB0 : Hid (Below W.heap.size W ((W.alloc (.cells #[.int .i64 k, .int .i64 0, .int .i64 0, .int .i64 0, .slice none 0 0] 36)).alloc (.cells #[] 3))) := below2 _ _ _
  clear hR0 hbw hk0
  go_enter Tryd.func14, Tryd.ntmps14
  go_wp2
  go_loopw [6, 7] (fun v i wr => ∃ (p : Nat) (xs : List Int), i = .int .i64 p ∧ p ≤ b.length ∧ xs.length ≤ p ∧ 1 ≤ p ∧ Hid (AtsFrom b 1 xs p) ∧ Hid (NInv w w.heap.size W.heap.size (W.heap.size + 1) #[.int .i64 k, .int .i64 0, .int .i64 0, .int .i64 0, .slice none 0 0] wr v xs) ∧ Hid (Below W.heap.size W wr)) (fun _ i _ => b.length - (intOf i).toNat)
  case atStart => exact ⟨1, [], rfl, by omega, by simp, Nat.le_refl _, rfl, HN0, HB0⟩
  case round =>
    obtain ⟨p, xs, rfl, hp, hxp, hp1, HX, HN, HB⟩ := hrel
    clear HN0 HB0 x0 hc0
    by_cases hlt : p < b.length
    · have hlt2 : (p : Int) < (b.length : Int) := by omega
      go_wp2_with fail
      refine (HGN.out wr p HB.out (by omega)).mono ?_
      rintro e w1 ⟨h, hw1⟩
      subst w1
      rcases h with ⟨m, nx, hgm, rfl⟩ | ⟨hno, rfl⟩
      · have HX2 : Hid (AtsFrom b 1 (xs ++ [(m : Int)]) nx) := HX.out.snoc hgm
        obtain ⟨hq1, hq2, hq3, _⟩ := hgm.leN
        clear hgm HX
        have ho1 := (HN.out.below (below1 wr (.cells #[.int .i64 (m : Int)] 3))).own
        have HS1 : Hid (Src Tryd.prog 1 34 (.slice (some ⟨wr.heap.size, 0, none⟩) 1 1) 1 [.int .i64 (m : Int)] (wr.alloc (.cells #[.int .i64 (m : Int)] 3))) := src_oneI Tryd.underlying34 wr (.int .i64 (m : Int)) rfl
        have hsz : W.heap.size + 1 ≤ (wr.alloc (.cells #[.int .i64 (m : Int)] 3)).heap.size := (HN.out.below (below1 wr _)).siz
        go_wp2_with (at_builtin; refine wpList_append_own_src _ rfl (.tmp 44) (.tmp 46) 34 34 rfl (W.heap.size + 1) 3 i1 (.int .i64 0) 1 8 Tryd.underlying34 ii iz0 iz1 iz2 rfl _ _ _ rfl ho1 _ 1 [.int .i64 (m : Int)] rfl HS1.out (by unfold maxLen; omega) (by omega) hsz ?_)
        intro v5 w5 ho5 hg5
        have HN5 : Hid (NInv w w.heap.size W.heap.size (W.heap.size + 1) #[.int .i64 k, .int .i64 0, .int .i64 0, .int .i64 0, .slice none 0 0] w5 v5 (xs ++ [(m : Int)])) := by
          refine (HN.out.below (below1 wr _)).grown hg5 ?_
          rw [List.length_append, List.map_append]
          exact ho5
        have HB5 : Hid (Below W.heap.size W w5) := (HB.out.alloc HB.out.size _).grown hg5 (by have := HB.out.size; simp; omega) (fun q hq => by have := (ho1.lt q hq).1; omega)
        clear ho1 HS1 hsz ho5 hg5 HN HB
        go_wp2
        go_roundw
        case rel => exact ⟨nx, _, rfl, hq1, by rw [List.length_append]; simp; omega, by omega, HX2, HN5, HB5⟩
        case measure => simp [intOf]; omega
      · have HE : Hid (ofN s = zeroN ∧ ofOk s = false) := HNO.out (no_nums HK0.out HX.out hlt hno)
        obtain ⟨hR9, r0, r1, r2, r3, r4, q0, q1, q2, q3, q4⟩ := HN.out.res.five (.int .i64 0) (.int .i64 0) (.int .i64 0) (.int .i64 0) (.slice none 0 0)
        have HZ : Hid _ := HN.out.zero
        clear hR9
        clear HN HB HX
        go_wp2
        refine bodyPost_ret (res_row1 rfl _ _ w.heap.size 36 zeroC _ rfl HZ.out.1 Tryd.underlying36 rfl Tryd.sizeNode) rfl ?_
        exact ⟨_, by rw [HE.out.2]; rfl, by rw [HE.out.1]; exact HZ.out.2.1, HZ.out.2.2⟩
    · obtain rfl : p = b.length := by omega
      have HNP : Hid (∀ n : NodeD, n.k = k → numsN n = xs → NodP n → ofN s = n ∧ ofOk s = true) := by
        intro n h1 h2 h3
        exact HYE.out n (of_nums HU.out (by have := HK.out; have := HK0.out; omega) (by omega) (by rw [HK.out, h1]) (by rw [h2]; exact HX.out) h3)
      have HNN : Hid ((∀ n : NodeD, n.k = k → numsN n = xs → ¬ NodP n) → ofN s = zeroN ∧ ofOk s = false) := by
        intro h
        exact HNO.out (no_other HX.out HK0.out (by rw [HK.out]; exact h))
      obtain ⟨vr, cr, hvr, _, _⟩ := own_rd HN.out.own
      subst hvr
      by_cases h3 : xs.length < 3
      · have HE : Hid (ofN s = zeroN ∧ ofOk s = false) := HNN.out fun n _ h2 _ => by rw [← h2] at h3; simp [numsN] at h3; omega
        have h31 : (xs.length : Int) < 3 := by omega
        obtain ⟨hR9, r0, r1, r2, r3, r4, q0, q1, q2, q3, q4⟩ := HN.out.res.five (.int .i64 0) (.int .i64 0) (.int .i64 0) (.int .i64 0) (.slice none 0 0)
        have HZ : Hid _ := HN.out.zero
        clear hR9
        clear HN HB HX HNP HNN
        go_wp2
        refine bodyPost_ret (res_row1 rfl _ _ w.heap.size 36 zeroC _ rfl HZ.out.1 Tryd.underlying36 rfl Tryd.sizeNode) rfl ?_
        exact ⟨_, by rw [HE.out.2]; rfl, by rw [HE.out.1]; exact HZ.out.2.1, HZ.out.2.2⟩
      · have h31 : ¬ (xs.length : Int) < 3 := by omega
        obtain ⟨g, hg, hgc⟩ : ∃ g, vr = some ⟨g, 0, none⟩ ∧ Hid (∀ (W' : World), W'.ownsRow (W.heap.size + 1) 3 1 (.slice (some ⟨g, 0, none⟩) xs.length cr) xs.length (xs.map (Value.int .i64)) → ∀ j (hj : j < xs.length), W'.cell? ⟨g, j, none⟩ = some (.int .i64 xs[j])) := by
          rcases HN.out.own.2 with ⟨he, h0⟩ | ⟨g, cc, cur, he, _⟩
          · omega
          · injection he with he1 he2 he3
            refine ⟨g, he1, fun W' h j hj => ?_⟩
            rw [h.cellAt j (by omega)]
            simp [hj]
        subst hg
        obtain ⟨y0, y1, y2, ys, hxs⟩ : ∃ y0 y1 y2 ys, xs = y0 :: y1 :: y2 :: ys := by
          match xs, h3 with
          | y0 :: y1 :: y2 :: ys, _ => exact ⟨y0, y1, y2, ys, rfl⟩
          | [], h => simp at h
          | [_], h => simp at h
          | [_, _], h => simp at h
        have HXS : Hid (xs = y0 :: y1 :: y2 :: ys) := hxs
        have hxl : xs.length = ys.length + 3 := by rw [hxs]; rfl
        have HXL : Hid (xs.length = ys.length + 3) := hxl
        have HCS : Hid (∀ (W' : World), W'.ownsRow (W.heap.size + 1) 3 1 (.slice (some ⟨g, 0, none⟩) xs.length cr) xs.length (xs.map (Value.int .i64)) → W'.cell? ⟨g, 0, none⟩ = some (.int .i64 y0) ∧ W'.cell? ⟨g, 1, none⟩ = some (.int .i64 y1) ∧ W'.cell? ⟨g, 2, none⟩ = some (.int .i64 y2)) := by
          intro W' h
          have e0 := hgc.out W' h 0 (by omega)
          have e1 := hgc.out W' h 1 (by omega)
          have e2 := hgc.out W' h 2 (by omega)
          simp only [hxs, List.getElem_cons_zero, List.getElem_cons_succ] at e0 e1 e2
          exact ⟨e0, e1, e2⟩
        have j0 : (0 : Int) < (xs.length : Int) := by omega
        have j1 : (1 : Int) < (xs.length : Int) := by omega
        have j2 : (2 : Int) < (xs.length : Int) := by omega
        have j3 : (3 : Int) ≤ (xs.length : Int) := by omega
        have HCR : Hid (xs.length ≤ cr) := by
          show _ ≤ _
          rcases HN.out.own.2 with ⟨he, _⟩ | ⟨_, cc, _, he, _, _, h1, _⟩
          · cases he
          · injection he with _ _ he3
            omega
        clear hxs hxl h3
        have c0 := (HCS.out _ HN.out.own).1
        have n1 := HN.out.node.cell 1
        have f1 := HN.out.node.frozen 1
        simp at n1
        go_upto_region 18 with fail
        have HN1 : Hid (NInv w w.heap.size W.heap.size (W.heap.size + 1) #[.int .i64 k, .int .i64 y0, .int .i64 0, .int .i64 0, .slice none 0 0] (wr.setCell ⟨W.heap.size, 1, none⟩ (.int .i64 y0)) (.slice (some ⟨g, 0, none⟩) xs.length cr) xs) := by
          have := HN.out.set 1 (.int .i64 y0); exact this
        have HB1 : Hid (Below W.heap.size W (wr.setCell ⟨W.heap.size, 1, none⟩ (.int .i64 y0))) := HB.out.setCell (p := ⟨W.heap.size, 1, none⟩) (Nat.le_refl _) _
        clear HN HB c0 n1 f1
        generalize wr.setCell ⟨W.heap.size, 1, none⟩ (.int .i64 y0) = W1 at *
        have c1 := (HCS.out _ HN1.out.own).2.1
        have n2 := HN1.out.node.cell 2
        have f2 := HN1.out.node.frozen 2
        simp at n2
        go_upto_region 19 with fail
        have HN2 : Hid (NInv w w.heap.size W.heap.size (W.heap.size + 1) #[.int .i64 k, .int .i64 y0, .int .i64 y1, .int .i64 0, .slice none 0 0] (W1.setCell ⟨W.heap.size, 2, none⟩ (.int .i64 y1)) (.slice (some ⟨g, 0, none⟩) xs.length cr) xs) := by
          have := HN1.out.set 2 (.int .i64 y1); exact this
        have HB2 : Hid (Below W.heap.size W (W1.setCell ⟨W.heap.size, 2, none⟩ (.int .i64 y1))) := HB1.out.setCell (p := ⟨W.heap.size, 2, none⟩) (Nat.le_refl _) _
        clear HN1 HB1 c1 n2 f2
        generalize W1.setCell ⟨W.heap.size, 2, none⟩ (.int .i64 y1) = W2 at *
        have c2 := (HCS.out _ HN2.out.own).2.2
        have n3 := HN2.out.node.cell 3
        have f3 := HN2.out.node.frozen 3
        simp at n3
        go_upto_region 20 with fail
        have HN3 : Hid (NInv w w.heap.size W.heap.size (W.heap.size + 1) #[.int .i64 k, .int .i64 y0, .int .i64 y1, .int .i64 y2, .slice none 0 0] (W2.setCell ⟨W.heap.size, 3, none⟩ (.int .i64 y2)) (.slice (some ⟨g, 0, none⟩) xs.length cr) xs) := by
          have := HN2.out.set 3 (.int .i64 y2); exact this
        have HB3 : Hid (Below W.heap.size W (W2.setCell ⟨W.heap.size, 3, none⟩ (.int .i64 y2))) := HB2.out.setCell (p := ⟨W.heap.size, 3, none⟩) (Nat.le_refl _) _
        clear HN2 HB2 c2 n3 f3
        generalize W2.setCell ⟨W.heap.size, 3, none⟩ (.int .i64 y2) = W3 at *
        obtain ⟨o, c', hcut, hor⟩ := cut3 g cr xs.length (by have := HXL.out; omega) (HCR.out)
        have hys : xs.length - 3 = ys.length := by have := HXL.out; omega
        rw [hys] at hcut hor
        clear hys
        have ho4 : (W3.alloc (.cells #[] 3)).ownsRow W3.heap.size 3 1 (.slice (some ⟨W3.heap.size, 0, none⟩) 0 0) 0 [] := World.ownsRow_made W3 #[] 0 (Nat.le_refl _) (Nat.zero_le _) rfl
        have HRY : Hid (Rd .i64 (W3.alloc (.cells #[] 3)) (some ⟨g, o, none⟩) ys) := by
          rcases hor with h0 | rfl
          · exact .inl (List.eq_nil_of_length_eq_zero h0)
          · have hoc := (HN3.out.below (below1 W3 (.cells #[] 3))).own
            refine .inr ⟨g, 3, rfl, (hoc.lt g rfl).2, fun i hi => ?_⟩
            have := hgc.out _ hoc (3 + i) (by have := HXL.out; omega)
            rw [this]
            have e : xs[3 + i]? = ys[i]? := by rw [HXS.out, show 3 + i = i + 1 + 1 + 1 by omega]; rfl
            have e1 : xs[3 + i]'(by have := HXL.out; omega) = ys[i] := by
              have h1 := List.getElem?_eq_getElem (l := xs) (i := 3 + i) (by have := HXL.out; omega)
              have h2 := List.getElem?_eq_getElem (l := ys) hi
              rw [e, h2] at h1
              injection h1 with h1
              exact h1.symm
            rw [e1]
            simp [List.getD, hi]
        have HS4 : Hid (Src Tryd.prog 1 34 (.slice (some ⟨g, o, none⟩) ys.length c') ys.length (ys.map (Value.int .i64)) (W3.alloc (.cells #[] 3))) := src_rdI c' HRY.out
        have hyl : ys.length ≤ 1048576 := by have := HXL.out; omega
        clear hor HRY
        go_wp2_with (at_builtin; refine wpList_append_own_src _ rfl (.tmp 65) (.tmp 67) 34 34 rfl W3.heap.size 3 i1 (.int .i64 0) 1 8 Tryd.underlying34 ii iz0 iz1 iz2 rfl _ _ _ rfl ho4 _ _ _ rfl HS4.out (by unfold maxLen; omega) (by omega) (by simp) ?_)
        intro v8 W8 ho8 hg8
        have hb8 : Below W3.heap.size W3 W8 := (below1 W3 _).grown hg8 (by simp) (fun q hq => by simp [Value.ownBlock] at hq; omega)
        have HN8 : Hid (NInv w w.heap.size W.heap.size (W.heap.size + 1) #[.int .i64 k, .int .i64 y0, .int .i64 y1, .int .i64 y2, .slice none 0 0] W8 (.slice (some ⟨g, 0, none⟩) xs.length cr) xs) := HN3.out.below hb8
        have HO8 : Hid (W8.ownsRow (W.heap.size + 1) 3 1 v8 ys.length (ys.map (Value.int .i64))) := ownsRow_base ho8 HN3.out.siz
        obtain ⟨a8, c8, hv8, _, _⟩ := own_rd ho8
        subst hv8
        clear ho8 hg8 hb8 HS4 ho4 HN3 HB3 hcut HCS hgc
        have n4 := HN8.out.node.cell 4
        have f4 := HN8.out.node.frozen 4
        simp at n4
        go_upto_region 21 with fail
        have HN9 : Hid (NInv w w.heap.size W.heap.size (W.heap.size + 1) #[.int .i64 k, .int .i64 y0, .int .i64 y1, .int .i64 y2, .slice a8 ys.length c8] (W8.setCell ⟨W.heap.size, 4, none⟩ (.slice a8 ys.length c8)) (.slice (some ⟨g, 0, none⟩) xs.length cr) xs) := by
          have := HN8.out.set 4 (.slice a8 ys.length c8); exact this
        have HO9 : Hid ((W8.setCell ⟨W.heap.size, 4, none⟩ (.slice a8 ys.length c8)).ownsRow (W.heap.size + 1) 3 1 (.slice a8 ys.length c8) ys.length (ys.map (Value.int .i64))) := own_set HO8.out (by omega) 4 _
        clear HN8 HO8 n4 f4
        generalize W8.setCell ⟨W.heap.size, 4, none⟩ (.slice a8 ys.length c8) = W9 at *
        obtain ⟨n, hn⟩ : ∃ n : NodeD, n = ⟨k, y0, y1, y2, ys⟩ := ⟨_, rfl⟩
        have HON : Hid (∀ W', Below W9.heap.size W9 W' → OwnN W' (W.heap.size + 1) (.agg #[.int .i64 k, .int .i64 y0, .int .i64 y1, .int .i64 y2, .slice a8 ys.length c8]) n) := by
          intro W' h
          rw [hn]
          exact ⟨_, rfl, ownsRow_below HO9.out h (Nat.le_refl _)⟩
        have HOK : Hid (∀ Q, ndOk n = Q → Calls Tryd.prog 28 #[.agg #[.int .i64 k, .int .i64 y0, .int .i64 y1, .int .i64 y2, .slice a8 ys.length c8]] W9 fun e w' => e = .returned (.bool Q) ∧ Below W9.heap.size W9 w') := by
          rintro Q rfl
          exact specNodeOk _ n W9 (by rw [hn]; exact hyl) (HON.out W9 (Below.refl _ _)).rd
        have HNY : Hid (ndOk n = true → ofN s = n ∧ ofOk s = true) := fun h => HNP.out n (by rw [hn]) (by rw [hn, HXS.out]; rfl) (ndOk_iff.1 h)
        have HNZ : Hid (ndOk n = false → ofN s = zeroN ∧ ofOk s = false) := by
          intro h
          refine HNN.out fun n' h1 h2 h3 => ?_
          have : n' = n := by
            rw [HXS.out] at h2
            unfold numsN at h2
            simp only [List.cons.injEq] at h2
            rw [hn]
            exact NodeD.ext' h1 h2.1 h2.2.1 h2.2.2.1 h2.2.2.2
          rw [this] at h3
          rw [ndOk_yes h3] at h
          cases h
        have m0 := HN9.out.node.cell 0
        have m1 := HN9.out.node.cell 1
        have m2 := HN9.out.node.cell 2
        have m3 := HN9.out.node.cell 3
        have m4 := HN9.out.node.cell 4
        simp at m0 m1 m2 m3 m4
        clear hn HNP HNN HXS HO9
        cases hq : ndOk n with
        | false =>
          have HE : Hid (ofN s = zeroN ∧ ofOk s = false) := HNZ.out hq
          have HT := HOK.out false hq
          clear HNY HNZ HOK hq
          go_wp2_with fail
          refine HT.mono ?_
          rintro e w2 ⟨rfl, hb2⟩
          have hNZ := HN9.out.below hb2
          have HNZ2 : Hid (NInv w w.heap.size W.heap.size (W.heap.size + 1) #[.int .i64 k, .int .i64 y0, .int .i64 y1, .int .i64 y2, .slice a8 ys.length c8] w2 (.slice (some ⟨g, 0, none⟩) xs.length cr) xs) := hNZ
          clear m0 m1 m2 m3 m4 hNZ HT hb2
          obtain ⟨hR9, r0, r1, r2, r3, r4, q0, q1, q2, q3, q4⟩ := HNZ2.out.res.five (.int .i64 0) (.int .i64 0) (.int .i64 0) (.int .i64 0) (.slice none 0 0)
          have HZ : Hid _ := HNZ2.out.zero
          clear hR9
          go_wp2
          refine bodyPost_ret (res_row1 rfl _ _ w.heap.size 36 zeroC _ rfl HZ.out.1 Tryd.underlying36 rfl Tryd.sizeNode) rfl ?_
          exact ⟨_, by rw [HE.out.2]; rfl, by rw [HE.out.1]; exact HZ.out.2.1, HZ.out.2.2⟩
        | true =>
          have HE : Hid (ofN s = n ∧ ofOk s = true) := HNY.out hq
          have HT := HOK.out true hq
          clear HNY HNZ HOK hq
          go_wp2_with fail
          refine HT.mono ?_
          rintro e w2 ⟨rfl, hb2⟩
          have hNZ := HN9.out.below hb2
          have HNZ2 : Hid (NInv w w.heap.size W.heap.size (W.heap.size + 1) #[.int .i64 k, .int .i64 y0, .int .i64 y1, .int .i64 y2, .slice a8 ys.length c8] w2 (.slice (some ⟨g, 0, none⟩) xs.length cr) xs) := hNZ
          have HO2 : Hid (OwnN w2 (W.heap.size + 1) (.agg #[.int .i64 k, .int .i64 y0, .int .i64 y1, .int .i64 y2, .slice a8 ys.length c8]) n) := HON.out w2 hb2
          clear m0 m1 m2 m3 m4 hNZ HT hb2
          have m0 := HNZ2.out.node.cell 0
          have m1 := HNZ2.out.node.cell 1
          have m2 := HNZ2.out.node.cell 2
          have m3 := HNZ2.out.node.cell 3
          have m4 := HNZ2.out.node.cell 4
          simp at m0 m1 m2 m3 m4
          obtain ⟨hR9, r0, r1, r2, r3, r4, q0, q1, q2, q3, q4⟩ := HNZ2.out.res.five (.int .i64 k) (.int .i64 y0) (.int .i64 y1) (.int .i64 y2) (.slice a8 ys.length c8)
          have HR9 : Hid _ := hR9
          have HB9 : Hid _ := below_five HNZ2.out.bel (Nat.le_refl _) (.int .i64 k) (.int .i64 y0) (.int .i64 y1) (.int .i64 y2) (.slice a8 ys.length c8)
          have HO9 : Hid (OwnN (five w2 w.heap.size (.int .i64 k) (.int .i64 y0) (.int .i64 y1) (.int .i64 y2) (.slice a8 ys.length c8)) w.heap.size (.agg #[.int .i64 k, .int .i64 y0, .int .i64 y1, .int .i64 y2, .slice a8 ys.length c8]) n) := by
            obtain ⟨u, hu, ho⟩ := HO2.out
            exact ⟨u, hu, ownsRow_base (own_five ho (by omega) _ _ _ _ _) (by omega)⟩
          clear hR9 HO2
          go_wp2
          refine bodyPost_ret (res_row1 rfl _ _ w.heap.size 36 #[.int .i64 k, .int .i64 y0, .int .i64 y1, .int .i64 y2, .slice a8 ys.length c8] _ rfl HR9.out Tryd.underlying36 rfl Tryd.sizeNode) rfl ?_
          exact ⟨_, by rw [HE.out.2]; rfl, by rw [HE.out.1]; exact HO9.out, HB9.out⟩
end Go.Proofs.YtaabcfgjmankgaaDoor
