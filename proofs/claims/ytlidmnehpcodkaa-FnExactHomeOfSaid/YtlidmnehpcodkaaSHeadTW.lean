/-
  Own text: the head of a list, as the other program writes it.
-/
import Derived.Test.YtlidmnehpcodkaaSHeadW
namespace Go.Proofs.Ytlidmnehpcodkaa
open Go.RowKit

theorem Try.infoI : (Try.prog.info? 3).map (fun i => (i.zero, i.size, i.bytes)) = some (some (.int .i64 0), 1, 8) := by kernel_rfl
/-- One cell, made by itself, as a source. -/
theorem src_one {P : Program} {t e e' : TypeId} (ht : P.underlying t = some (.slice e')) (W : World) (u : Value) (h1 : u.oneCell' = true) : Src P 1 t (.slice (some ⟨W.heap.size, 0, none⟩) 1 1) 1 [u] (W.alloc (.cells #[u] e)) := by
  refine Src.ofSlice _ ht ⟨W.heap.size, 0, none⟩ 1 1 [u] rfl ?_ (fun x hx => by simp at hx; subst hx; exact h1)
  intro j x hj
  obtain ⟨hj1, rfl⟩ := List.getElem?_eq_some_iff.1 hj
  simp at hj1
  subst hj1
  rw [Go.WideShapes.add_plain]
  exact (Var.made W #[u] e).cell 0

set_option maxRecDepth 20000 in
set_option maxHeartbeats 1000000 in
theorem specHeadText (a : Option Addr) (cap : Nat) (l : List PutD) (w : World) (hl : l.length ≤ 4194304) (hr : RdF encP 2 w a l) :
    Calls Try.prog 13 #[.slice a l.length cap] w fun e w' => e = .returned (.string (headText l)) ∧ Below w.heap.size w w' := by
  obtain ⟨i0, hi, hz0, hz1, hz2⟩ := info_parts Try.infoI
  obtain ⟨i1, gi, gz0, gz1, gz2⟩ := info_parts Try.infoTxt
  have HTX : Hid (∀ Q, jtx 48 l = Q → Calls Try.prog 9 #[.int .i64 48, .slice a l.length cap] w fun e w' => e = .returned (.bool Q) ∧ Below w.heap.size w w') := by
    rintro Q rfl
    exact specTxOk a cap l 48 w hl hr
  have HCS : Hid (∀ k (hk : k < l.length), ∃ b off, a = some ⟨b, off, none⟩ ∧ b < w.heap.size ∧ w.cell? ⟨b, off + k * 2, none⟩ = some (.int .i64 l[k].1) ∧ w.cell? ⟨b, off + k * 2 + 1, none⟩ = some (.string l[k].2)) := by
    intro k hk
    obtain ⟨b, off, h1, h2, h3⟩ := hr.at k hk
    exact ⟨b, off, h1, h2, h3 0 (by omega), h3 1 (by omega)⟩
  clear hr
  cases hq : jtx 48 l with
  | false =>
    have HF : Hid (headText l = ⟨#[]⟩) := by show _ = _; unfold headText; rw [hq]; rfl
    have HT := HTX.out false hq
    have HT2 : Hid (Calls Try.prog 9 #[.int .i64 48, .slice a l.length cap] w fun e w' => e = .returned (.bool false) ∧ Below w.heap.size w w') := HT
    clear HT HTX hq
    go_enter Try.func13, Try.ntmps13
    go_wp2_with fail
    refine HT2.out.mono ?_
    rintro e w1 ⟨rfl, hb1⟩
    go_wp2
    go_ret
    exact ⟨by rw [HF.out]; rfl, hb1⟩
  | true =>
    have ht := jtx_iff.1 hq
    have hlen : l.length ≤ 48 := by have := ht.len; omega
    have HZ : Hid (∀ s ∈ l.map (·.2), s.size ≤ 90) := by
      intro s hs
      obtain ⟨p, hp, rfl⟩ := List.mem_map.1 hs
      exact (ht.at p hp).2.2
    have HF : Hid (headText l = baOf (headB (l.map (·.1)) (sumOf (l.map (·.2))))) := by show _ = _; unfold headText; rw [hq]; rfl
    have HT := HTX.out true hq
    have HT2 : Hid (Calls Try.prog 9 #[.int .i64 48, .slice a l.length cap] w fun e w' => e = .returned (.bool true) ∧ Below w.heap.size w w') := HT
    clear HT HTX hq ht
    go_enter Try.func13, Try.ntmps13
    go_wp2_with fail
    refine HT2.out.mono ?_
    rintro e w1 ⟨rfl, hb1⟩
    have hm1 : (w1.alloc (.cells #[] 3)).ownsRow w.heap.size 3 1 (.slice (some ⟨w1.heap.size, 0, none⟩) 0 0) 0 [] := World.ownsRow_made w1 #[] 0 hb1.size (Nat.zero_le _) rfl
    have hm2 : ((w1.alloc (.cells #[] 3)).alloc (.cells #[] 9)).ownsRow w.heap.size 9 1 (.slice (some ⟨w1.heap.size + 1, 0, none⟩) 0 0) 0 [] := by
      have := World.ownsRow_made (e := 9) (size := 1) (w1.alloc (.cells #[] 3)) #[] 0 (base := w.heap.size) (by have := hb1.size; simp; omega) (Nat.zero_le _) rfl
      rwa [show (w1.alloc (.cells #[] 3)).heap.size = w1.heap.size + 1 by simp] at this
    have HM1 : Hid (((w1.alloc (.cells #[] 3)).alloc (.cells #[] 9)).ownsRow w.heap.size 3 1 (.slice (some ⟨w1.heap.size, 0, none⟩) 0 0) 0 []) := hm1.alloc _
    have HM2 : Hid (((w1.alloc (.cells #[] 3)).alloc (.cells #[] 9)).ownsRow w.heap.size 9 1 (.slice (some ⟨w1.heap.size + 1, 0, none⟩) 0 0) 0 []) := hm2
    have HB1 : Hid (Below w.heap.size w ((w1.alloc (.cells #[] 3)).alloc (.cells #[] 9))) := (hb1.alloc hb1.size _).alloc (by have := hb1.size; simp; omega) _
    clear hm1 hm2 hb1
    go_wp2
    go_loopw [3, 4, 5] (fun v u i wr => ∃ k : Nat, k ≤ l.length ∧ i = .int .i64 k ∧ Hid (wr.ownsRow w.heap.size 3 1 v k ((l.take k).map fun p => Value.int .i64 p.1)) ∧ Hid (wr.ownsRow w.heap.size 9 1 u k ((l.take k).map fun p => Value.string p.2)) ∧ Hid (Below w.heap.size w wr)) (fun _ _ i _ => l.length - (intOf i).toNat)
    case atStart => exact ⟨0, Nat.zero_le _, rfl, HM1, HM2, HB1⟩
    case round =>
      obtain ⟨k, hk, rfl, HO, HP, HB⟩ := hrel
      clear HM1 HM2 HB1
      by_cases hlt : k < l.length
      · obtain ⟨x, off, rfl, hblt, hc0, hc1⟩ := HCS.out k hlt
        have hd0 : wr.cell? ⟨x, off + k * 2, none⟩ = some (.int .i64 l[k].1) := (HB.out.cell hblt).trans hc0
        have HD1 : Hid (∀ W, Below w.heap.size w W → W.cell? ⟨x, off + k * 2 + 1, none⟩ = some (.string l[k].2)) := fun W h => (h.cell hblt).trans hc1
        have HT1 : Hid ((l.take (k + 1)).map (fun p => Value.int .i64 p.1) = (l.take k).map (fun p => Value.int .i64 p.1) ++ [.int .i64 l[k].1]) := by show _ = _; rw [List.take_succ_eq_append_getElem hlt, List.map_append]; rfl
        have HT3 : Hid ((l.take (k + 1)).map (fun p => Value.string p.2) = (l.take k).map (fun p => Value.string p.2) ++ [.string l[k].2]) := by show _ = _; rw [List.take_succ_eq_append_getElem hlt, List.map_append]; rfl
        clear hc0 hc1
        generalize l[k].1 = y at *
        generalize l[k].2 = ys at *
        have HNX : Hid (∀ (W : World) (v u : Value), W.ownsRow w.heap.size 3 1 v (k + 1) ((l.take k).map (fun p => Value.int .i64 p.1) ++ [.int .i64 y]) → W.ownsRow w.heap.size 9 1 u (k + 1) ((l.take k).map (fun p => Value.string p.2) ++ [.string ys]) → W.ownsRow w.heap.size 3 1 v (k + 1) ((l.take (k + 1)).map fun p => Value.int .i64 p.1) ∧ W.ownsRow w.heap.size 9 1 u (k + 1) ((l.take (k + 1)).map fun p => Value.string p.2)) := by
          intro W v u h1 h2
          rw [HT1.out, HT3.out]
          exact ⟨h1, h2⟩
        clear HT1 HT3
        generalize (l.take k).map (fun p => Value.int .i64 p.1) = X1 at *
        generalize (l.take k).map (fun p => Value.string p.2) = X2 at *
        have ho1 := HO.out.alloc (.cells #[.int .i64 y] 3)
        have HS1 : Hid (Src Try.prog 1 61 (.slice (some ⟨wr.heap.size, 0, none⟩) 1 1) 1 [.int .i64 y] (wr.alloc (.cells #[.int .i64 y] 3))) := src_one Try.underlying61 wr (.int .i64 y) rfl
        have HP1 : Hid ((wr.alloc (.cells #[.int .i64 y] 3)).ownsRow w.heap.size 9 1 u4 k X2) := HP.out.alloc _
        have hb1 : Below w.heap.size w (wr.alloc (.cells #[.int .i64 y] 3)) := HB.out.alloc HB.out.size _
        clear HO HP HB
        go_wp2_with (at_builtin; refine wpList_append_own_src _ rfl (.tmp 17) (.tmp 23) 61 61 rfl w.heap.size 3 i0 (.int .i64 0) 1 8 Try.underlying61 hi hz0 hz1 hz2 rfl _ _ _ rfl ho1 _ 1 [.int .i64 y] rfl HS1.out (by unfold maxLen; omega) (by omega) hb1.size ?_)
        intro v5 w5 ho5 hg5
        have HP5 := own_only HP1.out (Only.of_grown hg5) (fun j hj h => own_apart HP1.out ho1 (by decide) j hj h)
        have hb5 : Below w.heap.size w w5 := hb1.grown hg5 hb1.size (fun j hj => (ho1.lt j hj).1)
        have hd1 := HD1.out w5 hb5
        have ho6 := HP5.alloc (.cells #[.string ys] 9)
        have HS6 : Hid (Src Try.prog 1 36 (.slice (some ⟨w5.heap.size, 0, none⟩) 1 1) 1 [.string ys] (w5.alloc (.cells #[.string ys] 9))) := src_one Try.underlying36 w5 (.string ys) rfl
        have HO6 : Hid ((w5.alloc (.cells #[.string ys] 9)).ownsRow w.heap.size 3 1 v5 (k + 1) (X1 ++ [.int .i64 y])) := ho5.alloc _
        have hb6 : Below w.heap.size w (w5.alloc (.cells #[.string ys] 9)) := hb5.alloc hb5.size _
        clear ho5 hg5 HP5 hb5 ho1 HS1 HP1 hb1 HD1
        go_wp2_with (at_builtin; refine wpList_append_own_src _ rfl (.tmp 25) (.tmp 31) 36 36 rfl w.heap.size 9 i1 (.string ⟨#[]⟩) 1 16 Try.underlying36 gi gz0 gz1 gz2 rfl _ _ _ rfl ho6 _ 1 [.string ys] rfl HS6.out (by unfold maxLen; omega) (by omega) hb6.size ?_)
        intro v7 w7 ho7 hg7
        have HO7 := own_only HO6.out (Only.of_grown hg7) (fun j hj h => own_apart HO6.out ho6 (by decide) j hj h)
        have HB7 : Hid (Below w.heap.size w w7) := hb6.grown hg7 hb6.size (fun j hj => (ho6.lt j hj).1)
        obtain ⟨h8, h9⟩ := HNX.out w7 v5 v7 HO7 ho7
        have H8 : Hid _ := h8
        have H9 : Hid _ := h9
        clear ho7 hg7 HO7 ho6 HS6 HO6 hb6 h8 h9 HNX
        go_wp2
        go_roundw
        case rel => exact ⟨k + 1, by omega, by go_num, H8, H9, HB7⟩
        case measure => simp [intOf]; omega
      · obtain rfl : k = l.length := by omega
        have hO9 := HO.out
        have hP9 := HP.out
        rw [List.take_length] at hO9 hP9
        have e1 : (l.map fun p => Value.int .i64 p.1) = (l.map (·.1)).map (Value.int .i64) := by simp
        have e2 : (l.map fun p => Value.string p.2) = (l.map (·.2)).map Value.string := by simp
        have hn1 : (l.map (·.1)).length = l.length := by simp
        have hn2 : (l.map (·.2)).length = l.length := by simp
        rw [e1] at hO9
        rw [e2] at hP9
        have hs32 := sumOf_lt (l.map (·.2))
        generalize hA : l.map (·.1) = A at *
        generalize hS : l.map (·.2) = T at *
        obtain ⟨xa, xc, rfl, hq1, hra⟩ := own_rd hO9
        obtain ⟨ya, yc, rfl, hq2, hrs⟩ := own_rdS hP9
        have HSM : Hid (Calls Try.prog 42 #[.slice ya T.length yc] wr fun e w' => e = .returned (.int .i64 ((sumOf T : Nat) : Int)) ∧ Below wr.heap.size wr w') := specSum ya yc T wr (by omega) HZ.out hrs
        have HHD : Hid (∀ W, Below wr.heap.size wr W → Calls Try.prog 41 #[.slice xa A.length xc, .int .i64 ((sumOf T : Nat) : Int)] W fun e w' => e = .returned (.string (baOf (headB A (sumOf T)))) ∧ Below W.heap.size W w') :=
          fun W h => specHead xa xc A (sumOf T) W (by omega) hs32 (hra.below h (Nat.le_refl _))
        have HB9 : Hid (Below w.heap.size w wr) := HB.out
        clear hO9 hP9 hra hrs e1 e2 hA hS HO HP HB hs32 HZ hq1 hq2 hn1 hn2
        generalize sumOf T = sm at *
        go_wp2_with fail
        refine HSM.out.mono ?_
        rintro e w8 ⟨rfl, hb8⟩
        go_wp2_with fail
        refine (HHD.out w8 hb8).mono ?_
        rintro e w9 ⟨rfl, hb9⟩
        go_wp2
        go_ret
        exact ⟨by rw [HF.out]; rfl, (HB9.out.trans (hb8.mono HB9.out.size)).trans (hb9.mono (Nat.le_trans HB9.out.size hb8.size))⟩
end Go.Proofs.Ytlidmnehpcodkaa
