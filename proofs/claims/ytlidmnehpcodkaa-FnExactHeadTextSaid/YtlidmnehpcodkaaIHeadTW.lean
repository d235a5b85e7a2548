/-
  Own text: the head of a list, as the program writes it.
-/
import Derived.Test.YtlidmnehpcodkaaITxW
import Derived.Test.YtlidmnehpcodkaaISumW
import Derived.Test.YtlidmnehpcodkaaBunJ
import Derived.Test.YtlidmnehpcodkaaBunS
import Derived.Lib.SlBytesConst
import Derived.ArgAppend
namespace Go.Proofs.Ytlidmnehpcodkaa
open Go.RowKit

theorem cell_marked (w : World) (v : Value) (e : TypeId) (f : Nat × Nat) : (w.alloc (.cells #[v] e f)).cell? ⟨w.heap.size, 0, none⟩ = some v := by
  have h := heap_alloc_new w (.cells #[v] e f)
  unfold World.cell?
  rw [h]
  rfl

/-- What is known between two steps of the head's loop: the bytes and the texts so far. -/
structure HInv (w wr : World) (v u : Value) (B : List Int) (T : List ByteArray) : Prop where
  own : wr.ownsRow w.heap.size 5 1 v B.length (B.map (Value.int .u8))
  txt : wr.ownsRow w.heap.size 9 1 u T.length (T.map Value.string)
  below : Below w.heap.size w wr
theorem HInv.new {w wr w' : World} {v u : Value} {B : List Int} {T : List ByteArray} (h : HInv w wr v u B T) (hb : Below wr.heap.size wr w') : HInv w w' v u B T :=
  ⟨ownsRow_below h.own hb (Nat.le_refl _), ownsRow_below h.txt hb (Nat.le_refl _), h.below.trans (hb.mono h.below.size)⟩
theorem HInv.bytes {w wr w' : World} {v u v' : Value} {B C : List Int} {T : List ByteArray} (h : HInv w wr v u B T) (ho : w'.ownsRow w.heap.size 5 1 v' (B.length + C.length) (B.map (Value.int .u8) ++ C.map (Value.int .u8))) (hg : wr.grownBy w' v.ownBlock) : HInv w w' v' u (B ++ C) T :=
  ⟨by rw [List.length_append, List.map_append]; exact ho, own_only h.txt (Only.of_grown hg) (fun j hj k => own_apart h.txt h.own (by decide) j hj k), h.below.grown hg h.below.size (fun j hj => (h.own.lt j hj).1)⟩
theorem HInv.text {w wr w' : World} {v u u' : Value} {B : List Int} {T : List ByteArray} {y : ByteArray} (h : HInv w wr v u B T) (ho : w'.ownsRow w.heap.size 9 1 u' (T.length + 1) (T.map Value.string ++ [.string y])) (hg : wr.grownBy w' u.ownBlock) : HInv w w' v u' B (T ++ [y]) :=
  ⟨own_only h.own (Only.of_grown hg) (fun j hj k => own_apart h.own h.txt (by decide) j hj k), by rw [List.length_append, List.map_append]; exact ho, h.below.grown hg h.below.size (fun j hj => (h.txt.lt j hj).1)⟩

set_option maxRecDepth 20000 in
set_option maxHeartbeats 1000000 in
theorem implHeadText (a : Option Addr) (cap : Nat) (l : List PutD) (w : World) (hl : l.length ≤ 4194304) (hr : RdF encP 2 w a l) :
    Calls Try.prog 14 #[.slice a l.length cap] w fun e w' => e = .returned (.string (headText l)) ∧ Below w.heap.size w w' := by
  obtain ⟨i0, hi, hz0, hz1, hz2⟩ := info_parts Try.infoU8
  obtain ⟨i1, gi, gz0, gz1, gz2⟩ := info_parts Try.infoTxt
  have HTX : Hid (∀ Q, jtx 48 l = Q → Calls Try.prog 11 #[.int .i64 48, .slice a l.length cap] w fun e w' => e = .returned (.bool Q) ∧ Below w.heap.size w w') := by
    rintro Q rfl
    exact implTxOk a cap l 48 w hl hr
  have HCS : Hid (∀ k (hk : k < l.length), ∃ b off, a = some ⟨b, off, none⟩ ∧ b < w.heap.size ∧ w.cell? ⟨b, off + k * 2, none⟩ = some (.int .i64 l[k].1) ∧ w.cell? ⟨b, off + k * 2 + 1, none⟩ = some (.string l[k].2)) := by
    intro k hk
    obtain ⟨b, off, h1, h2, h3⟩ := hr.at k hk
    exact ⟨b, off, h1, h2, h3 0 (by omega), h3 1 (by omega)⟩
  clear hr
  cases hq : jtx 48 l with
  | false =>
    have HF : Hid (headText l = ⟨#[]⟩) := by show _ = _; unfold headText; rw [hq]; rfl
    have HT := HTX.out false hq
    have HT2 : Hid (Calls Try.prog 11 #[.int .i64 48, .slice a l.length cap] w fun e w' => e = .returned (.bool false) ∧ Below w.heap.size w w') := HT
    clear HT HTX hq
    go_enter Try.func14, Try.ntmps14
    go_wp2_with fail
    refine HT2.out.mono ?_
    rintro e w1 ⟨rfl, hb1⟩
    go_wp2
    go_ret
    exact ⟨by rw [HF.out]; rfl, hb1⟩
  | true =>
    have ht := jtx_iff.1 hq
    have hlen : l.length ≤ 48 := by have := ht.len; omega
    have HZ : Hid (∀ s ∈ l.map (·.2), s.size ≤ 90) := by
      intro s hs
      obtain ⟨p, hp, rfl⟩ := List.mem_map.1 hs
      exact (ht.at p hp).2.2
    have HF : Hid (headText l = baOf (headB (l.map (·.1)) (sumOf (l.map (·.2))))) := by show _ = _; unfold headText; rw [hq]; rfl
    have HL : Hid (∀ k, (((l.map (·.1)).take k).flatMap putNum).length ≤ 240) := by
      intro k
      have := flatNum_le ((l.map (·.1)).take k)
      simp only [List.length_take, List.length_map] at this
      have : (((l.map (·.1)).take k).flatMap putNum).length ≤ min k l.length * 5 := this
      omega
    have HPN : Hid (∀ n W, Calls Try.prog 43 #[.int .i64 n] W fun e w' => ∃ v, e = .returned v ∧ w'.ownsRow W.heap.size 5 1 v (putNum n).length ((putNum n).map (Value.int .u8)) ∧ Below W.heap.size W w') := fun n W => implPutNum n W
    have hpl := putNum_len (l.length : Int)
    have HT := HTX.out true hq
    have HT2 : Hid (Calls Try.prog 11 #[.int .i64 48, .slice a l.length cap] w fun e w' => e = .returned (.bool true) ∧ Below w.heap.size w w') := HT
    clear HT HTX hq ht
    go_enter Try.func14, Try.ntmps14
    go_wp2_with fail
    refine HT2.out.mono ?_
    rintro e w1 ⟨rfl, hb1⟩
    have HM : Hid (∀ W, Below (w1.heap.size + 1) (w1.alloc (.cells #[.int .u8 74] 5 (1, 2))) W → W.cell? ⟨w1.heap.size, 0, none⟩ = some (.int .u8 74)) := by
      intro W h
      rw [h.cell (show w1.heap.size < w1.heap.size + 1 by omega)]
      exact cell_marked w1 _ _ _
    have HB1 : Hid (Below w.heap.size w (w1.alloc (.cells #[.int .u8 74] 5 (1, 2)))) := hb1.alloc hb1.size _
    have kc := fun (w : World) (C : Array Value) (n c : Nat) => Lib.run_convert_bytes_const (P := Try.prog) w 66 5 C n c Try.underlying66 Try.underlying5
    have hPN1 : 0 < (putNum (l.length : Int)).length := by
      unfold putNum
      rw [if_pos (by omega), vlq_small _ _ (by omega)]
      simp
    clear hb1 HT2
    go_wp2_with fail
    refine (HPN.out (l.length : Int) _).mono ?_
    rintro e w2 ⟨v2, rfl, ho2, hb2⟩
    have hb2' : Below (w1.heap.size + 1) (w1.alloc (.cells #[.int .u8 74] 5 (1, 2))) w2 := by have := hb2; simp at this; exact this
    have hm2 := HM.out _ hb2'
    have hb02 : Below w.heap.size w w2 := HB1.out.trans (hb2.mono HB1.out.size)
    obtain ⟨q2, c2, rfl, _, hq2⟩ := own_rd ho2
    rcases hq2 with hq2 | ⟨b2, off2, rfl, _, hq2⟩
    · rw [hq2] at hPN1; simp at hPN1
    have HN2 : Hid (∀ j u, ((putNum (l.length : Int)).map (Value.int .u8))[j]? = some u → w2.cell? ((⟨b2, off2, none⟩ : Addr).add j) = some u) := by
      intro j u hj
      rw [Go.WideShapes.add_plain]
      have hj1 : j < (putNum (l.length : Int)).length := by have := (List.getElem?_eq_some_iff.1 hj).1; simpa using this
      rw [hq2 j hj1, ← hj]
      simp [List.getD, hj1]
    have HM2 : Hid (∀ b, some (⟨w1.heap.size, 0, none⟩ : Addr) = some b → ∀ j u, [Value.int .u8 74][j]? = some u → w2.cell? (b.add j) = some u) := by
      intro b hb j u hj
      cases hb
      obtain ⟨hj1, rfl⟩ := List.getElem?_eq_some_iff.1 hj
      simp at hj1
      subst hj1
      rw [Go.WideShapes.add_plain]
      exact hm2
    clear HM hb2 ho2 HB1 hb2' hm2 hq2
    go_wp2_with (at_builtin; refine wpList_append_grows _ rfl (.tmp 11) (.tmp 14) 66 rfl 5 i0 (.int .u8 0) 1 1 Try.underlying66 hi hz0 hz1 hz2 rfl (by decide) (some ⟨w1.heap.size, 0, none⟩) 1 1 [.int .u8 74] rfl (by intro h; cases h) rfl HM2.out ⟨b2, off2, none⟩ (putNum (l.length : Int)).length c2 ((putNum (l.length : Int)).map (Value.int .u8)) rfl (by simp) HN2.out (fun u hu => by obtain ⟨_, _, rfl⟩ := List.mem_map.1 hu; rfl) (by omega) (by unfold maxLen; omega) (by omega) ?_)
    intro v3 w3 ho3 hg3
    have HI3 : Hid (HInv w w3 v3 (.slice none 0 0) (74 :: putNum (l.length : Int) ++ ((l.map (·.1)).take 0).flatMap putNum) ((l.map (·.2)).take 0)) := by
      refine ⟨?_, World.ownsRow_nil _ _ _ _, hb02.grown hg3 hb02.size (fun j hj => by cases hj)⟩
      simp only [List.take_zero, List.flatMap_nil, List.append_nil, List.length_cons, List.map_cons]
      rw [Nat.add_comm]
      exact ownsRow_base ho3 hb02.size
    clear ho3 hg3 HM2 HN2 hb02 kc
    generalize hPN : putNum (l.length : Int) = pn at *
    go_wp2
    go_loopw [3, 4, 18] (fun v u i wr => ∃ k : Nat, k ≤ l.length ∧ i = .int .i64 k ∧ Hid (HInv w wr v u (74 :: pn ++ ((l.map (·.1)).take k).flatMap putNum) ((l.map (·.2)).take k))) (fun _ _ i _ => l.length - (intOf i).toNat)
    case atStart => exact ⟨0, Nat.zero_le _, rfl, HI3⟩
    case round =>
      obtain ⟨k, hk, rfl, HI⟩ := hrel
      clear HI3
      by_cases hlt : k < l.length
      · obtain ⟨x, off, rfl, hblt, hc0, hc1⟩ := HCS.out k hlt
        have hd0 : wr.cell? ⟨x, off + k * 2, none⟩ = some (.int .i64 l[k].1) := (HI.out.below.cell hblt).trans hc0
        have hd1 : wr.cell? ⟨x, off + k * 2 + 1, none⟩ = some (.string l[k].2) := (HI.out.below.cell hblt).trans hc1
        have HTK : Hid (74 :: pn ++ ((l.map (·.1)).take (k + 1)).flatMap putNum = 74 :: pn ++ ((l.map (·.1)).take k).flatMap putNum ++ putNum l[k].1) := by
          show _ = _
          rw [flatNum_take (by simpa using hlt), List.append_assoc]
          simp
        have HTT : Hid ((l.map (·.2)).take (k + 1) = (l.map (·.2)).take k ++ [l[k].2]) := by
          show _ = _
          rw [List.take_succ_eq_append_getElem (by simpa using hlt)]
          simp
        have HLT : Hid (((l.map (·.2)).take k).length = k) := by show _ = _; simp; omega
        have HLB : Hid ((74 :: pn ++ ((l.map (·.1)).take k).flatMap putNum).length ≤ 300) := by
          have := HL.out k
          show _ ≤ _
          rw [List.length_append, List.length_cons]
          omega
        clear hc0 hc1
        generalize l[k].1 = y at *
        generalize l[k].2 = ys at *
        generalize 74 :: pn ++ ((l.map (·.1)).take k).flatMap putNum = B0 at *
        generalize (l.map (·.2)).take k = T0 at *
        have HV1 : Hid (Var (wr.alloc (.cells #[.int .i64 y, .string ys] 59)) wr.heap.size #[.int .i64 y, .string ys] 59) := Var.made wr _ _
        have HI1 : Hid (HInv w (wr.alloc (.cells #[.int .i64 y, .string ys] 59)) u3 u4 B0 T0) := HI.out.new (below1 wr _)
        have hy0 := HV1.out.cell 0
        simp at hy0
        have hpy := putNum_len y
        have HPT := HPN.out y (wr.alloc (.cells #[.int .i64 y, .string ys] 59))
        have HPT2 : Hid (Calls Try.prog 43 #[.int .i64 y] (wr.alloc (.cells #[.int .i64 y, .string ys] 59)) fun e w' => ∃ v, e = .returned v ∧ w'.ownsRow (wr.heap.size + 1) 5 1 v (putNum y).length ((putNum y).map (Value.int .u8)) ∧ Below (wr.heap.size + 1) (wr.alloc (.cells #[.int .i64 y, .string ys] 59)) w') := by
          rw [show wr.heap.size + 1 = (wr.alloc (.cells #[.int .i64 y, .string ys] 59)).heap.size by simp]
          exact HPT
        clear HPT HI
        generalize putNum y = py at *
        go_wp2_with fail
        refine HPT2.out.mono ?_
        rintro e w4 ⟨v4, rfl, ho4, hb4⟩
        have hb4' : Below (wr.alloc (.cells #[.int .i64 y, .string ys] 59)).heap.size (wr.alloc (.cells #[.int .i64 y, .string ys] 59)) w4 := by
          rw [show (wr.alloc (.cells #[.int .i64 y, .string ys] 59)).heap.size = wr.heap.size + 1 by simp]
          exact hb4
        have hI4 := HI1.out.new hb4'
        have HV4 : Hid (Var w4 wr.heap.size #[.int .i64 y, .string ys] 59) := HV1.out.new hb4'
        have HSR : Hid (Src Try.prog 1 66 v4 py.length (py.map (Value.int .u8)) w4) := src_own Try.underlying66 ho4 (fun u hu => by obtain ⟨_, _, rfl⟩ := List.mem_map.1 hu; rfl)
        have hO4 := hI4.own
        clear ho4 hb4 hb4' HI1 HV1 hy0 hd0 hd1 HPT2
        go_wp2_with (at_builtin; refine wpList_append_own_src _ rfl (.tmp 22) (.tmp 25) 66 66 rfl w.heap.size 5 i0 (.int .u8 0) 1 1 Try.underlying66 hi hz0 hz1 hz2 rfl _ _ _ rfl hO4 _ _ _ rfl HSR.out (by have := HLB.out; unfold maxLen; omega) (by have := HLB.out; omega) hI4.below.size ?_)
        intro v5 w5 ho5 hg5
        have HI5 : Hid (HInv w w5 v5 u4 (B0 ++ py) T0) := hI4.bytes ho5 hg5
        have hV5 : Var w5 wr.heap.size #[.int .i64 y, .string ys] 59 := HV4.out.only (Only.of_grown hg5) (own_var hO4 HV4.out (by decide))
        have hy1 := hV5.cell 1
        simp at hy1
        have hI6 := HI5.out.new (below1 w5 (.cells #[.string ys] 9))
        have ho6 := hI6.txt
        have HS6 : Hid (Src Try.prog 1 36 (.slice (some ⟨w5.heap.size, 0, none⟩) 1 1) 1 [.string ys] (w5.alloc (.cells #[.string ys] 9))) := src_one Try.underlying36 w5 (.string ys) rfl
        clear ho5 hg5 hI4 hO4 HSR HV4 hV5 HI5
        go_wp2_with (at_builtin; refine wpList_append_own_src _ rfl (.tmp 27) (.tmp 30) 36 36 rfl w.heap.size 9 i1 (.string ⟨#[]⟩) 1 16 Try.underlying36 gi gz0 gz1 gz2 rfl _ _ _ rfl ho6 _ 1 [.string ys] rfl HS6.out (by have := HLT.out; unfold maxLen; omega) (by have := HLT.out; omega) hI6.below.size ?_)
        intro v7 w7 ho7 hg7
        have HI7 : Hid (HInv w w7 v5 v7 (74 :: pn ++ ((l.map (·.1)).take (k + 1)).flatMap putNum) ((l.map (·.2)).take (k + 1))) := by
          show HInv _ _ _ _ _ _
          rw [HTK.out, HTT.out]
          exact hI6.text ho7 hg7
        clear ho7 hg7 hI6 ho6 HS6 HTK HTT hy1
        go_wp2
        go_roundw
        case rel => exact ⟨k + 1, by omega, by go_num, HI7⟩
        case measure => simp [intOf]; omega
      · obtain rfl : k = l.length := by omega
        have hI := HI.out
        have hB9 := hI.below
        have hO9 := hI.own
        have hT9 := hI.txt
        have h300 := HL.out l.length
        have e1 : (l.map (·.1)).take l.length = l.map (·.1) := by rw [List.take_of_length_le (by simp)]
        have e2 : (l.map (·.2)).take l.length = l.map (·.2) := by rw [List.take_of_length_le (by simp)]
        rw [e1] at hO9 h300
        rw [e2] at hT9
        have HFB : Hid (headB (l.map (·.1)) (sumOf (l.map (·.2))) = 74 :: pn ++ (l.map (·.1)).flatMap putNum ++ four (sumOf (l.map (·.2)))) := by show _ = _; unfold headB; rw [List.length_map, hPN]
        have hU : U8 (headB (l.map (·.1)) (sumOf (l.map (·.2)))) := headB_u8 (sumOf_lt _)
        have hs32 := sumOf_lt (l.map (·.2))
        have hn2 : (l.map (·.2)).length = l.length := by simp
        clear hPN HI e1 e2 HL
        generalize hS : l.map (·.2) = T at *
        generalize (l.map (·.1)).flatMap putNum = F at *
        obtain ⟨ya, yc, rfl, _, hrs⟩ := own_rdS hT9
        have HSM : Hid (Calls Try.prog 45 #[.slice ya T.length yc] wr fun e w' => e = .returned (.int .i64 ((sumOf T : Nat) : Int)) ∧ Below wr.heap.size wr w') := implSum ya yc T wr (by omega) HZ.out hrs
        have HPS : Hid (∀ W, Calls Try.prog 44 #[.int .i64 ((sumOf T : Nat) : Int)] W fun e w' => ∃ v, e = .returned v ∧ w'.ownsRow W.heap.size 5 1 v 4 ((four (sumOf T)).map (Value.int .u8)) ∧ Below W.heap.size W w') := fun W => implPutSum (sumOf T) W hs32
        have HFU : Hid (U8 (74 :: pn ++ F ++ four (sumOf T))) := by show U8 _; rw [← HFB.out]; exact hU
        have HFT : Hid (headText l = baOf (74 :: pn ++ F ++ four (sumOf T))) := by show _ = _; rw [HF.out, HFB.out]
        have hl4 : (four (sumOf T)).length = 4 := rfl
        have hBL : (74 :: pn ++ F).length ≤ 300 := by rw [List.length_append, List.length_cons]; omega
        clear hT9 hrs hS hs32 HZ hU HFB HF hn2 hI
        generalize sumOf T = sm at *
        generalize four sm = fo at *
        generalize 74 :: pn ++ F = B0 at *
        go_wp2_with fail
        refine HSM.out.mono ?_
        rintro e w8 ⟨rfl, hb8⟩
        have hO8 := ownsRow_below hO9 hb8 (Nat.le_refl _)
        have hB8 : Below w.heap.size w w8 := hB9.trans (hb8.mono hB9.size)
        clear hO9 hB9 hb8 HSM
        go_wp2_with fail
        refine (HPS.out w8).mono ?_
        rintro e w10 ⟨v10, rfl, ho10, hb10⟩
        have hO10 := ownsRow_below hO8 hb10 (Nat.le_refl _)
        have hB10 : Below w.heap.size w w10 := hB8.trans (hb10.mono hB8.size)
        have HSR : Hid (Src Try.prog 1 66 v10 4 (fo.map (Value.int .u8)) w10) := src_own Try.underlying66 ho10 (fun u hu => by obtain ⟨_, _, rfl⟩ := List.mem_map.1 hu; rfl)
        clear hO8 hB8 hb10 ho10 HPS
        go_wp2_with (at_builtin; refine wpList_append_own_src _ rfl (.tmp 33) (.tmp 36) 66 66 rfl w.heap.size 5 i0 (.int .u8 0) 1 1 Try.underlying66 hi hz0 hz1 hz2 rfl _ _ _ rfl hO10 _ _ _ rfl HSR.out (by unfold maxLen; omega) (by omega) hB10.size ?_)
        intro v11 w11 ho11 hg11
        have hB11 : Below w.heap.size w w11 := hB10.grown hg11 hB10.size (fun j hj => (hO10.lt j hj).1)
        have ho12 : w11.ownsRow w.heap.size 5 1 v11 (B0 ++ fo).length ((B0 ++ fo).map (Value.int .u8)) := by
          rw [List.length_append, List.map_append, hl4]; exact ho11
        obtain ⟨q, qc, rfl, _, hrq⟩ := own_rd ho12
        rcases hrq with h0 | ⟨b, off, rfl, _, hc⟩
        · have : (B0 ++ fo).length = 0 := by rw [h0]; rfl
          rw [List.length_append] at this
          omega
        have hcv := conv_ba (cap := qc) HFU.out hc
        clear ho11 hg11 ho12 hO10 HSR hc
        generalize (B0 ++ fo).length = NN at *
        go_wp2
        go_ret
        exact ⟨by rw [HFT.out]; rfl, hB11⟩
end Go.Proofs.Ytlidmnehpcodkaa
