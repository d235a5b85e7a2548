/-
  Own text: heads, as the other program writes them.
-/
import Derived.Test.YtlidmnehpcodkaaSSumW
import Derived.Laws.IdiomStrings
namespace Go.Proofs.Ytlidmnehpcodkaa
open Go.RowKit

/-- Bytes that lie in a row, turned into a text. -/
theorem conv_ba {w : World} {b off cap : Nat} {l : List Int} (hu : U8 l) (hc : ∀ i, i < l.length → w.cell? ⟨b, off + i, none⟩ = some (.int .u8 (l.getD i 0))) :
    (convert 66 9 (.slice (some ⟨b, off, none⟩) l.length cap)).run Try.prog w = .ok (.string (baOf l)) w := by
  have h := run_convert_bytes_back (P := Try.prog) w 66 9 5 ⟨b, off, none⟩ cap (l.map fun x => UInt8.ofNat x.toNat) Try.underlying66 Try.underlying5 Try.underlying9 (by
    intro j hj
    rw [List.length_map] at hj
    rw [Go.WideShapes.add_plain, hc j hj]
    have := hu _ (List.getElem_mem hj)
    simp [List.getD, hj]
    omega)
  rw [List.length_map] at h
  exact h

set_option maxRecDepth 20000 in
set_option maxHeartbeats 1000000 in
theorem specFour (n : Nat) (w : World) (hn : n < 4294967296) :
    Calls Try.prog 69 #[.int .i64 (n : Int)] w fun e w' => e = .returned (.string (baOf (four n))) ∧ Below w.heap.size w w' := by
  have hu := four_u8 hn
  have hV : Var (w.alloc (.cells ((four n).map (Value.int .u8)).toArray 5)) w.heap.size ((four n).map (Value.int .u8)).toArray 5 := Var.made w _ _
  have hcv := conv_ba (w := w.alloc (.cells ((four n).map (Value.int .u8)).toArray 5)) (b := w.heap.size) (off := 0) (cap := 4) hu (fun i hi => by
    rw [Nat.zero_add, hV.cell i]
    simp [List.getD, hi])
  have hfl : (four n).length = 4 := rfl
  have HBF := hcv
  obtain ⟨Z, hZ⟩ : ∃ Z, baOf (four n) = Z := ⟨_, rfl⟩
  rw [hZ, hfl] at hcv
  have e : (four n).map (Value.int .u8) = [.int .u8 ((n : Int) / 16777216), .int .u8 ((n : Int) / 65536 % 256), .int .u8 ((n : Int) / 256 % 256), .int .u8 ((n : Int) % 256)] := by
    simp [four]
  rw [e] at hcv
  clear HBF hV hu hfl e
  rw [hZ]
  go_enter Try.func69, Try.ntmps69
  go_wp2
  go_ret
  exact ⟨rfl, below1 _ _⟩

theorem flatNum_take {ats : List Int} {k : Nat} (h : k < ats.length) : (ats.take (k + 1)).flatMap putNum = (ats.take k).flatMap putNum ++ putNum ats[k] := by
  rw [List.take_succ_eq_append_getElem h, List.flatMap_append]; simp only [List.flatMap_cons, List.flatMap_nil, List.append_nil]
theorem flatNum_le (ats : List Int) : (ats.flatMap putNum).length ≤ ats.length * 5 := by
  induction ats with
  | nil => simp
  | cons x l ih =>
    have := putNum_len x
    simp only [List.flatMap_cons, List.length_append, List.length_cons] at ih ⊢
    omega
theorem baOf_app (l m : List Int) : baOf l ++ baOf m = baOf (l ++ m) := by
  apply ByteArray.ext
  simp [baOf, ByteArray.data_append]
theorem baOf_size (l : List Int) : (baOf l).size = l.length := by simp [baOf, ByteArray.size]

set_option maxRecDepth 20000 in
set_option maxHeartbeats 1000000 in
theorem specHead (a : Option Addr) (cap : Nat) (ats : List Int) (sum : Nat) (w : World) (hl : ats.length ≤ 48) (hs : sum < 4294967296) (hr : Rd .i64 w a ats) :
    Calls Try.prog 41 #[.slice a ats.length cap, .int .i64 (sum : Int)] w fun e w' => e = .returned (.string (baOf (headB ats sum))) ∧ Below w.heap.size w w' := by
  obtain ⟨i0, hi, hz0, hz1, hz2⟩ := info_parts Try.infoU8
  have HCS : Hid (∀ k (hk : k < ats.length), ∃ x off, a = some ⟨x, off, none⟩ ∧ x < w.heap.size ∧ w.cell? ⟨x, off + k, none⟩ = some (.int .i64 ats[k])) := by
    intro k hk
    rcases hr with rfl | ⟨b, off, rfl, hlt, hc⟩
    · simp at hk
    · refine ⟨b, off, rfl, hlt, ?_⟩
      rw [hc k hk]
      simp [List.getD, hk]
  have HFO : Hid (∀ W, Calls Try.prog 69 #[.int .i64 (sum : Int)] W fun e w' => e = .returned (.string (baOf (four sum))) ∧ Below W.heap.size W w') := fun W => specFour sum W hs
  have HL : Hid (∀ k, ((ats.take k).flatMap putNum).length ≤ 240) := by
    intro k
    have := flatNum_le (ats.take k)
    simp only [List.length_take] at this
    have : ((ats.take k).flatMap putNum).length ≤ min k ats.length * 5 := this
    omega
  have HU : Hid (∀ k, U8 (74 :: putNum (ats.length : Int) ++ (ats.take k).flatMap putNum)) := by
    intro k x hx
    rcases List.mem_append.1 hx with hx | hx
    · rcases List.mem_cons.1 hx with rfl | hx
      · omega
      · exact putNum_u8 _ x hx
    · exact flatNum_u8 _ x hx
  have hpl := putNum_len (ats.length : Int)
  have HHB : Hid (baOf (74 :: putNum (ats.length : Int) ++ ats.flatMap putNum) ++ baOf (four sum) = baOf (headB ats sum)) := by show _ = _; rw [baOf_app]; rfl
  have HPN : Hid (∀ n W, Calls Try.prog 68 #[.int .i64 n] W fun e w' => ∃ v, e = .returned v ∧ w'.ownsRow W.heap.size 5 1 v (putNum n).length ((putNum n).map (Value.int .u8)) ∧ Below W.heap.size W w') := fun n W => specPutNum n W
  have hmade : (w.alloc (.cells #[.int .u8 74] 5)).ownsRow w.heap.size 5 1 (.slice (some ⟨w.heap.size, 0, none⟩) 1 1) 1 [.int .u8 74] := ⟨rfl, .inr ⟨w.heap.size, 1, #[.int .u8 74], rfl, Nat.le_refl _, heap_alloc_new w _, Nat.le_refl _, by unfold maxLen; omega, rfl, rfl⟩⟩
  have HM : Hid ((w.alloc (.cells #[.int .u8 74] 5)).ownsRow w.heap.size 5 1 (.slice (some ⟨w.heap.size, 0, none⟩) 1 1) 1 [.int .u8 74]) := hmade
  clear hr hmade
  go_enter Try.func41, Try.ntmps41
  go_wp2_with fail
  refine (HPN.out (ats.length : Int) _).mono ?_
  rintro e w1 ⟨v1, rfl, ho1, hb1⟩
  have hO1 := ownsRow_below HM.out hb1 (Nat.le_refl _)
  have HSR : Hid (Src Try.prog 1 66 v1 (putNum (ats.length : Int)).length ((putNum (ats.length : Int)).map (Value.int .u8)) w1) := src_own Try.underlying66 ho1 (fun u hu => by obtain ⟨_, _, rfl⟩ := List.mem_map.1 hu; rfl)
  have hb01 : Below w.heap.size w w1 := (below1 w _).trans (hb1.mono (by simp))
  clear HM hb1 ho1
  go_wp2_with (at_builtin; refine wpList_append_own_src _ rfl _ _ 66 66 rfl w.heap.size 5 i0 (.int .u8 0) 1 1 Try.underlying66 hi hz0 hz1 hz2 rfl _ _ _ rfl hO1 _ _ _ rfl HSR.out (by unfold maxLen; omega) (by omega) hb01.size ?_)
  intro v2 w2 ho2 hg2
  have hb2 : Below w.heap.size w w2 := hb01.grown hg2 hb01.size (fun j hj => (hO1.lt j hj).1)
  have HO3 : Hid (w2.ownsRow w.heap.size 5 1 v2 (74 :: putNum (ats.length : Int) ++ (ats.take 0).flatMap putNum).length ((74 :: putNum (ats.length : Int) ++ (ats.take 0).flatMap putNum).map (Value.int .u8))) := by
    show World.ownsRow _ _ _ _ _ _ _
    simp only [List.take_zero, List.flatMap_nil, List.append_nil, List.length_cons, List.map_cons]
    rw [Nat.add_comm]
    exact ho2
  have HB2 : Hid (Below w.heap.size w w2) := hb2
  clear ho2 hg2 hO1 HSR hb01 hb2
  generalize putNum (ats.length : Int) = pn at *
  go_wp2
  go_loopw [5, 6] (fun v i wr => ∃ k : Nat, k ≤ ats.length ∧ i = .int .i64 k ∧ Hid (wr.ownsRow w.heap.size 5 1 v (74 :: pn ++ (ats.take k).flatMap putNum).length ((74 :: pn ++ (ats.take k).flatMap putNum).map (Value.int .u8))) ∧ Hid (Below w.heap.size w wr)) (fun _ i _ => ats.length - (intOf i).toNat)
  case atStart => exact ⟨0, Nat.zero_le _, rfl, HO3, HB2⟩
  case round =>
    obtain ⟨k, hk, rfl, HO, HB⟩ := hrel
    clear HO3 HB2
    by_cases hlt : k < ats.length
    · obtain ⟨x, off, rfl, hblt, hcx⟩ := HCS.out k hlt
      have hcr : wr.cell? ⟨x, off + k, none⟩ = some (.int .i64 ats[k]) := (HB.out.cell hblt).trans hcx
      have HTK : Hid ((ats.take (k + 1)).flatMap putNum = (ats.take k).flatMap putNum ++ putNum ats[k]) := flatNum_take hlt
      have hl0 := HL.out k
      clear hcx
      generalize ats[k] = y at *
      have hpy := putNum_len y
      have HPT := HPN.out y wr
      have HPT2 : Hid (Calls Try.prog 68 #[.int .i64 y] wr fun e w' => ∃ v, e = .returned v ∧ w'.ownsRow wr.heap.size 5 1 v (putNum y).length ((putNum y).map (Value.int .u8)) ∧ Below wr.heap.size wr w') := HPT
      clear HPT
      generalize putNum y = py at *
      have HEQ : Hid (∀ (W : World) (v : Value), W.ownsRow w.heap.size 5 1 v ((74 :: pn ++ (ats.take k).flatMap putNum).length + py.length) ((74 :: pn ++ (ats.take k).flatMap putNum).map (Value.int .u8) ++ py.map (Value.int .u8)) → W.ownsRow w.heap.size 5 1 v (74 :: pn ++ (ats.take (k + 1)).flatMap putNum).length ((74 :: pn ++ (ats.take (k + 1)).flatMap putNum).map (Value.int .u8))) := by
        intro W v h
        rw [HTK.out, ← List.append_assoc, List.map_append, List.length_append]
        exact h
      have hlq : (74 :: pn ++ (ats.take k).flatMap putNum).length ≤ 246 := by simp only [List.length_append, List.length_cons]; omega
      generalize 74 :: pn ++ (ats.take k).flatMap putNum = q0 at *
      go_wp2_with fail
      refine HPT2.out.mono ?_
      rintro e w3 ⟨v3, rfl, ho3, hb3⟩
      have hO4 := ownsRow_below HO.out hb3 (Nat.le_refl _)
      have HSR : Hid (Src Try.prog 1 66 v3 py.length (py.map (Value.int .u8)) w3) := src_own Try.underlying66 ho3 (fun u hu => by obtain ⟨_, _, rfl⟩ := List.mem_map.1 hu; rfl)
      have hb03 : Below w.heap.size w w3 := HB.out.trans (hb3.mono HB.out.size)
      clear HO hb3 ho3
      go_wp2_with (at_builtin; refine wpList_append_own_src _ rfl _ _ 66 66 rfl w.heap.size 5 i0 (.int .u8 0) 1 1 Try.underlying66 hi hz0 hz1 hz2 rfl _ _ _ rfl hO4 _ _ _ rfl HSR.out (by unfold maxLen; omega) (by omega) hb03.size ?_)
      intro v4 w4 ho4 hg4
      have HB4 : Hid (Below w.heap.size w w4) := hb03.grown hg4 hb03.size (fun j hj => (hO4.lt j hj).1)
      have HO4 : Hid _ := HEQ.out w4 v4 ho4
      clear ho4 hg4 hO4 HSR hb03 HEQ HB
      go_wp2
      go_roundw
      case rel => exact ⟨k + 1, by omega, by go_num, HO4, HB4⟩
      case measure => simp [intOf]; omega
    · obtain rfl : k = ats.length := by omega
      have hO9 := HO.out
      rw [List.take_length] at hO9
      have hu9 := HU.out ats.length
      rw [List.take_length] at hu9
      have hl9 := HL.out ats.length
      rw [List.take_length] at hl9
      have hlq : (74 :: pn ++ ats.flatMap putNum).length ≤ 246 := by simp only [List.length_append, List.length_cons]; omega
      have hz4 : (baOf (four sum)).size = 4 := baOf_size _
      have hpos : 0 < (74 :: pn ++ ats.flatMap putNum).length := by simp
      have hzq := baOf_size (74 :: pn ++ ats.flatMap putNum)
      generalize 74 :: pn ++ ats.flatMap putNum = q9 at *
      obtain ⟨x, xc, rfl, _, hrd⟩ := own_rd hO9
      have HB9 : Hid (Below w.heap.size w wr) := HB.out
      rcases hrd with h0 | ⟨xb, xo, rfl, hlt9, hc9⟩
      · rw [h0] at hpos; simp at hpos
      have HCV : Hid (∀ W, Below wr.heap.size wr W → (convert 66 9 (.slice (some ⟨xb, xo, none⟩) q9.length xc)).run Try.prog W = .ok (.string (baOf q9)) W) :=
        fun W h => conv_ba hu9 (fun i hi => (h.cell hlt9).trans (hc9 i hi))
      have hcv0 := HCV.out wr.drew (Below.refl _ _).drew
      rw [hzq.symm] at hlq
      clear hO9 hu9 hl9 hc9 HO HL HU HCS hzq
      generalize hA : baOf q9 = A at *
      generalize baOf (four sum) = Bq at *
      have HFO2 : Hid (Calls Try.prog 69 #[.int .i64 (sum : Int)] wr.drew fun e w' => e = .returned (.string Bq) ∧ Below wr.heap.size wr w') := by
        refine (HFO.out wr.drew).mono ?_
        rintro e w' ⟨rfl, h⟩
        exact ⟨rfl, (Below.refl _ _).drew.trans h⟩
      clear HFO
      go_wp2
      go_region_with (go_at_call 69; refine HFO2.out.mono ?_; rintro e w8 ⟨rfl, hb8⟩; have hcv8 := HCV.out w8 hb8)
      all_goals
        go_wp2
        go_ret
        exact ⟨by rw [← HHB.out]; rfl, HB9.out.trans (hb8.mono HB9.out.size)⟩
end Go.Proofs.Ytlidmnehpcodkaa
