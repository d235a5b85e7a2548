/-
  Own text: the blocks of a branch, as the other program writes them.
-/
import Derived.Test.YtaabcfgjmankgaaDoorBlkB
import Derived.Test.YtaabcfgjmankgaaDoorSShapeW
import Derived.Lib.SlBytesConst
import Derived.ArgAppend
namespace Go.Proofs.YtaabcfgjmankgaaDoor
open Go.RowKit

theorem powerW (k : Nat) (w : World) (hk : k ≤ 7) :
    Calls Tryd.prog 33 #[.int .i64 (k : Nat)] w fun e w' => e = .returned (.int .i64 ((2 ^ k : Nat) : Int)) ∧ w' = w := by
  go_enter Tryd.func33, Tryd.ntmps33
  go_wp2
  go_loop [3, 4] (fun x i => ∃ j p : Nat, j ≤ k ∧ Hid (2 ^ j = p) ∧ x = .int .i64 (p : Nat) ∧ i = .int .i64 (j : Nat)) (fun _ i => k - (intOf i).toNat)
  case atStart => exact ⟨0, 1, Nat.zero_le _, rfl, rfl, rfl⟩
  case round =>
    obtain ⟨j, p, hj, HP, rfl, rfl⟩ := hrel
    have hp : p ≤ 128 := by
      rw [← HP.out]
      exact Nat.pow_le_pow_right (n := 2) (by omega) (show j ≤ 7 by omega)
    by_cases hlt : j < k
    · have HP2 : Hid (2 ^ (j + 1) = p * 2) := by show _ = _; rw [Nat.pow_succ, HP.out]
      go_wp2
      go_round
      case rel => exact ⟨j + 1, p * 2, by omega, HP2, by go_num, by go_num⟩
      case measure => simp [intOf]; omega
    · obtain rfl : j = k := by omega
      go_wp2
      go_ret
      exact ⟨by rw [show ((2 : Int) ^ j) = (p : Int) by rw [← HP.out]; simp]; rfl, rfl⟩
theorem cellMk (W : World) (C : Array Value) (t : TypeId) (m : Nat × Nat) (j : Nat) : (W.alloc (.cells C t m)).cell? ⟨W.heap.size, j, none⟩ = C[j]? := cell_of_row _ _ _ _ _ _ (heap_alloc_new W _)
theorem putNum_pos {n : Nat} (h : n < 128) : 0 < (putNum (n : Int)).length := by
  unfold putNum
  rw [if_pos (by omega), vlq_small _ _ (by omega)]
  simp
theorem rowAt {w : World} {b off : Nat} {l : List Int} (h : ∀ i, i < l.length → w.cell? ⟨b, off + i, none⟩ = some (.int .u8 (l.getD i 0))) : ∀ j u, (l.map (Value.int .u8))[j]? = some u → w.cell? ((⟨b, off, none⟩ : Addr).add j) = some u := by
  intro j u hj
  rw [Go.WideShapes.add_plain]
  have hj1 : j < l.length := by have := (List.getElem?_eq_some_iff.1 hj).1; simpa using this
  rw [h j hj1, ← hj]
  simp [List.getD, hj1]
theorem add_pow : ∀ (a : Fin 256) (r : Fin 8), a.val / 2 ^ r.val % 2 = 0 → a.val + 2 ^ r.val < 256 := by decide +kernel

theorem tdivN (k : Nat) : (k : Int).tdiv 8 = ((k / 8 : Nat) : Int) := by rw [Int.tdiv_eq_ediv_of_nonneg (by omega)]; omega
theorem tmodN (k : Nat) : (k : Int).tmod 8 = ((k % 8 : Nat) : Int) := by rw [Int.tmod_eq_emod_of_nonneg (by omega)]; omega
theorem made_bytes (n : Nat) : (madeCells #[Value.int .u8 0] n).toList = (List.replicate n (0 : Int)).map (Value.int .u8) := by
  apply List.ext_getElem?
  intro k
  by_cases hk : k < n
  · simp [madeCells, hk, Nat.mod_one]
  · rw [List.getElem?_eq_none (by rw [Array.length_toList, size_madeCells]; omega), List.getElem?_eq_none (by simp; omega)]
/-- While bits are set: the texts so far, the bits of the first k blocks, the counts. -/
structure BitInv (w W : World) (C : Array Value) (v : Value) (L : List ByteArray) (gb g1 : Nat) (F : FsD) (M k : Nat) : Prop where
  bk : BkInv w W C v L
  bits : W.ownsRow (w.heap.size + 1) 5 1 (.slice (some ⟨gb, 0, none⟩) M M) M ((bitsB (hadL (allB F.ns) k) M).map (Value.int .u8))
  used : ∀ k, k < F.ds.length → W.cell? ⟨g1, k, none⟩ = some (.int .i64 ((allB F.ns).count (k : Int) : Nat))
theorem BitInv.put {w W : World} {C : Array Value} {v : Value} {L : List ByteArray} {gb g1 : Nat} {F : FsD} {M k j : Nat} (h : BitInv w W C v L gb g1 F M k) (hne : g1 ≠ gb) (q : Nat) (x : Int) (he : (bitsB (hadL (allB F.ns) k) M).set q x = bitsB (hadL (allB F.ns) j) M) :
    BitInv w (W.setCell ⟨gb, q, none⟩ (.int .u8 x)) C v L gb g1 F M j := by
  have hO : Only (fun i => i = gb) W (W.setCell ⟨gb, q, none⟩ (.int .u8 x)) := Only.setCell (S := fun i => i = gb) (Only.refl _ _) (p := ⟨gb, q, none⟩) rfl _
  have hgl := (h.bits.lt gb rfl).1
  refine ⟨⟨h.bk.var.only hO (by omega), own_only h.bk.row hO (fun i hi e => own_apart h.bk.row h.bits (by decide) i hi (by rw [e]; rfl)), h.bk.bel.trans (hO.below h.bk.bel.size (fun i e => by omega))⟩, ?_, ?_⟩
  · have hst := (h.bits.stored q (.int .u8 x)).1
    rw [← List.map_set, he] at hst
    exact hst
  · intro i hi
    rw [← h.used i hi]
    exact hO.cell (World.block_lt_of_cell? W _ (h.used i hi)) hne
theorem BitInv.drew {w W : World} {C : Array Value} {v : Value} {L : List ByteArray} {gb g1 : Nat} {F : FsD} {M k : Nat} (h : BitInv w W C v L gb g1 F M k) : BitInv w W.drew C v L gb g1 F M k :=
  ⟨⟨h.bk.var, h.bk.row, h.bk.bel.drew⟩, h.bits, h.used⟩

set_option maxRecDepth 20000 in
set_option maxHeartbeats 8000000 in
theorem specFsBlocks (v : Value) (F : FsD) (w : World) (hsm : SmF F) (hr : RdFs w v F) :
    Calls Tryd.prog 17 #[v] w fun e w' => ∃ u, e = .returned u ∧ w'.ownsRow w.heap.size 9 1 u (fsBl F).length ((fsBl F).map Value.string) ∧ Below w.heap.size w w' := by
  obtain ⟨i0, hi, hz0, hz1, hz2⟩ := info_parts Tryd.infoU8
  obtain ⟨i1, gi, gz0, gz1, gz2⟩ := info_parts Tryd.infoTxt
  have hrd := hr
  obtain ⟨a, ca, b, cb, rfl, _, r1, r2⟩ := hr
  have HRD : Hid (∀ W, Below w.heap.size w W → RdFs W (.agg #[.slice a F.ns.length ca, .slice b F.ds.length cb]) F) := fun W h => hrd.below h (Nat.le_refl _)
  have HR1 : Hid (RdNs w a F.ns) := r1
  have HR2 : Hid (∀ W, Below w.heap.size w W → RdS W b F.ds) := fun W h => r2.below h (Nat.le_refl _)
  have HSM : Hid (SmF F) := hsm
  clear hrd hsm r1 r2
  go_enter Tryd.func17, Tryd.ntmps17
  go_wp2_with fail
  refine (specShapeOk _ F _ HSM.out (HRD.out _ (below1 _ _))).mono ?_
  rintro e w1 ⟨rfl, hb1⟩
  have hX : Var w1 w.heap.size #[.slice a F.ns.length ca, .slice b F.ds.length cb] 26 := (Var.made w _ _).new hb1
  have hb01 : Below w.heap.size w w1 := (below1 w _).trans (hb1.mono (by simp))
  have hlt := hX.lt
  clear hb1
  obtain ⟨q, hq⟩ : ∃ q, shOk F = q := ⟨_, rfl⟩
  rw [hq]
  cases q with
  | false =>
    have HF : Hid (fsBl F = []) := fsBl_no hq
    have HO : Hid ((w1.alloc (.cells #[] 9)).ownsRow w.heap.size 9 1 (.slice (some ⟨w1.heap.size, 0, none⟩) 0 0) 0 []) := World.ownsRow_made w1 #[] 0 (by omega) (Nat.zero_le _) rfl
    have HB : Hid (Below w.heap.size w (w1.alloc (.cells #[] 9))) := hb01.alloc hb01.size _
    clear hq hX hb01
    go_wp2
    go_ret
    exact ⟨_, rfl, by rw [HF.out]; exact HO.out, HB.out⟩
  | true =>
    have HSP : Hid (ShapeP F) := shOk_iff.1 hq
    have HF : Hid (fsBl F = baOf (fsHead F) :: baOf (bitsB (allB F.ns) ((F.ds.length + 7) / 8)) :: (F.ns.map ndText ++ F.ds)) := by show _ = _; unfold fsBl; rw [if_pos hq]
    obtain ⟨hc1, hc2, hc3, hc4⟩ := HSP.out.1
    have x0 := hX.cell 0
    simp at x0
    have HM : Hid (∀ W, Below (w1.heap.size + 1) (w1.alloc (.cells #[.int .u8 66, .int .u8 65, .int .u8 83, .int .u8 78] 5 (4, 5))) W → ∀ b, some (⟨w1.heap.size, 0, none⟩ : Addr) = some b → ∀ j u, [Value.int .u8 66, .int .u8 65, .int .u8 83, .int .u8 78][j]? = some u → W.cell? (b.add j) = some u) := by
      intro W h b hb j u hj
      cases hb
      rw [Go.WideShapes.add_plain, Nat.zero_add, h.cell (show w1.heap.size < w1.heap.size + 1 by omega), cellMk]
      simpa using hj
    have hX2 := hX.alloc (.cells #[.int .u8 66, .int .u8 65, .int .u8 83, .int .u8 78] 5 (4, 5))
    have hb02 : Below w.heap.size w (w1.alloc (.cells #[.int .u8 66, .int .u8 65, .int .u8 83, .int .u8 78] 5 (4, 5))) := hb01.alloc hb01.size _
    have hs02 : (w1.alloc (.cells #[.int .u8 66, .int .u8 65, .int .u8 83, .int .u8 78] 5 (4, 5))).heap.size = w1.heap.size + 1 := by simp
    have kc := fun (w : World) (C : Array Value) (n c : Nat) => Lib.run_convert_bytes_const (P := Tryd.prog) w 45 5 C n c Tryd.underlying45 Tryd.underlying5
    have x2 := hX2.cell 0
    simp at x2
    have hPN1 := putNum_pos (n := F.ns.length) (by omega)
    clear hq
    go_wp2_with fail
    clear x0 x2 hX hb01 hlt kc
    generalize w1.alloc (.cells #[.int .u8 66, .int .u8 65, .int .u8 83, .int .u8 78] 5 (4, 5)) = w2 at *
    refine (specPutNum _ _).mono ?_
    rintro e w3 ⟨p1, rfl, hp1, hb3⟩
    have hX3 := hX2.new hb3
    have hb03 : Below w.heap.size w w3 := hb02.trans (hb3.mono hb02.size)
    have HM3 : Hid (∀ b, some (⟨w1.heap.size, 0, none⟩ : Addr) = some b → ∀ j u, [Value.int .u8 66, .int .u8 65, .int .u8 83, .int .u8 78][j]? = some u → w3.cell? (b.add j) = some u) := HM.out w3 (hs02 ▸ hb3)
    have hpl1 := putNum_len (F.ns.length : Int)
    obtain ⟨q2, c2, rfl, _, hq2⟩ := own_rd hp1
    rcases hq2 with hq2 | ⟨b2, off2, rfl, _, hq2⟩
    · rw [hq2] at hPN1; simp at hPN1
    have HN3 : Hid (∀ j u, ((putNum (F.ns.length : Int)).map (Value.int .u8))[j]? = some u → w3.cell? ((⟨b2, off2, none⟩ : Addr).add j) = some u) := rowAt hq2
    clear hp1 hb3 hX2 hb02 HM hq2 hs02
    go_wp2_with (at_builtin; refine wpList_append_grows _ rfl (.tmp 14) (.tmp 18) 45 rfl 5 i0 (.int .u8 0) 1 1 Tryd.underlying45 hi hz0 hz1 hz2 rfl (by decide) (some ⟨w1.heap.size, 0, none⟩) 4 4 [.int .u8 66, .int .u8 65, .int .u8 83, .int .u8 78] rfl (by intro h; cases h) rfl HM3.out ⟨b2, off2, none⟩ (putNum (F.ns.length : Int)).length c2 ((putNum (F.ns.length : Int)).map (Value.int .u8)) rfl (by simp) HN3.out (fun u hu => by obtain ⟨_, _, rfl⟩ := List.mem_map.1 hu; rfl) (by omega) (by unfold maxLen; omega) (by omega) ?_)
    intro v4 w4 ho4 hg4
    have hX4 : Var w4 w.heap.size #[.slice a F.ns.length ca, .slice b F.ds.length cb] 26 := hX3.only (Only.of_grown hg4) (fun hj => by cases hj)
    have hb04 : Below w.heap.size w w4 := hb03.grown hg4 hb03.size (fun j hj => by cases hj)
    replace ho4 := ownsRow_base ho4 (show w.heap.size + 1 ≤ w3.heap.size from hX3.lt)
    have x1 := hX4.cell 1
    simp at x1
    clear hg4 hb03 hX3 HM3 HN3
    go_wp2_with fail
    refine (specPutNum _ _).mono ?_
    rintro e w5 ⟨p2, rfl, hp2, hb5⟩
    have hX5 := hX4.new hb5
    have hb05 : Below w.heap.size w w5 := hb04.trans (hb5.mono hb04.size)
    have ho5 := ownsRow_below ho4 hb5 (Nat.le_refl _)
    have HS5 : Hid (Src Tryd.prog 1 45 p2 (putNum F.ds.length).length ((putNum F.ds.length).map (Value.int .u8)) w5) := src_ownN Tryd.underlying45 hp2 (fun u hu => by obtain ⟨_, _, rfl⟩ := List.mem_map.1 hu; rfl)
    have hpl2 := putNum_len (F.ds.length : Int)
    have hsz5 : w.heap.size + 1 ≤ w5.heap.size := hX5.lt
    clear hp2 hb5 hX4 hb04 ho4 x1
    go_wp2_with (at_builtin; refine wpList_append_own_src _ rfl (.tmp 20) (.tmp 24) 45 45 rfl (w.heap.size + 1) 5 i0 (.int .u8 0) 1 1 Tryd.underlying45 hi hz0 hz1 hz2 rfl _ _ _ rfl ho5 _ _ _ rfl HS5.out (by unfold maxLen; omega) (by omega) hsz5 ?_)
    intro v6 w6 ho6 hg6
    have hX6 : Var w6 w.heap.size #[.slice a F.ns.length ca, .slice b F.ds.length cb] 26 := hX5.only (Only.of_grown hg6) (fun hj => by have := (ho5.lt _ hj).1; omega)
    have hb06 : Below w.heap.size w w6 := hb05.grown hg6 hb05.size (fun j hj => by have := (ho5.lt j hj).1; omega)
    have hcv : (convert 45 9 v6).run Tryd.prog w6 = .ok (.string (baOf (fsHead F))) w6 := by
      refine conv_row (fsHead_u8 F) (fsHead_len HSP.out).2 (base := w.heap.size + 1) ?_
      unfold fsHead
      simp only [List.length_append, List.map_append, List.length_cons, List.length_nil]
      rw [← List.append_assoc, ← Nat.add_assoc]
      exact ho6
    have HI6 := BkInv.made hX6 hb06 (baOf (fsHead F))
    have HI : Hid (BkInv w (w6.alloc (.cells #[.string (baOf (fsHead F))] 9)) #[.slice a F.ns.length ca, .slice b F.ds.length cb] (.slice (some ⟨w6.heap.size, 0, none⟩) 1 1) [baOf (fsHead F)]) := HI6
    have x6 := HI6.var.cell 1
    simp at x6
    have hsz7 : w.heap.size + 1 ≤ (w6.alloc (.cells #[.string (baOf (fsHead F))] 9)).heap.size := HI6.lt
    clear hg6 ho5 hb05 hX5 HS5 hsz5 ho6 hX6 hb06 HI6
    obtain ⟨M, HM⟩ : ∃ M, Hid ((F.ds.length + 7) / 8 = M) := ⟨_, rfl⟩
    have hdv : ((F.ds.length : Int) + 7).tdiv 8 = (M : Int) := by rw [← HM.out, Int.tdiv_eq_ediv_of_nonneg (by omega)]; omega
    have hM5 : M ≤ 5 := by rw [← HM.out]; omega
    obtain ⟨hd, HHD0⟩ : ∃ x, Hid (baOf (fsHead F) = x) := ⟨_, rfl⟩
    rw [HHD0.out] at HI x6 hsz7 hcv
    go_wp2_with (at_make; refine wpList_make_full _ rfl _ _ 45 rfl (w.heap.size + 1) 5 i0 (.int .u8 0) 1 Tryd.underlying45 hi hz0 hz1 _ _ _ _ M rfl rfl rfl rfl (by rw [hz2]; omega) (by unfold maxLen; omega) hsz7 ?_)
    intro w7 ho7 hg7
    have HI7 := HI.out.new (W' := w7) ⟨hg7.os, hg7.tape, hg7.output, hg7.size, fun k hk => hg7.block k hk (by simp)⟩
    have hbit7 : w7.ownsRow (w.heap.size + 1) 5 1 (.slice (some ⟨w6.heap.size + 1, 0, none⟩) M M) M ((bitsB (hadL (allB F.ns) 0) M).map (Value.int .u8)) := by
      rw [show hadL (allB F.ns) 0 = [] from rfl, bitsB_nil, ← made_bytes]
      exact ho7
    clear HI hg7 ho7 x6 hsz7 hcv
    generalize (Value.slice (some ⟨w6.heap.size, 0, none⟩) 1 1) = v1 at *
    generalize w6.heap.size + 1 = gb at *
    have y0 := HI7.var.cell 0
    have y1 := HI7.var.cell 1
    simp at y0 y1
    go_wp2_with fail
    refine (usedW _ F _ hc2 hc4 (fun n hn => (HSP.out.2.2.1 n hn).len) (HRD.out _ HI7.bel)).mono ?_
    rintro e w8 ⟨u1, rfl, ho8, hb8⟩
    have hlu := usedL_len F.ds.length (allB F.ns)
    obtain ⟨g1, c1, cur1, he1, _⟩ : ∃ g1 c1 cur1, u1 = .slice (some ⟨g1, 0, none⟩) (F.ds.length + 1) c1 ∧ w8.heap[g1]? = some cur1 := by
      rcases ho8.2 with ⟨_, h0⟩ | ⟨g1, c1, cur, h1, _, h2, _⟩
      · omega
      · exact ⟨g1, c1, _, h1, h2⟩
    subst he1
    have hg1 := ho8.lt g1 rfl
    have hgb := (hbit7.lt gb rfl).2
    have HI8 := HI7.new hb8
    have hbit8 := ownsRow_below hbit7 hb8 (Nat.le_refl _)
    have HB0 : Hid (BitInv w w8 #[.slice a F.ns.length ca, .slice b F.ds.length cb] v1 [hd] gb g1 F M 0) := ⟨HI8, hbit8, fun k hk => by
      rw [ho8.cellAt k (by omega), List.getElem?_map, usedL_at _ hk]; rfl⟩
    have hne : g1 ≠ gb := by omega
    clear HI7 HI8 hbit7 hbit8 ho8 hb8 hlu y0 y1 hg1 hgb
    go_wp2
    go_loopw [7] (fun i wr => ∃ k : Nat, k ≤ F.ds.length ∧ i = .int .i64 k ∧ Hid (BitInv w wr #[.slice a F.ns.length ca, .slice b F.ds.length cb] v1 [hd] gb g1 F M k)) (fun i _ => F.ds.length - (intOf i).toNat)
    case atStart => exact ⟨0, Nat.zero_le _, rfl, HB0⟩
    case round =>
      clear HB0
      obtain ⟨k, hk, rfl, HB⟩ := hrel
      have y1 := HB.out.bk.var.cell 1
      simp at y1
      by_cases hlt : k < F.ds.length
      · have hu := HB.out.used k hlt
        have j1 : (k : Int) < (F.ds.length : Int) + 1 := by omega
        by_cases hm : (k : Int) ∈ allB F.ns
        · have hpos : (0 : Int) < (((allB F.ns).count (k : Int) : Nat) : Int) := by have := List.count_pos_iff.2 hm; omega
          have HHD : Hid (hadL (allB F.ns) (k + 1) = hadL (allB F.ns) k ++ [(k : Int)]) := by show _ = _; rw [hadL, if_pos hm]
          have hni : (k : Int) ∉ hadL (allB F.ns) k := fun h => by obtain ⟨j, h1, h2, _⟩ := (hadL_mem _ _ _).1 h; omega
          generalize (allB F.ns).count (k : Int) = cnt at *
          obtain ⟨q, HQ⟩ : ∃ q, Hid (k / 8 = q) := ⟨_, rfl⟩
          obtain ⟨r, HR⟩ : ∃ r, Hid (k % 8 = r) := ⟨_, rfl⟩
          have hd8 := tdivN k
          have hm8 := tmodN k
          have hr8 : r < 8 := by rw [← HR.out]; omega
          have hk8 : q < M := by rw [← HM.out, ← HQ.out]; omega
          have hcb : wr.cell? ⟨gb, q, none⟩ = some (.int .u8 (byteAt (hadL (allB F.ns) k) q : Int)) := by
            rw [HB.out.bits.cellAt q (by omega), List.getElem?_map, bitsB_at _ hk8]; rfl
          have hfb := HB.out.bits.frozenAt q
          have hlt9 := byteAt_lt (hadL (allB F.ns) k) q
          have hap := add_pow ⟨_, hlt9⟩ ⟨r, hr8⟩ (by show byteAt _ _ / 2 ^ r % 2 = 0; rw [byteAt_bit _ _ _ hr8, show 8 * q + r = k by rw [← HQ.out, ← HR.out]; omega]; exact memB_no.2 hni)
          have HNX := HB.out.put hne q ((byteAt (hadL (allB F.ns) k) q + 2 ^ r : Nat) : Int) (j := k + 1) (by
            rw [HHD.out]
            have := bitsB_add (hadL (allB F.ns) k) (m := M) (k := k) (by rw [HQ.out]; exact hk8) hni
            rwa [HQ.out, HR.out] at this)
          rw [HQ.out] at hd8
          rw [HR.out] at hm8
          have hd9 : (k : Int) / 8 = (q : Int) := by rw [← HQ.out]; omega
          have hm9 : (k : Int) % 8 = (r : Int) := by rw [← HR.out]; omega
          have hwq : IntKind.i64.wrap (q : Int) = (q : Int) := by rw [IntKind.wrap_i64]; omega
          have hwr' : IntKind.i64.wrap (r : Int) = (r : Int) := by rw [IntKind.wrap_i64]; omega
          have HPW : Hid (∀ W, Calls Tryd.prog 33 #[.int .i64 (r : Int)] W fun e w' => e = .returned (.int .i64 ((2 ^ r : Nat) : Int)) ∧ w' = W) := fun W => powerW r W (by omega)
          simp only at hap
          obtain ⟨pw, hpw⟩ : ∃ x, 2 ^ r = x := ⟨_, rfl⟩
          rw [hpw] at HPW HNX hap
          clear hpw
          generalize byteAt (hadL (allB F.ns) k) q = bt at *
          have HN2 : Hid (BitInv w (wr.setCell ⟨gb, q, none⟩ (.int .u8 ((bt + pw : Nat) : Int))) #[.slice a F.ns.length ca, .slice b F.ds.length cb] v1 [hd] gb g1 F M (k + 1)) := HNX
          have i1 : (q : Int) < (M : Int) := by omega
          have hws : IntKind.u8.wrap ((bt : Int) + (pw : Int)) = (bt : Int) + (pw : Int) := by rw [IntKind.wrap_u8]; omega
          have hwr : IntKind.u8.wrap ((pw : Nat) : Int) = ((pw : Nat) : Int) := by rw [IntKind.wrap_u8]; omega
          clear HNX HB hm hni HHD
          go_wp2_with fail
          go_region_with (go_at_call 33; refine (HPW.out _).mono ?_; rintro e w9 ⟨rfl, hw9⟩; subst w9)
          all_goals
            go_wp2
            go_roundw
            case rel => exact ⟨k + 1, by omega, by go_num, HN2.out.drew⟩
            case measure => simp [intOf]; omega
        · have HHD : Hid (hadL (allB F.ns) (k + 1) = hadL (allB F.ns) k) := by show _ = _; rw [hadL, if_neg hm, List.append_nil]
          have HN2 : Hid (BitInv w wr #[.slice a F.ns.length ca, .slice b F.ds.length cb] v1 [hd] gb g1 F M (k + 1)) := by
            have h := HB.out
            exact ⟨h.bk, by rw [HHD.out]; exact h.bits, h.used⟩
          rw [List.count_eq_zero.2 hm] at hu
          clear HB hm HHD
          go_wp2
          go_roundw
          case rel => exact ⟨k + 1, by omega, by go_num, HN2⟩
          case measure => simp [intOf]; omega
      · obtain rfl : k = F.ds.length := by omega
        have HBT : Hid (bitsB (hadL (allB F.ns) F.ds.length) M = bitsB (allB F.ns) M) := had_all HSP.out M
        have hbit := HB.out.bits
        rw [HBT.out] at hbit
        have HIk := HB.out.bk
        have hcv2 : (convert 45 9 (.slice (some ⟨gb, 0, none⟩) M M)).run Tryd.prog wr = .ok (.string (baOf (bitsB (allB F.ns) M))) wr := by
          refine conv_row (bitsB_u8 _ _) (by rw [bitsB_len, ← HM.out]; omega) (base := w.heap.size + 1) ?_
          rw [bitsB_len]; exact hbit
        obtain ⟨bs, HBS⟩ : ∃ x, Hid (baOf (bitsB (allB F.ns) M) = x) := ⟨_, rfl⟩
        rw [HBS.out] at hcv2
        have hI9 := HIk.new (below1 wr (.cells #[.string bs] 9))
        have HS9 : Hid (Src Tryd.prog 1 22 (.slice (some ⟨wr.heap.size, 0, none⟩) 1 1) 1 ([bs].map Value.string) (wr.alloc (.cells #[.string bs] 9))) := srcOne Tryd.underlying22 wr (.string bs) rfl
        have ho9 := hI9.row
        clear HB hbit HIk
        go_wp2_with (at_builtin; refine wpList_append_own_src _ rfl (.tmp 62) (.tmp 65) 22 22 rfl (w.heap.size + 1) 9 i1 (.string ⟨#[]⟩) 1 16 Tryd.underlying22 gi gz0 gz1 gz2 rfl _ _ _ rfl ho9 _ 1 ([bs].map Value.string) rfl HS9.out (by unfold maxLen; simp) (by simp) hI9.lt ?_)
        intro v10 w10 ho10 hg10
        have HI10 : Hid (BkInv w w10 #[.slice a F.ns.length ca, .slice b F.ds.length cb] v10 (hd :: bs :: (F.ns.take 0).map ndText)) := hI9.app ho10 hg10
        clear hI9 HS9 ho9 ho10 hg10 hcv2 y1
        go_wp2
        go_loopw [4, 8] (fun v i wr => ∃ k : Nat, k ≤ F.ns.length ∧ i = .int .i64 k ∧ Hid (BkInv w wr #[.slice a F.ns.length ca, .slice b F.ds.length cb] v (hd :: bs :: (F.ns.take k).map ndText))) (fun _ i _ => F.ns.length - (intOf i).toNat)
        case atStart => exact ⟨0, Nat.zero_le _, rfl, HI10⟩
        case round =>
          clear HI10
          obtain ⟨k, hk, rfl, HI⟩ := hrel
          have y0 := HI.out.var.cell 0
          simp at y0
          by_cases hlt : k < F.ns.length
          · obtain ⟨g, off, u, rfl, hg', hru, c0, c1', c2', c3, c4⟩ := HR1.out.at k hlt
            have hbel := HI.out.bel
            have d0 := (hbel.cell (p := ⟨g, off + k * 5, none⟩) hg').trans c0
            have d1 := (hbel.cell (p := ⟨g, off + k * 5 + 1, none⟩) hg').trans c1'
            have d2 := (hbel.cell (p := ⟨g, off + k * 5 + 2, none⟩) hg').trans c2'
            have d3 := (hbel.cell (p := ⟨g, off + k * 5 + 3, none⟩) hg').trans c3
            have d4 := (hbel.cell (p := ⟨g, off + k * 5 + 4, none⟩) hg').trans c4
            have HTK : Hid (hd :: bs :: (F.ns.take (k + 1)).map ndText = (hd :: bs :: (F.ns.take k).map ndText) ++ [ndText F.ns[k]]) := by show _ = _; rw [List.take_succ_eq_append_getElem hlt, List.map_append]; rfl
            have HNL : Hid (F.ns[k].b.length ≤ 1048576) := HSM.out.2.1 _ (List.getElem_mem hlt)
            have HRU : Hid (RdN wr (aggN F.ns[k] u) F.ns[k]) := (hru.below hbel (Nat.le_refl _)).node
            have HLK : Hid ((hd :: bs :: (F.ns.take k).map ndText).length ≤ 12) := by show _ ≤ _; simp; omega
            clear c0 c1' c2' c3 c4 hru hbel
            generalize F.ns[k] = n at *
            generalize hd :: bs :: (F.ns.take k).map ndText = X at *
            go_wp2_with fail
            refine (specNodeText (aggN n u) n _ HNL.out HRU.out).mono ?_
            rintro e w11 ⟨rfl, hb11⟩
            generalize ndText n = nt at *
            have hI12 := (HI.out.new hb11).new (below1 w11 (.cells #[.string nt] 9))
            have HS12 : Hid (Src Tryd.prog 1 22 (.slice (some ⟨w11.heap.size, 0, none⟩) 1 1) 1 ([nt].map Value.string) (w11.alloc (.cells #[.string nt] 9))) := srcOne Tryd.underlying22 w11 (.string nt) rfl
            have ho12 := hI12.row
            clear HI y0 d0 d1 d2 d3 d4 hb11 HRU HNL
            go_wp2_with (at_builtin; refine wpList_append_own_src _ rfl (.tmp 74) (.tmp 81) 22 22 rfl (w.heap.size + 1) 9 i1 (.string ⟨#[]⟩) 1 16 Tryd.underlying22 gi gz0 gz1 gz2 rfl _ _ _ rfl ho12 _ 1 ([nt].map Value.string) rfl HS12.out (by have := HLK.out; unfold maxLen; omega) (by have := HLK.out; omega) hI12.lt ?_)
            intro v13 w13 ho13 hg13
            have HI13 : Hid (BkInv w w13 #[.slice (some ⟨g, off, none⟩) F.ns.length ca, .slice b F.ds.length cb] v13 (hd :: bs :: (F.ns.take (k + 1)).map ndText)) := by show BkInv _ _ _ _ _; rw [HTK.out]; exact hI12.app ho13 hg13
            clear hI12 HS12 ho12 ho13 hg13
            go_wp2
            go_roundw
            case rel => exact ⟨k + 1, by omega, by go_num, HI13⟩
            case measure => simp [intOf]; omega
          · obtain rfl : k = F.ns.length := by omega
            have hI := HI.out
            rw [List.take_length] at hI
            have z1 := hI.var.cell 1
            simp at z1
            have HS14 : Hid (Src Tryd.prog 1 22 (.slice b F.ds.length cb) F.ds.length (F.ds.map Value.string) wr) := srcTxt cb (HR2.out _ hI.bel)
            have hrow := hI.row
            have HLK : Hid ((hd :: bs :: F.ns.map ndText).length ≤ 12) := by show _ ≤ _; simp; omega
            have HFF : Hid (fsBl F = (hd :: bs :: F.ns.map ndText) ++ F.ds) := by
              show _ = _
              rw [HF.out, HM.out, HBS.out, HHD0.out]; rfl
            clear HI
            generalize hd :: bs :: F.ns.map ndText = X at *
            go_wp2_with (at_builtin; refine wpList_append_own_src _ rfl (.tmp 83) (.tmp 85) 22 22 rfl (w.heap.size + 1) 9 i1 (.string ⟨#[]⟩) 1 16 Tryd.underlying22 gi gz0 gz1 gz2 rfl _ _ _ rfl hrow _ _ _ rfl HS14.out (by have := HLK.out; unfold maxLen; omega) (by have := HLK.out; omega) hI.lt ?_)
            intro v15 w15 ho15 hg15
            have hI15 := hI.app ho15 hg15
            rw [← HFF.out] at hI15
            have HR15 : Hid (w15.ownsRow w.heap.size 9 1 v15 (fsBl F).length ((fsBl F).map Value.string)) := ownsRow_base hI15.row (by omega)
            have hb15 := hI15.bel
            clear hI hI15 HS14 hrow ho15 hg15
            go_wp2
            go_ret
            exact ⟨_, rfl, HR15.out, hb15⟩
end Go.Proofs.YtaabcfgjmankgaaDoor
