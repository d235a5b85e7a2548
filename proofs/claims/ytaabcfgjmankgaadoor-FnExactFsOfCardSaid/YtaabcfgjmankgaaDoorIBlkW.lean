/-
  Own text: the blocks of a branch, as the program writes them.
-/
import Derived.Test.YtaabcfgjmankgaaDoorBlkB
import Derived.Test.YtaabcfgjmankgaaDoorConcatW
import Derived.Test.YtaabcfgjmankgaaDoorBunU
import Derived.Test.YtaabcfgjmankgaaDoorINodeTW
import Derived.Test.YtaabcfgjmankgaaDoorCloneW
import Derived.Lib.SlBytesConst
import Derived.Deep.RegionHeld3
import Derived.Deep.DeepCutAuto
import Derived.Test.YtaabcfgjmankgaaDoorHeldT
namespace Go.Proofs.YtaabcfgjmankgaaDoor
open Go.RowKit

theorem cellMkI (W : World) (C : Array Value) (t : TypeId) (m : Nat × Nat) (j : Nat) : (W.alloc (.cells C t m)).cell? ⟨W.heap.size, j, none⟩ = C[j]? := cell_of_row _ _ _ _ _ _ (heap_alloc_new W _)
set_option maxRecDepth 20000 in
theorem textBW (P m : Nat) (L : List Int) (w : World) (h1 : 1 ≤ m) (h2 : m ≤ 36) (hV : Var w P (bitV L) 58) :
    Calls Tryd.prog 45 #[.pointer (some ⟨P, 0, none⟩), .int .i64 (m : Nat)] w fun e w' => e = .returned (.string (baOf (bitsB L ((m + 7) / 8)))) ∧ w' = w := by
  obtain ⟨M, HM⟩ : ∃ M, Hid ((m + 7) / 8 = M) := ⟨_, rfl⟩
  have hdv : ((m : Int) + 7).tdiv 8 = (M : Int) := by rw [← HM.out, Int.tdiv_eq_ediv_of_nonneg (by omega)]; omega
  have hdv2 : ((m : Int) + 7) / 8 = (M : Int) := by rw [← HM.out]; omega
  have hdv3 : ((m : Int) + 8 - 1) / 8 = (M : Int) := by rw [← HM.out]; omega
  have hdv4 : ((m : Int) + 8 - 1).tdiv 8 = (M : Int) := by rw [← HM.out, Int.tdiv_eq_ediv_of_nonneg (by omega)]; omega
  have hM5 : M ≤ 5 := by rw [← HM.out]; omega
  have hal : Tryd.prog.arrayLen 58 = 5 := by kernel_rfl
  have hM5i : (M : Int) ≤ 5 := by omega
  have hM1 : 1 ≤ M := by rw [← HM.out]; omega
  have hwM : IntKind.i64.wrap (M : Int) = (M : Int) := by rw [IntKind.wrap_i64]; omega
  have hcv : (convert 45 9 (.slice (some ⟨P, 0, none⟩) M 5)).run Tryd.prog w = .ok (.string (baOf (bitsB L M))) w := by
    have := conv_baN (w := w) (b := P) (off := 0) (cap := 5) (bitsB_u8 L M) (fun i hi => by
      rw [bitsB_len] at hi
      rw [Nat.zero_add, hV.cell i, bitV_at L (by omega), List.getD_eq_getElem?_getD, bitsB_at L hi]; rfl)
    rwa [bitsB_len] at this
  clear hV
  have HF : Hid (baOf (bitsB L ((m + 7) / 8)) = baOf (bitsB L M)) := by show _ = _; rw [HM.out]
  generalize baOf (bitsB L M) = s at *
  go_enter Tryd.func45, Tryd.ntmps45
  go_wp2
  go_ret
  exact ⟨by rw [HF.out]; rfl, rfl⟩

/-! ### The row of a literal -/
theorem ownBlock_off {w : World} {base : Nat} {e : TypeId} {a : Option Addr} {m c n : Nat} {xs : List Value} (h : w.ownsRow base e 1 (.slice a m c) n xs) {b off : Nat} (ha : a = some ⟨b, off, none⟩) : (Value.slice (some ⟨b, off, none⟩) m c).ownBlock = some b := by
  subst ha
  rcases h.2 with ⟨he, _⟩ | ⟨g, cap, cur, he, _⟩
  · injection he with he _ _
    cases he
  · injection he with he _ _
    cases he
    rfl
theorem conv_lit (W : World) (g : Nat) (C : Array Value) (n c : Nat) (h : Var W g C 5) : (convert 45 45 (.slice (some ⟨g, 0, none⟩) n c)).run Tryd.prog W = .ok (.slice (some ⟨g, 0, none⟩) n c) (W.freeze ⟨g, C.size, none⟩ 1) := by
  have hsh : W.shape? g = some (5, C.size) := by
    have h' : W.heap[g]? = some (.cells C 5 (0, 0)) := h
    unfold World.shape?
    rw [h']
  simp [convert, run_underlying Tryd.underlying45, run_underlying Tryd.underlying5, markStringish, hsh]
theorem freeze_block (W : World) (g m k : Nat) (h : k ≠ g) : (W.freeze ⟨g, m, none⟩ 1).heap[k]? = W.heap[k]? := by
  unfold World.freeze
  rw [if_neg (by decide)]
  show (W.heap.modify g _)[k]? = _
  rw [Array.getElem?_modify, if_neg (fun e => h e.symm)]
theorem freeze_only (W : World) (g m : Nat) : Only (fun j => j = g) W (W.freeze ⟨g, m, none⟩ 1) := by
  have hs : (W.freeze ⟨g, m, none⟩ 1).heap.size = W.heap.size := by
    unfold World.freeze
    rw [if_neg (by decide)]
    show (W.heap.modify g _).size = _
    simp
  refine ⟨?_, ?_, ?_, by rw [hs]; exact Nat.le_refl _, fun k _ hk => freeze_block W g m k hk⟩
  all_goals (unfold World.freeze; rw [if_neg (by decide)])
theorem lit_rd {W : World} {g : Nat} (h : Var W g #[.int .u8 66, .int .u8 65, .int .u8 83, .int .u8 78] 5) : Rd .u8 (W.freeze ⟨g, 4, none⟩ 1) (some ⟨g, 0, none⟩) [66, 65, 83, 78] := by
  have h' : W.heap[g]? = some (.cells #[.int .u8 66, .int .u8 65, .int .u8 83, .int .u8 78] 5 (0, 0)) := h
  have hf : (W.freeze ⟨g, 4, none⟩ 1).heap[g]? = some (.cells #[.int .u8 66, .int .u8 65, .int .u8 83, .int .u8 78] 5 (4, 5)) := by
    unfold World.freeze
    rw [if_neg (by decide)]
    show (W.heap.modify g _)[g]? = _
    rw [Array.getElem?_modify, if_pos rfl, h']
    rfl
  refine .inr ⟨g, 0, rfl, (Array.getElem?_eq_some_iff.1 hf).1, fun i hi => ?_⟩
  rw [Nat.zero_add, cell_of_row _ _ _ _ _ _ hf]
  match i, hi with
  | 0, _ => rfl
  | 1, _ => rfl
  | 2, _ => rfl
  | 3, _ => rfl
theorem rd_only8 {k : IntKind} {S : Nat → Prop} {w w' : World} {a : Option Addr} {l : List Int} (h : Rd k w a l) (ho : Only S w w') (hs : ∀ b off, a = some ⟨b, off, none⟩ → l ≠ [] → ¬ S b) : Rd k w' a l := by
  rcases h with h | ⟨b, off, rfl, hlt, hc⟩
  · exact .inl h
  · by_cases h0 : l = []
    · exact .inl h0
    · exact .inr ⟨b, off, rfl, by have := ho.size; omega, fun i hi => (ho.cell (p := ⟨b, off + i, none⟩) hlt (hs b off rfl h0)).trans (hc i hi)⟩
theorem rd_old {w : World} {a : Option Addr} {l : List Int} {g : Nat} (h : Rd .u8 w a l) (hg : w.heap.size = g) : ∀ b off, a = some ⟨b, off, none⟩ → l ≠ [] → ¬ b = g := by
  rintro b off rfl h0 rfl
  rcases h with h | ⟨b', off', he, hlt, _⟩
  · exact h0 h
  · injection he with he
    injection he with he _ _
    omega
theorem cat3 {W : World} {G g : Nat} {a1 a2 : Option Addr} {c1 c2 : Nat} {l1 l2 : List Int} (hrow : Var W G #[.slice (some ⟨g, 0, none⟩) 4 4, .slice a1 l1.length c1, .slice a2 l2.length c2] 45) (m2 : Rd .u8 W (some ⟨g, 0, none⟩) [66, 65, 83, 78]) (r1 : Rd .u8 W a1 l1) (r2 : Rd .u8 W a2 l2) (q : Nat) (hq : q < [[66, 65, 83, 78], l1, l2].length) :
    ∃ a cc, W.cell? ⟨G, q, none⟩ = some (.slice a ([[66, 65, 83, 78], l1, l2][q]).length cc) ∧ G < W.heap.size ∧ Rd .u8 W a [[66, 65, 83, 78], l1, l2][q] := by
  match q, hq with
  | 0, _ => exact ⟨_, _, hrow.cell 0, hrow.lt, m2⟩
  | 1, _ => exact ⟨_, _, hrow.cell 1, hrow.lt, r1⟩
  | 2, _ => exact ⟨_, _, hrow.cell 2, hrow.lt, r2⟩

theorem BkInv.made2 {w W : World} {C : Array Value} (hv : Var W w.heap.size C 26) (hb : Below w.heap.size w W) (s u : ByteArray) : BkInv w (W.alloc (.cells #[.string s, .string u] 9)) C (.slice (some ⟨W.heap.size, 0, none⟩) 2 2) [s, u] :=
  ⟨hv.alloc _, ⟨rfl, .inr ⟨W.heap.size, 2, #[.string s, .string u], rfl, hv.lt, heap_alloc_new W _, Nat.le_refl _, by unfold maxLen; omega, rfl, rfl⟩⟩, hb.alloc hb.size _⟩

set_option maxRecDepth 20000 in
set_option maxHeartbeats 8000000 in
theorem implFsBlocks (v : Value) (F : FsD) (w : World) (hsm : SmF F) (hr : RdFs w v F) :
    Calls Tryd.prog 21 #[v] w fun e w' => ∃ u, e = .returned u ∧ w'.ownsRow w.heap.size 9 1 u (fsBl F).length ((fsBl F).map Value.string) ∧ Below w.heap.size w w' := by
  obtain ⟨i0, hi, hz0, hz1, hz2⟩ := info_parts Tryd.infoU8
  obtain ⟨i1, gi, gz0, gz1, gz2⟩ := info_parts Tryd.infoTxt
  have hrd := hr
  obtain ⟨a, ca, b, cb, rfl, _, r1, r2⟩ := hr
  have HRD : Hid (∀ W, Below w.heap.size w W → RdFs W (.agg #[.slice a F.ns.length ca, .slice b F.ds.length cb]) F) := fun W h => hrd.below h (Nat.le_refl _)
  have HR1 : Hid (RdNs w a F.ns) := r1
  have HR2 : Hid (∀ W, Below w.heap.size w W → RdS W b F.ds) := fun W h => r2.below h (Nat.le_refl _)
  have HSM : Hid (SmF F) := hsm
  clear hrd hsm r1 r2
  go_enter Tryd.func21, Tryd.ntmps21
  go_wp2_with fail
  refine (implShapeOk _ F _ HSM.out (HRD.out _ (below1 _ _))).mono ?_
  rintro e w1 ⟨rfl, hb1⟩
  have hX : Var w1 w.heap.size #[.slice a F.ns.length ca, .slice b F.ds.length cb] 26 := (Var.made w _ _).new hb1
  have hb01 : Below w.heap.size w w1 := (below1 w _).trans (hb1.mono (by simp))
  clear hb1
  obtain ⟨q, hq⟩ : ∃ q, shOk F = q := ⟨_, rfl⟩
  rw [hq]
  cases q with
  | false =>
    have HF : Hid (fsBl F = []) := fsBl_no hq
    clear hq hX
    go_wp2
    go_ret
    exact ⟨_, rfl, by rw [HF.out]; exact World.ownsRow_nil _ _ _ _, hb01⟩
  | true =>
    have HSP : Hid (ShapeP F) := shOk_iff.1 hq
    have HF : Hid (fsBl F = baOf (fsHead F) :: baOf (bitsB (allB F.ns) ((F.ds.length + 7) / 8)) :: (F.ns.map ndText ++ F.ds)) := by show _ = _; unfold fsBl; rw [if_pos hq]
    obtain ⟨hc1, hc2, hc3, hc4⟩ := HSP.out.1
    have x0 := hX.cell 0
    have x1 := hX.cell 1
    simp at x0 x1
    have HVX : Hid (Var w1 w.heap.size #[.slice a F.ns.length ca, .slice b F.ds.length cb] 26) := hX
    have HFL : Hid ([[66, 65, 83, 78], putNum (F.ns.length : Int), putNum (F.ds.length : Int)].flatten.length ≤ 100000 ∧ 0 < [[66, 65, 83, 78], putNum (F.ns.length : Int), putNum (F.ds.length : Int)].flatten.length) := by
      have h1 := putNum_len (F.ns.length : Int)
      have h2 := putNum_len (F.ds.length : Int)
      show _ ∧ _
      simp
      omega
    have HFE : Hid ([[66, 65, 83, 78], putNum (F.ns.length : Int), putNum (F.ds.length : Int)].flatten = fsHead F) := by show _ = _; unfold fsHead; simp
    have HPN : Hid (∀ (n : Nat) W, Calls Tryd.prog 44 #[.int .i64 (n : Nat)] W fun e w' => ∃ a c, e = .returned (.slice a (putNum n).length c) ∧ Rd .u8 w' a (putNum n) ∧ (∀ b off, a = some ⟨b, off, none⟩ → W.heap.size ≤ b) ∧ Below W.heap.size W w') := by
      intro n W
      refine (implPutNum n W).mono ?_
      rintro e w' ⟨v, rfl, ho, hb⟩
      obtain ⟨a, c, rfl, _, hr⟩ := own_rd ho
      exact ⟨a, c, rfl, hr, fun b off h => (ho.lt b (by rw [h]; exact ownBlock_off ho h)).1, hb⟩
    clear hq hX
    go_upto_region 3 with fail
    go_cut [3] (fun v wx => Hid (wx.ownsRow (w.heap.size + 1) 5 1 v (fsHead F).length ((fsHead F).map (Value.int .u8)) ∧ Var wx w.heap.size #[.slice a F.ns.length ca, .slice b F.ds.length cb] 26 ∧ Below w.heap.size w wx))
    case first =>
--CAT
      refine wp_region_noPanic ?_
      refine wp_region_held_drew (S := fun W => W.cell? ⟨w.heap.size, 0, none⟩ = some (.slice a F.ns.length ca) ∧ W.cell? ⟨w.heap.size, 1, none⟩ = some (.slice b F.ds.length cb)) (by kernel_rfl) ⟨x0, x1⟩ (fun _ => ?_)
      have hb0 : Var w1.drew w.heap.size #[.slice a F.ns.length ca, .slice b F.ds.length cb] 26 ∧ Below w.heap.size w w1.drew := ⟨HVX.out, hb01.drew⟩
      have HS0 : Hid (w1.drew.cell? ⟨w.heap.size, 0, none⟩ = some (.slice a F.ns.length ca) ∧ w1.drew.cell? ⟨w.heap.size, 1, none⟩ = some (.slice b F.ds.length cb)) := ⟨x0, x1⟩
      clear HVX hb01 x0 x1
      generalize w1.drew = WD at *
      refine held_take (i := 2) (v := .pointer (some ⟨w.heap.size, 0, none⟩)) rfl rfl (by kernel_rfl) (by kernel_rfl) (by kernel_rfl) (by kernel_rfl) (fun W hSW => by obtain ⟨s0, s1⟩ := hSW; go_simp) HS0.out ?_
      simp only [Act.put, List.setIfInBounds_toArray, List.set_cons_zero, List.set_cons_succ]
      refine held_take (i := 3) (v := .slice a F.ns.length ca) rfl rfl (by kernel_rfl) (by kernel_rfl) (by kernel_rfl) (by kernel_rfl) (fun W hSW => by obtain ⟨s0, s1⟩ := hSW; go_simp) HS0.out ?_
      simp only [Act.put, List.setIfInBounds_toArray, List.set_cons_zero, List.set_cons_succ]
      refine held_take (i := 4) (v := .int .i64 (F.ns.length : Nat)) rfl rfl (by kernel_rfl) (by kernel_rfl) (by kernel_rfl) (by kernel_rfl) (fun W hSW => by obtain ⟨s0, s1⟩ := hSW; go_simp) HS0.out ?_
      simp only [Act.put, List.setIfInBounds_toArray, List.set_cons_zero, List.set_cons_succ]
      refine held_take (i := 6) (v := .pointer (some ⟨w.heap.size, 1, none⟩)) rfl rfl (by kernel_rfl) (by kernel_rfl) (by kernel_rfl) (by kernel_rfl) (fun W hSW => by obtain ⟨s0, s1⟩ := hSW; go_simp) HS0.out ?_
      simp only [Act.put, List.setIfInBounds_toArray, List.set_cons_zero, List.set_cons_succ]
      refine held_take (i := 7) (v := .slice b F.ds.length cb) rfl rfl (by kernel_rfl) (by kernel_rfl) (by kernel_rfl) (by kernel_rfl) (fun W hSW => by obtain ⟨s0, s1⟩ := hSW; go_simp) HS0.out ?_
      simp only [Act.put, List.setIfInBounds_toArray, List.set_cons_zero, List.set_cons_succ]
      refine held_take (i := 8) (v := .int .i64 (F.ds.length : Nat)) rfl rfl (by kernel_rfl) (by kernel_rfl) (by kernel_rfl) (by kernel_rfl) (fun W hSW => by obtain ⟨s0, s1⟩ := hSW; go_simp) HS0.out ?_
      simp only [Act.put, List.setIfInBounds_toArray, List.set_cons_zero, List.set_cons_succ]
      refine wpAnyH_ready (rs := [0, 5]) (by kernel_rfl) (by simp) (AllReadyH.cons rfl (fun K hK => ?_) (AllReadyH.cons rfl (fun K hK => ?_) AllReadyH.nil))
      · skip
        go_simp
        have hb2 : Var (WD.alloc (.cells #[.int .u8 66, .int .u8 65, .int .u8 83, .int .u8 78] 5)) w.heap.size #[.slice a F.ns.length ca, .slice b F.ds.length cb] 26 ∧ Below w.heap.size w (WD.alloc (.cells #[.int .u8 66, .int .u8 65, .int .u8 83, .int .u8 78] 5)) := ⟨hb0.1.new (below1 WD (.cells #[.int .u8 66, .int .u8 65, .int .u8 83, .int .u8 78] 5)), hb0.2.trans ((below1 WD (.cells #[.int .u8 66, .int .u8 65, .int .u8 83, .int .u8 78] 5)).mono hb0.2.size)⟩
        have m1_1 : Var (WD.alloc (.cells #[.int .u8 66, .int .u8 65, .int .u8 83, .int .u8 78] 5)) WD.heap.size #[.int .u8 66, .int .u8 65, .int .u8 83, .int .u8 78] 5 := Var.made _ _ _
        have hg1 : w.heap.size < WD.heap.size := hb0.1.lt
        refine hK.out _ _ ⟨hb2.1.cell 0, hb2.1.cell 1⟩ (fun _ => ?_)
        clear hK K
        try simp only [Act.put, List.setIfInBounds_toArray, List.set_cons_zero, List.set_cons_succ]
        obtain ⟨g1, HG1⟩ : ∃ x, Hid (WD.heap.size = x) := ⟨_, rfl⟩
        try rw [HG1.out]
        rw [HG1.out] at m1_1 hg1
        generalize WD.alloc (.cells #[.int .u8 66, .int .u8 65, .int .u8 83, .int .u8 78] 5) = W1 at *
        refine wpAnyH_ready (rs := [1, 5]) (by kernel_rfl) (by simp) (AllReadyH.cons rfl (fun K hK => ?_) (AllReadyH.cons rfl (fun K hK => ?_) AllReadyH.nil))
        · skip
          have hcv3 := conv_lit W1 g1 #[.int .u8 66, .int .u8 65, .int .u8 83, .int .u8 78] 4 4 m1_1
          go_simp
          have hO3 : Only (fun j => j = g1) W1 (W1.freeze ⟨g1, 4, none⟩ 1) := freeze_only W1 g1 4
          have hb4 : Var (W1.freeze ⟨g1, 4, none⟩ 1) w.heap.size #[.slice a F.ns.length ca, .slice b F.ds.length cb] 26 ∧ Below w.heap.size w (W1.freeze ⟨g1, 4, none⟩ 1) := ⟨hb2.1.only hO3 (by omega), hb2.2.trans (hO3.below hb2.2.size (fun j e => by omega))⟩
          have m2_3 : Rd .u8 (W1.freeze ⟨g1, 4, none⟩ 1) (some ⟨g1, 0, none⟩) [66, 65, 83, 78] := lit_rd m1_1
          refine hK.out _ _ ⟨hb4.1.cell 0, hb4.1.cell 1⟩ (fun _ => ?_)
          clear hK K
          try simp only [Act.put, List.setIfInBounds_toArray, List.set_cons_zero, List.set_cons_succ]
          clear hcv3 hO3
          generalize W1.freeze ⟨g1, 4, none⟩ 1 = W3 at *
          refine wpAnyH_ready (rs := [5]) (by kernel_rfl) (by simp) (AllReadyH.cons rfl (fun K hK => ?_) AllReadyH.nil)
          go_simp
          refine (HPN.out F.ns.length W3).mono ?_
          rintro e W5 ⟨a1, c1, rfl, r1_5, hlo5, hbn5⟩
          have hb6 : Var W5 w.heap.size #[.slice a F.ns.length ca, .slice b F.ds.length cb] 26 ∧ Below w.heap.size w W5 := ⟨hb4.1.new hbn5, hb4.2.trans (hbn5.mono hb4.2.size)⟩
          have m2_6 := m2_3.below hbn5 (Nat.le_refl _)
          refine hK.out _ _ ⟨hb6.1.cell 0, hb6.1.cell 1⟩ (fun _ => ?_)
          clear hK K
          try simp only [Act.put, List.setIfInBounds_toArray, List.set_cons_zero, List.set_cons_succ]
          refine wpAnyH_ready (rs := [9]) (by kernel_rfl) (by simp) (AllReadyH.cons rfl (fun K hK => ?_) AllReadyH.nil)
          go_simp
          refine (HPN.out F.ds.length W5).mono ?_
          rintro e W7 ⟨a2, c2, rfl, r2_7, hlo7, hbn7⟩
          have hb8 : Var W7 w.heap.size #[.slice a F.ns.length ca, .slice b F.ds.length cb] 26 ∧ Below w.heap.size w W7 := ⟨hb6.1.new hbn7, hb6.2.trans (hbn7.mono hb6.2.size)⟩
          have m2_8 := m2_6.below hbn7 (Nat.le_refl _)
          have r1_8 := r1_5.below hbn7 (Nat.le_refl _)
          refine hK.out _ _ ⟨hb8.1.cell 0, hb8.1.cell 1⟩ (fun _ => ?_)
          clear hK K
          try simp only [Act.put, List.setIfInBounds_toArray, List.set_cons_zero, List.set_cons_succ]
          refine wpAnyH_ready (rs := [10]) (by kernel_rfl) (by simp) (AllReadyH.cons rfl (fun K hK => ?_) AllReadyH.nil)
          go_simp
          have hb10 : Var (W7.alloc (.cells #[.slice (some ⟨g1, 0, none⟩) 4 4, .slice a1 (putNum (F.ns.length : Int)).length c1, .slice a2 (putNum (F.ds.length : Int)).length c2] 45)) w.heap.size #[.slice a F.ns.length ca, .slice b F.ds.length cb] 26 ∧ Below w.heap.size w (W7.alloc (.cells #[.slice (some ⟨g1, 0, none⟩) 4 4, .slice a1 (putNum (F.ns.length : Int)).length c1, .slice a2 (putNum (F.ds.length : Int)).length c2] 45)) := ⟨hb8.1.new (below1 W7 (.cells #[.slice (some ⟨g1, 0, none⟩) 4 4, .slice a1 (putNum (F.ns.length : Int)).length c1, .slice a2 (putNum (F.ds.length : Int)).length c2] 45)), hb8.2.trans ((below1 W7 (.cells #[.slice (some ⟨g1, 0, none⟩) 4 4, .slice a1 (putNum (F.ns.length : Int)).length c1, .slice a2 (putNum (F.ds.length : Int)).length c2] 45)).mono hb8.2.size)⟩
          have m2_10 := m2_8.below (below1 W7 (.cells #[.slice (some ⟨g1, 0, none⟩) 4 4, .slice a1 (putNum (F.ns.length : Int)).length c1, .slice a2 (putNum (F.ds.length : Int)).length c2] 45)) (Nat.le_refl _)
          have r1_10 := r1_8.below (below1 W7 (.cells #[.slice (some ⟨g1, 0, none⟩) 4 4, .slice a1 (putNum (F.ns.length : Int)).length c1, .slice a2 (putNum (F.ds.length : Int)).length c2] 45)) (Nat.le_refl _)
          have r2_10 := r2_7.below (below1 W7 (.cells #[.slice (some ⟨g1, 0, none⟩) 4 4, .slice a1 (putNum (F.ns.length : Int)).length c1, .slice a2 (putNum (F.ds.length : Int)).length c2] 45)) (Nat.le_refl _)
          have hrow9 : Var (W7.alloc (.cells #[.slice (some ⟨g1, 0, none⟩) 4 4, .slice a1 (putNum (F.ns.length : Int)).length c1, .slice a2 (putNum (F.ds.length : Int)).length c2] 45)) W7.heap.size #[.slice (some ⟨g1, 0, none⟩) 4 4, .slice a1 (putNum (F.ns.length : Int)).length c1, .slice a2 (putNum (F.ds.length : Int)).length c2] 45 := Var.made _ _ _
          refine hK.out _ _ ⟨hb10.1.cell 0, hb10.1.cell 1⟩ (fun _ => ?_)
          clear hK K
          try simp only [Act.put, List.setIfInBounds_toArray, List.set_cons_zero, List.set_cons_succ]
          refine wpAnyH_ready (rs := [11]) (by kernel_rfl) (by simp) (AllReadyH.cons rfl (fun K hK => ?_) AllReadyH.nil)
          go_simp
          refine (concatW W7.heap.size 3 [[66, 65, 83, 78], putNum (F.ns.length : Int), putNum (F.ds.length : Int)] _ (by simp) HFL.out.1 HFL.out.2 (fun q hq => cat3 hrow9 m2_10 r1_10 r2_10 q hq)).mono ?_
          rintro e w9 ⟨v9, rfl, ho9, hb9⟩
          have hV9 := hb10.1.new hb9
          have hB9 : Below w.heap.size w w9 := hb10.2.trans (hb9.mono hb10.2.size)
          have hO9 := ownsRow_base ho9 (show w.heap.size + 1 ≤ _ from hb10.1.lt)
          refine hK.out _ _ ⟨hV9.cell 0, hV9.cell 1⟩ (fun _ => ?_)
          clear hK K
          try simp only [Act.put, List.setIfInBounds_toArray, List.set_cons_zero, List.set_cons_succ]
          refine wpAnyH_ready (rs := [12]) (by kernel_rfl) (by simp) (AllReadyH.cons rfl (fun K hK => ?_) AllReadyH.nil)
          go_simp
          refine hK.out _ _ ⟨hV9.cell 0, hV9.cell 1⟩ (fun _ => ?_)
          clear hK K
          try simp only [Act.put, List.setIfInBounds_toArray, List.set_cons_zero, List.set_cons_succ]
          refine wpAnyH_done (by kernel_rfl) ?_ _
          simp only [NoPanic]
          go_wp2
          go_meet
          exact ⟨HFE.out ▸ hO9, hV9, hB9⟩
        · skip
          go_simp
          refine (HPN.out F.ns.length W1).mono ?_
          rintro e W11 ⟨a1, c1, rfl, r1_11, hlo11, hbn11⟩
          have ner1_11 : ∀ b off, a1 = some ⟨b, off, none⟩ → putNum (F.ns.length : Int) ≠ [] → ¬ b = g1 := fun b off h _ => by have h1 := hlo11 b off h; have h2 := m1_1.lt; omega
          have hb12 : Var W11 w.heap.size #[.slice a F.ns.length ca, .slice b F.ds.length cb] 26 ∧ Below w.heap.size w W11 := ⟨hb2.1.new hbn11, hb2.2.trans (hbn11.mono hb2.2.size)⟩
          have m1_12 : Var W11 g1 #[.int .u8 66, .int .u8 65, .int .u8 83, .int .u8 78] 5 := m1_1.new hbn11
          refine hK.out _ _ ⟨hb12.1.cell 0, hb12.1.cell 1⟩ (fun _ => ?_)
          clear hK K
          try simp only [Act.put, List.setIfInBounds_toArray, List.set_cons_zero, List.set_cons_succ]
          refine wpAnyH_ready (rs := [1, 9]) (by kernel_rfl) (by simp) (AllReadyH.cons rfl (fun K hK => ?_) (AllReadyH.cons rfl (fun K hK => ?_) AllReadyH.nil))
          · skip
            have hcv13 := conv_lit W11 g1 #[.int .u8 66, .int .u8 65, .int .u8 83, .int .u8 78] 4 4 m1_12
            go_simp
            have hO13 : Only (fun j => j = g1) W11 (W11.freeze ⟨g1, 4, none⟩ 1) := freeze_only W11 g1 4
            have hb14 : Var (W11.freeze ⟨g1, 4, none⟩ 1) w.heap.size #[.slice a F.ns.length ca, .slice b F.ds.length cb] 26 ∧ Below w.heap.size w (W11.freeze ⟨g1, 4, none⟩ 1) := ⟨hb12.1.only hO13 (by omega), hb12.2.trans (hO13.below hb12.2.size (fun j e => by omega))⟩
            have r1_14 := rd_only8 r1_11 hO13 ner1_11
            have m2_13 : Rd .u8 (W11.freeze ⟨g1, 4, none⟩ 1) (some ⟨g1, 0, none⟩) [66, 65, 83, 78] := lit_rd m1_12
            refine hK.out _ _ ⟨hb14.1.cell 0, hb14.1.cell 1⟩ (fun _ => ?_)
            clear hK K
            try simp only [Act.put, List.setIfInBounds_toArray, List.set_cons_zero, List.set_cons_succ]
            clear hcv13 hO13
            generalize W11.freeze ⟨g1, 4, none⟩ 1 = W13 at *
            refine wpAnyH_ready (rs := [9]) (by kernel_rfl) (by simp) (AllReadyH.cons rfl (fun K hK => ?_) AllReadyH.nil)
            go_simp
            refine (HPN.out F.ds.length W13).mono ?_
            rintro e W15 ⟨a2, c2, rfl, r2_15, hlo15, hbn15⟩
            have hb16 : Var W15 w.heap.size #[.slice a F.ns.length ca, .slice b F.ds.length cb] 26 ∧ Below w.heap.size w W15 := ⟨hb14.1.new hbn15, hb14.2.trans (hbn15.mono hb14.2.size)⟩
            have m2_16 := m2_13.below hbn15 (Nat.le_refl _)
            have r1_16 := r1_14.below hbn15 (Nat.le_refl _)
            refine hK.out _ _ ⟨hb16.1.cell 0, hb16.1.cell 1⟩ (fun _ => ?_)
            clear hK K
            try simp only [Act.put, List.setIfInBounds_toArray, List.set_cons_zero, List.set_cons_succ]
            refine wpAnyH_ready (rs := [10]) (by kernel_rfl) (by simp) (AllReadyH.cons rfl (fun K hK => ?_) AllReadyH.nil)
            go_simp
            have hb18 : Var (W15.alloc (.cells #[.slice (some ⟨g1, 0, none⟩) 4 4, .slice a1 (putNum (F.ns.length : Int)).length c1, .slice a2 (putNum (F.ds.length : Int)).length c2] 45)) w.heap.size #[.slice a F.ns.length ca, .slice b F.ds.length cb] 26 ∧ Below w.heap.size w (W15.alloc (.cells #[.slice (some ⟨g1, 0, none⟩) 4 4, .slice a1 (putNum (F.ns.length : Int)).length c1, .slice a2 (putNum (F.ds.length : Int)).length c2] 45)) := ⟨hb16.1.new (below1 W15 (.cells #[.slice (some ⟨g1, 0, none⟩) 4 4, .slice a1 (putNum (F.ns.length : Int)).length c1, .slice a2 (putNum (F.ds.length : Int)).length c2] 45)), hb16.2.trans ((below1 W15 (.cells #[.slice (some ⟨g1, 0, none⟩) 4 4, .slice a1 (putNum (F.ns.length : Int)).length c1, .slice a2 (putNum (F.ds.length : Int)).length c2] 45)).mono hb16.2.size)⟩
            have m2_18 := m2_16.below (below1 W15 (.cells #[.slice (some ⟨g1, 0, none⟩) 4 4, .slice a1 (putNum (F.ns.length : Int)).length c1, .slice a2 (putNum (F.ds.length : Int)).length c2] 45)) (Nat.le_refl _)
            have r1_18 := r1_16.below (below1 W15 (.cells #[.slice (some ⟨g1, 0, none⟩) 4 4, .slice a1 (putNum (F.ns.length : Int)).length c1, .slice a2 (putNum (F.ds.length : Int)).length c2] 45)) (Nat.le_refl _)
            have r2_18 := r2_15.below (below1 W15 (.cells #[.slice (some ⟨g1, 0, none⟩) 4 4, .slice a1 (putNum (F.ns.length : Int)).length c1, .slice a2 (putNum (F.ds.length : Int)).length c2] 45)) (Nat.le_refl _)
            have hrow17 : Var (W15.alloc (.cells #[.slice (some ⟨g1, 0, none⟩) 4 4, .slice a1 (putNum (F.ns.length : Int)).length c1, .slice a2 (putNum (F.ds.length : Int)).length c2] 45)) W15.heap.size #[.slice (some ⟨g1, 0, none⟩) 4 4, .slice a1 (putNum (F.ns.length : Int)).length c1, .slice a2 (putNum (F.ds.length : Int)).length c2] 45 := Var.made _ _ _
            refine hK.out _ _ ⟨hb18.1.cell 0, hb18.1.cell 1⟩ (fun _ => ?_)
            clear hK K
            try simp only [Act.put, List.setIfInBounds_toArray, List.set_cons_zero, List.set_cons_succ]
            refine wpAnyH_ready (rs := [11]) (by kernel_rfl) (by simp) (AllReadyH.cons rfl (fun K hK => ?_) AllReadyH.nil)
            go_simp
            refine (concatW W15.heap.size 3 [[66, 65, 83, 78], putNum (F.ns.length : Int), putNum (F.ds.length : Int)] _ (by simp) HFL.out.1 HFL.out.2 (fun q hq => cat3 hrow17 m2_18 r1_18 r2_18 q hq)).mono ?_
            rintro e w9 ⟨v9, rfl, ho9, hb9⟩
            have hV9 := hb18.1.new hb9
            have hB9 : Below w.heap.size w w9 := hb18.2.trans (hb9.mono hb18.2.size)
            have hO9 := ownsRow_base ho9 (show w.heap.size + 1 ≤ _ from hb18.1.lt)
            refine hK.out _ _ ⟨hV9.cell 0, hV9.cell 1⟩ (fun _ => ?_)
            clear hK K
            try simp only [Act.put, List.setIfInBounds_toArray, List.set_cons_zero, List.set_cons_succ]
            refine wpAnyH_ready (rs := [12]) (by kernel_rfl) (by simp) (AllReadyH.cons rfl (fun K hK => ?_) AllReadyH.nil)
            go_simp
            refine hK.out _ _ ⟨hV9.cell 0, hV9.cell 1⟩ (fun _ => ?_)
            clear hK K
            try simp only [Act.put, List.setIfInBounds_toArray, List.set_cons_zero, List.set_cons_succ]
            refine wpAnyH_done (by kernel_rfl) ?_ _
            simp only [NoPanic]
            go_wp2
            go_meet
            exact ⟨HFE.out ▸ hO9, hV9, hB9⟩
          · skip
            go_simp
            refine (HPN.out F.ds.length W11).mono ?_
            rintro e W19 ⟨a2, c2, rfl, r2_19, hlo19, hbn19⟩
            have ner2_19 : ∀ b off, a2 = some ⟨b, off, none⟩ → putNum (F.ds.length : Int) ≠ [] → ¬ b = g1 := fun b off h _ => by have h1 := hlo19 b off h; have h2 := m1_12.lt; omega
            have hb20 : Var W19 w.heap.size #[.slice a F.ns.length ca, .slice b F.ds.length cb] 26 ∧ Below w.heap.size w W19 := ⟨hb12.1.new hbn19, hb12.2.trans (hbn19.mono hb12.2.size)⟩
            have m1_20 : Var W19 g1 #[.int .u8 66, .int .u8 65, .int .u8 83, .int .u8 78] 5 := m1_12.new hbn19
            have r1_20 := r1_11.below hbn19 (Nat.le_refl _)
            refine hK.out _ _ ⟨hb20.1.cell 0, hb20.1.cell 1⟩ (fun _ => ?_)
            clear hK K
            try simp only [Act.put, List.setIfInBounds_toArray, List.set_cons_zero, List.set_cons_succ]
            refine wpAnyH_ready (rs := [1]) (by kernel_rfl) (by simp) (AllReadyH.cons rfl (fun K hK => ?_) AllReadyH.nil)
            have hcv21 := conv_lit W19 g1 #[.int .u8 66, .int .u8 65, .int .u8 83, .int .u8 78] 4 4 m1_20
            go_simp
            have hO21 : Only (fun j => j = g1) W19 (W19.freeze ⟨g1, 4, none⟩ 1) := freeze_only W19 g1 4
            have hb22 : Var (W19.freeze ⟨g1, 4, none⟩ 1) w.heap.size #[.slice a F.ns.length ca, .slice b F.ds.length cb] 26 ∧ Below w.heap.size w (W19.freeze ⟨g1, 4, none⟩ 1) := ⟨hb20.1.only hO21 (by omega), hb20.2.trans (hO21.below hb20.2.size (fun j e => by omega))⟩
            have r1_22 := rd_only8 r1_20 hO21 ner1_11
            have r2_22 := rd_only8 r2_19 hO21 ner2_19
            have m2_21 : Rd .u8 (W19.freeze ⟨g1, 4, none⟩ 1) (some ⟨g1, 0, none⟩) [66, 65, 83, 78] := lit_rd m1_20
            refine hK.out _ _ ⟨hb22.1.cell 0, hb22.1.cell 1⟩ (fun _ => ?_)
            clear hK K
            try simp only [Act.put, List.setIfInBounds_toArray, List.set_cons_zero, List.set_cons_succ]
            clear hcv21 hO21
            generalize W19.freeze ⟨g1, 4, none⟩ 1 = W21 at *
            refine wpAnyH_ready (rs := [10]) (by kernel_rfl) (by simp) (AllReadyH.cons rfl (fun K hK => ?_) AllReadyH.nil)
            go_simp
            have hb24 : Var (W21.alloc (.cells #[.slice (some ⟨g1, 0, none⟩) 4 4, .slice a1 (putNum (F.ns.length : Int)).length c1, .slice a2 (putNum (F.ds.length : Int)).length c2] 45)) w.heap.size #[.slice a F.ns.length ca, .slice b F.ds.length cb] 26 ∧ Below w.heap.size w (W21.alloc (.cells #[.slice (some ⟨g1, 0, none⟩) 4 4, .slice a1 (putNum (F.ns.length : Int)).length c1, .slice a2 (putNum (F.ds.length : Int)).length c2] 45)) := ⟨hb22.1.new (below1 W21 (.cells #[.slice (some ⟨g1, 0, none⟩) 4 4, .slice a1 (putNum (F.ns.length : Int)).length c1, .slice a2 (putNum (F.ds.length : Int)).length c2] 45)), hb22.2.trans ((below1 W21 (.cells #[.slice (some ⟨g1, 0, none⟩) 4 4, .slice a1 (putNum (F.ns.length : Int)).length c1, .slice a2 (putNum (F.ds.length : Int)).length c2] 45)).mono hb22.2.size)⟩
            have m2_24 := m2_21.below (below1 W21 (.cells #[.slice (some ⟨g1, 0, none⟩) 4 4, .slice a1 (putNum (F.ns.length : Int)).length c1, .slice a2 (putNum (F.ds.length : Int)).length c2] 45)) (Nat.le_refl _)
            have r1_24 := r1_22.below (below1 W21 (.cells #[.slice (some ⟨g1, 0, none⟩) 4 4, .slice a1 (putNum (F.ns.length : Int)).length c1, .slice a2 (putNum (F.ds.length : Int)).length c2] 45)) (Nat.le_refl _)
            have r2_24 := r2_22.below (below1 W21 (.cells #[.slice (some ⟨g1, 0, none⟩) 4 4, .slice a1 (putNum (F.ns.length : Int)).length c1, .slice a2 (putNum (F.ds.length : Int)).length c2] 45)) (Nat.le_refl _)
            have hrow23 : Var (W21.alloc (.cells #[.slice (some ⟨g1, 0, none⟩) 4 4, .slice a1 (putNum (F.ns.length : Int)).length c1, .slice a2 (putNum (F.ds.length : Int)).length c2] 45)) W21.heap.size #[.slice (some ⟨g1, 0, none⟩) 4 4, .slice a1 (putNum (F.ns.length : Int)).length c1, .slice a2 (putNum (F.ds.length : Int)).length c2] 45 := Var.made _ _ _
            refine hK.out _ _ ⟨hb24.1.cell 0, hb24.1.cell 1⟩ (fun _ => ?_)
            clear hK K
            try simp only [Act.put, List.setIfInBounds_toArray, List.set_cons_zero, List.set_cons_succ]
            refine wpAnyH_ready (rs := [11]) (by kernel_rfl) (by simp) (AllReadyH.cons rfl (fun K hK => ?_) AllReadyH.nil)
            go_simp
            refine (concatW W21.heap.size 3 [[66, 65, 83, 78], putNum (F.ns.length : Int), putNum (F.ds.length : Int)] _ (by simp) HFL.out.1 HFL.out.2 (fun q hq => cat3 hrow23 m2_24 r1_24 r2_24 q hq)).mono ?_
            rintro e w9 ⟨v9, rfl, ho9, hb9⟩
            have hV9 := hb24.1.new hb9
            have hB9 : Below w.heap.size w w9 := hb24.2.trans (hb9.mono hb24.2.size)
            have hO9 := ownsRow_base ho9 (show w.heap.size + 1 ≤ _ from hb24.1.lt)
            refine hK.out _ _ ⟨hV9.cell 0, hV9.cell 1⟩ (fun _ => ?_)
            clear hK K
            try simp only [Act.put, List.setIfInBounds_toArray, List.set_cons_zero, List.set_cons_succ]
            refine wpAnyH_ready (rs := [12]) (by kernel_rfl) (by simp) (AllReadyH.cons rfl (fun K hK => ?_) AllReadyH.nil)
            go_simp
            refine hK.out _ _ ⟨hV9.cell 0, hV9.cell 1⟩ (fun _ => ?_)
            clear hK K
            try simp only [Act.put, List.setIfInBounds_toArray, List.set_cons_zero, List.set_cons_succ]
            refine wpAnyH_done (by kernel_rfl) ?_ _
            simp only [NoPanic]
            go_wp2
            go_meet
            exact ⟨HFE.out ▸ hO9, hV9, hB9⟩
      · skip
        go_simp
        refine (HPN.out F.ns.length WD).mono ?_
        rintro e W25 ⟨a1, c1, rfl, r1_25, hlo25, hbn25⟩
        have hb26 : Var W25 w.heap.size #[.slice a F.ns.length ca, .slice b F.ds.length cb] 26 ∧ Below w.heap.size w W25 := ⟨hb0.1.new hbn25, hb0.2.trans (hbn25.mono hb0.2.size)⟩
        refine hK.out _ _ ⟨hb26.1.cell 0, hb26.1.cell 1⟩ (fun _ => ?_)
        clear hK K
        try simp only [Act.put, List.setIfInBounds_toArray, List.set_cons_zero, List.set_cons_succ]
        refine wpAnyH_ready (rs := [0, 9]) (by kernel_rfl) (by simp) (AllReadyH.cons rfl (fun K hK => ?_) (AllReadyH.cons rfl (fun K hK => ?_) AllReadyH.nil))
        · skip
          go_simp
          have hb28 : Var (W25.alloc (.cells #[.int .u8 66, .int .u8 65, .int .u8 83, .int .u8 78] 5)) w.heap.size #[.slice a F.ns.length ca, .slice b F.ds.length cb] 26 ∧ Below w.heap.size w (W25.alloc (.cells #[.int .u8 66, .int .u8 65, .int .u8 83, .int .u8 78] 5)) := ⟨hb26.1.new (below1 W25 (.cells #[.int .u8 66, .int .u8 65, .int .u8 83, .int .u8 78] 5)), hb26.2.trans ((below1 W25 (.cells #[.int .u8 66, .int .u8 65, .int .u8 83, .int .u8 78] 5)).mono hb26.2.size)⟩
          have r1_28 := r1_25.below (below1 W25 (.cells #[.int .u8 66, .int .u8 65, .int .u8 83, .int .u8 78] 5)) (Nat.le_refl _)
          have m1_27 : Var (W25.alloc (.cells #[.int .u8 66, .int .u8 65, .int .u8 83, .int .u8 78] 5)) W25.heap.size #[.int .u8 66, .int .u8 65, .int .u8 83, .int .u8 78] 5 := Var.made _ _ _
          have hg27 : w.heap.size < W25.heap.size := hb26.1.lt
          refine hK.out _ _ ⟨hb28.1.cell 0, hb28.1.cell 1⟩ (fun _ => ?_)
          clear hK K
          try simp only [Act.put, List.setIfInBounds_toArray, List.set_cons_zero, List.set_cons_succ]
          obtain ⟨g27, HG27⟩ : ∃ x, Hid (W25.heap.size = x) := ⟨_, rfl⟩
          try rw [HG27.out]
          rw [HG27.out] at m1_27 hg27
          generalize W25.alloc (.cells #[.int .u8 66, .int .u8 65, .int .u8 83, .int .u8 78] 5) = W27 at *
          have ner1_27 := rd_old r1_25 HG27.out
          refine wpAnyH_ready (rs := [1, 9]) (by kernel_rfl) (by simp) (AllReadyH.cons rfl (fun K hK => ?_) (AllReadyH.cons rfl (fun K hK => ?_) AllReadyH.nil))
          · skip
            have hcv29 := conv_lit W27 g27 #[.int .u8 66, .int .u8 65, .int .u8 83, .int .u8 78] 4 4 m1_27
            go_simp
            have hO29 : Only (fun j => j = g27) W27 (W27.freeze ⟨g27, 4, none⟩ 1) := freeze_only W27 g27 4
            have hb30 : Var (W27.freeze ⟨g27, 4, none⟩ 1) w.heap.size #[.slice a F.ns.length ca, .slice b F.ds.length cb] 26 ∧ Below w.heap.size w (W27.freeze ⟨g27, 4, none⟩ 1) := ⟨hb28.1.only hO29 (by omega), hb28.2.trans (hO29.below hb28.2.size (fun j e => by omega))⟩
            have r1_30 := rd_only8 r1_28 hO29 ner1_27
            have m2_29 : Rd .u8 (W27.freeze ⟨g27, 4, none⟩ 1) (some ⟨g27, 0, none⟩) [66, 65, 83, 78] := lit_rd m1_27
            refine hK.out _ _ ⟨hb30.1.cell 0, hb30.1.cell 1⟩ (fun _ => ?_)
            clear hK K
            try simp only [Act.put, List.setIfInBounds_toArray, List.set_cons_zero, List.set_cons_succ]
            clear hcv29 hO29
            generalize W27.freeze ⟨g27, 4, none⟩ 1 = W29 at *
            refine wpAnyH_ready (rs := [9]) (by kernel_rfl) (by simp) (AllReadyH.cons rfl (fun K hK => ?_) AllReadyH.nil)
            go_simp
            refine (HPN.out F.ds.length W29).mono ?_
            rintro e W31 ⟨a2, c2, rfl, r2_31, hlo31, hbn31⟩
            have hb32 : Var W31 w.heap.size #[.slice a F.ns.length ca, .slice b F.ds.length cb] 26 ∧ Below w.heap.size w W31 := ⟨hb30.1.new hbn31, hb30.2.trans (hbn31.mono hb30.2.size)⟩
            have m2_32 := m2_29.below hbn31 (Nat.le_refl _)
            have r1_32 := r1_30.below hbn31 (Nat.le_refl _)
            refine hK.out _ _ ⟨hb32.1.cell 0, hb32.1.cell 1⟩ (fun _ => ?_)
            clear hK K
            try simp only [Act.put, List.setIfInBounds_toArray, List.set_cons_zero, List.set_cons_succ]
            refine wpAnyH_ready (rs := [10]) (by kernel_rfl) (by simp) (AllReadyH.cons rfl (fun K hK => ?_) AllReadyH.nil)
            go_simp
            have hb34 : Var (W31.alloc (.cells #[.slice (some ⟨g27, 0, none⟩) 4 4, .slice a1 (putNum (F.ns.length : Int)).length c1, .slice a2 (putNum (F.ds.length : Int)).length c2] 45)) w.heap.size #[.slice a F.ns.length ca, .slice b F.ds.length cb] 26 ∧ Below w.heap.size w (W31.alloc (.cells #[.slice (some ⟨g27, 0, none⟩) 4 4, .slice a1 (putNum (F.ns.length : Int)).length c1, .slice a2 (putNum (F.ds.length : Int)).length c2] 45)) := ⟨hb32.1.new (below1 W31 (.cells #[.slice (some ⟨g27, 0, none⟩) 4 4, .slice a1 (putNum (F.ns.length : Int)).length c1, .slice a2 (putNum (F.ds.length : Int)).length c2] 45)), hb32.2.trans ((below1 W31 (.cells #[.slice (some ⟨g27, 0, none⟩) 4 4, .slice a1 (putNum (F.ns.length : Int)).length c1, .slice a2 (putNum (F.ds.length : Int)).length c2] 45)).mono hb32.2.size)⟩
            have m2_34 := m2_32.below (below1 W31 (.cells #[.slice (some ⟨g27, 0, none⟩) 4 4, .slice a1 (putNum (F.ns.length : Int)).length c1, .slice a2 (putNum (F.ds.length : Int)).length c2] 45)) (Nat.le_refl _)
            have r1_34 := r1_32.below (below1 W31 (.cells #[.slice (some ⟨g27, 0, none⟩) 4 4, .slice a1 (putNum (F.ns.length : Int)).length c1, .slice a2 (putNum (F.ds.length : Int)).length c2] 45)) (Nat.le_refl _)
            have r2_34 := r2_31.below (below1 W31 (.cells #[.slice (some ⟨g27, 0, none⟩) 4 4, .slice a1 (putNum (F.ns.length : Int)).length c1, .slice a2 (putNum (F.ds.length : Int)).length c2] 45)) (Nat.le_refl _)
            have hrow33 : Var (W31.alloc (.cells #[.slice (some ⟨g27, 0, none⟩) 4 4, .slice a1 (putNum (F.ns.length : Int)).length c1, .slice a2 (putNum (F.ds.length : Int)).length c2] 45)) W31.heap.size #[.slice (some ⟨g27, 0, none⟩) 4 4, .slice a1 (putNum (F.ns.length : Int)).length c1, .slice a2 (putNum (F.ds.length : Int)).length c2] 45 := Var.made _ _ _
            refine hK.out _ _ ⟨hb34.1.cell 0, hb34.1.cell 1⟩ (fun _ => ?_)
            clear hK K
            try simp only [Act.put, List.setIfInBounds_toArray, List.set_cons_zero, List.set_cons_succ]
            refine wpAnyH_ready (rs := [11]) (by kernel_rfl) (by simp) (AllReadyH.cons rfl (fun K hK => ?_) AllReadyH.nil)
            go_simp
            refine (concatW W31.heap.size 3 [[66, 65, 83, 78], putNum (F.ns.length : Int), putNum (F.ds.length : Int)] _ (by simp) HFL.out.1 HFL.out.2 (fun q hq => cat3 hrow33 m2_34 r1_34 r2_34 q hq)).mono ?_
            rintro e w9 ⟨v9, rfl, ho9, hb9⟩
            have hV9 := hb34.1.new hb9
            have hB9 : Below w.heap.size w w9 := hb34.2.trans (hb9.mono hb34.2.size)
            have hO9 := ownsRow_base ho9 (show w.heap.size + 1 ≤ _ from hb34.1.lt)
            refine hK.out _ _ ⟨hV9.cell 0, hV9.cell 1⟩ (fun _ => ?_)
            clear hK K
            try simp only [Act.put, List.setIfInBounds_toArray, List.set_cons_zero, List.set_cons_succ]
            refine wpAnyH_ready (rs := [12]) (by kernel_rfl) (by simp) (AllReadyH.cons rfl (fun K hK => ?_) AllReadyH.nil)
            go_simp
            refine hK.out _ _ ⟨hV9.cell 0, hV9.cell 1⟩ (fun _ => ?_)
            clear hK K
            try simp only [Act.put, List.setIfInBounds_toArray, List.set_cons_zero, List.set_cons_succ]
            refine wpAnyH_done (by kernel_rfl) ?_ _
            simp only [NoPanic]
            go_wp2
            go_meet
            exact ⟨HFE.out ▸ hO9, hV9, hB9⟩
          · skip
            go_simp
            refine (HPN.out F.ds.length W27).mono ?_
            rintro e W35 ⟨a2, c2, rfl, r2_35, hlo35, hbn35⟩
            have ner2_35 : ∀ b off, a2 = some ⟨b, off, none⟩ → putNum (F.ds.length : Int) ≠ [] → ¬ b = g27 := fun b off h _ => by have h1 := hlo35 b off h; have h2 := m1_27.lt; omega
            have hb36 : Var W35 w.heap.size #[.slice a F.ns.length ca, .slice b F.ds.length cb] 26 ∧ Below w.heap.size w W35 := ⟨hb28.1.new hbn35, hb28.2.trans (hbn35.mono hb28.2.size)⟩
            have m1_36 : Var W35 g27 #[.int .u8 66, .int .u8 65, .int .u8 83, .int .u8 78] 5 := m1_27.new hbn35
            have r1_36 := r1_28.below hbn35 (Nat.le_refl _)
            refine hK.out _ _ ⟨hb36.1.cell 0, hb36.1.cell 1⟩ (fun _ => ?_)
            clear hK K
            try simp only [Act.put, List.setIfInBounds_toArray, List.set_cons_zero, List.set_cons_succ]
            refine wpAnyH_ready (rs := [1]) (by kernel_rfl) (by simp) (AllReadyH.cons rfl (fun K hK => ?_) AllReadyH.nil)
            have hcv37 := conv_lit W35 g27 #[.int .u8 66, .int .u8 65, .int .u8 83, .int .u8 78] 4 4 m1_36
            go_simp
            have hO37 : Only (fun j => j = g27) W35 (W35.freeze ⟨g27, 4, none⟩ 1) := freeze_only W35 g27 4
            have hb38 : Var (W35.freeze ⟨g27, 4, none⟩ 1) w.heap.size #[.slice a F.ns.length ca, .slice b F.ds.length cb] 26 ∧ Below w.heap.size w (W35.freeze ⟨g27, 4, none⟩ 1) := ⟨hb36.1.only hO37 (by omega), hb36.2.trans (hO37.below hb36.2.size (fun j e => by omega))⟩
            have r1_38 := rd_only8 r1_36 hO37 ner1_27
            have r2_38 := rd_only8 r2_35 hO37 ner2_35
            have m2_37 : Rd .u8 (W35.freeze ⟨g27, 4, none⟩ 1) (some ⟨g27, 0, none⟩) [66, 65, 83, 78] := lit_rd m1_36
            refine hK.out _ _ ⟨hb38.1.cell 0, hb38.1.cell 1⟩ (fun _ => ?_)
            clear hK K
            try simp only [Act.put, List.setIfInBounds_toArray, List.set_cons_zero, List.set_cons_succ]
            clear hcv37 hO37
            generalize W35.freeze ⟨g27, 4, none⟩ 1 = W37 at *
            refine wpAnyH_ready (rs := [10]) (by kernel_rfl) (by simp) (AllReadyH.cons rfl (fun K hK => ?_) AllReadyH.nil)
            go_simp
            have hb40 : Var (W37.alloc (.cells #[.slice (some ⟨g27, 0, none⟩) 4 4, .slice a1 (putNum (F.ns.length : Int)).length c1, .slice a2 (putNum (F.ds.length : Int)).length c2] 45)) w.heap.size #[.slice a F.ns.length ca, .slice b F.ds.length cb] 26 ∧ Below w.heap.size w (W37.alloc (.cells #[.slice (some ⟨g27, 0, none⟩) 4 4, .slice a1 (putNum (F.ns.length : Int)).length c1, .slice a2 (putNum (F.ds.length : Int)).length c2] 45)) := ⟨hb38.1.new (below1 W37 (.cells #[.slice (some ⟨g27, 0, none⟩) 4 4, .slice a1 (putNum (F.ns.length : Int)).length c1, .slice a2 (putNum (F.ds.length : Int)).length c2] 45)), hb38.2.trans ((below1 W37 (.cells #[.slice (some ⟨g27, 0, none⟩) 4 4, .slice a1 (putNum (F.ns.length : Int)).length c1, .slice a2 (putNum (F.ds.length : Int)).length c2] 45)).mono hb38.2.size)⟩
            have m2_40 := m2_37.below (below1 W37 (.cells #[.slice (some ⟨g27, 0, none⟩) 4 4, .slice a1 (putNum (F.ns.length : Int)).length c1, .slice a2 (putNum (F.ds.length : Int)).length c2] 45)) (Nat.le_refl _)
            have r1_40 := r1_38.below (below1 W37 (.cells #[.slice (some ⟨g27, 0, none⟩) 4 4, .slice a1 (putNum (F.ns.length : Int)).length c1, .slice a2 (putNum (F.ds.length : Int)).length c2] 45)) (Nat.le_refl _)
            have r2_40 := r2_38.below (below1 W37 (.cells #[.slice (some ⟨g27, 0, none⟩) 4 4, .slice a1 (putNum (F.ns.length : Int)).length c1, .slice a2 (putNum (F.ds.length : Int)).length c2] 45)) (Nat.le_refl _)
            have hrow39 : Var (W37.alloc (.cells #[.slice (some ⟨g27, 0, none⟩) 4 4, .slice a1 (putNum (F.ns.length : Int)).length c1, .slice a2 (putNum (F.ds.length : Int)).length c2] 45)) W37.heap.size #[.slice (some ⟨g27, 0, none⟩) 4 4, .slice a1 (putNum (F.ns.length : Int)).length c1, .slice a2 (putNum (F.ds.length : Int)).length c2] 45 := Var.made _ _ _
            refine hK.out _ _ ⟨hb40.1.cell 0, hb40.1.cell 1⟩ (fun _ => ?_)
            clear hK K
            try simp only [Act.put, List.setIfInBounds_toArray, List.set_cons_zero, List.set_cons_succ]
            refine wpAnyH_ready (rs := [11]) (by kernel_rfl) (by simp) (AllReadyH.cons rfl (fun K hK => ?_) AllReadyH.nil)
            go_simp
            refine (concatW W37.heap.size 3 [[66, 65, 83, 78], putNum (F.ns.length : Int), putNum (F.ds.length : Int)] _ (by simp) HFL.out.1 HFL.out.2 (fun q hq => cat3 hrow39 m2_40 r1_40 r2_40 q hq)).mono ?_
            rintro e w9 ⟨v9, rfl, ho9, hb9⟩
            have hV9 := hb40.1.new hb9
            have hB9 : Below w.heap.size w w9 := hb40.2.trans (hb9.mono hb40.2.size)
            have hO9 := ownsRow_base ho9 (show w.heap.size + 1 ≤ _ from hb40.1.lt)
            refine hK.out _ _ ⟨hV9.cell 0, hV9.cell 1⟩ (fun _ => ?_)
            clear hK K
            try simp only [Act.put, List.setIfInBounds_toArray, List.set_cons_zero, List.set_cons_succ]
            refine wpAnyH_ready (rs := [12]) (by kernel_rfl) (by simp) (AllReadyH.cons rfl (fun K hK => ?_) AllReadyH.nil)
            go_simp
            refine hK.out _ _ ⟨hV9.cell 0, hV9.cell 1⟩ (fun _ => ?_)
            clear hK K
            try simp only [Act.put, List.setIfInBounds_toArray, List.set_cons_zero, List.set_cons_succ]
            refine wpAnyH_done (by kernel_rfl) ?_ _
            simp only [NoPanic]
            go_wp2
            go_meet
            exact ⟨HFE.out ▸ hO9, hV9, hB9⟩
        · skip
          go_simp
          refine (HPN.out F.ds.length W25).mono ?_
          rintro e W41 ⟨a2, c2, rfl, r2_41, hlo41, hbn41⟩
          have hb42 : Var W41 w.heap.size #[.slice a F.ns.length ca, .slice b F.ds.length cb] 26 ∧ Below w.heap.size w W41 := ⟨hb26.1.new hbn41, hb26.2.trans (hbn41.mono hb26.2.size)⟩
          have r1_42 := r1_25.below hbn41 (Nat.le_refl _)
          refine hK.out _ _ ⟨hb42.1.cell 0, hb42.1.cell 1⟩ (fun _ => ?_)
          clear hK K
          try simp only [Act.put, List.setIfInBounds_toArray, List.set_cons_zero, List.set_cons_succ]
          refine wpAnyH_ready (rs := [0]) (by kernel_rfl) (by simp) (AllReadyH.cons rfl (fun K hK => ?_) AllReadyH.nil)
          go_simp
          have hb44 : Var (W41.alloc (.cells #[.int .u8 66, .int .u8 65, .int .u8 83, .int .u8 78] 5)) w.heap.size #[.slice a F.ns.length ca, .slice b F.ds.length cb] 26 ∧ Below w.heap.size w (W41.alloc (.cells #[.int .u8 66, .int .u8 65, .int .u8 83, .int .u8 78] 5)) := ⟨hb42.1.new (below1 W41 (.cells #[.int .u8 66, .int .u8 65, .int .u8 83, .int .u8 78] 5)), hb42.2.trans ((below1 W41 (.cells #[.int .u8 66, .int .u8 65, .int .u8 83, .int .u8 78] 5)).mono hb42.2.size)⟩
          have r1_44 := r1_42.below (below1 W41 (.cells #[.int .u8 66, .int .u8 65, .int .u8 83, .int .u8 78] 5)) (Nat.le_refl _)
          have r2_44 := r2_41.below (below1 W41 (.cells #[.int .u8 66, .int .u8 65, .int .u8 83, .int .u8 78] 5)) (Nat.le_refl _)
          have m1_43 : Var (W41.alloc (.cells #[.int .u8 66, .int .u8 65, .int .u8 83, .int .u8 78] 5)) W41.heap.size #[.int .u8 66, .int .u8 65, .int .u8 83, .int .u8 78] 5 := Var.made _ _ _
          have hg43 : w.heap.size < W41.heap.size := hb42.1.lt
          refine hK.out _ _ ⟨hb44.1.cell 0, hb44.1.cell 1⟩ (fun _ => ?_)
          clear hK K
          try simp only [Act.put, List.setIfInBounds_toArray, List.set_cons_zero, List.set_cons_succ]
          obtain ⟨g43, HG43⟩ : ∃ x, Hid (W41.heap.size = x) := ⟨_, rfl⟩
          try rw [HG43.out]
          rw [HG43.out] at m1_43 hg43
          generalize W41.alloc (.cells #[.int .u8 66, .int .u8 65, .int .u8 83, .int .u8 78] 5) = W43 at *
          have ner1_43 := rd_old r1_42 HG43.out
          have ner2_43 := rd_old r2_41 HG43.out
          refine wpAnyH_ready (rs := [1]) (by kernel_rfl) (by simp) (AllReadyH.cons rfl (fun K hK => ?_) AllReadyH.nil)
          have hcv45 := conv_lit W43 g43 #[.int .u8 66, .int .u8 65, .int .u8 83, .int .u8 78] 4 4 m1_43
          go_simp
          have hO45 : Only (fun j => j = g43) W43 (W43.freeze ⟨g43, 4, none⟩ 1) := freeze_only W43 g43 4
          have hb46 : Var (W43.freeze ⟨g43, 4, none⟩ 1) w.heap.size #[.slice a F.ns.length ca, .slice b F.ds.length cb] 26 ∧ Below w.heap.size w (W43.freeze ⟨g43, 4, none⟩ 1) := ⟨hb44.1.only hO45 (by omega), hb44.2.trans (hO45.below hb44.2.size (fun j e => by omega))⟩
          have r1_46 := rd_only8 r1_44 hO45 ner1_43
          have r2_46 := rd_only8 r2_44 hO45 ner2_43
          have m2_45 : Rd .u8 (W43.freeze ⟨g43, 4, none⟩ 1) (some ⟨g43, 0, none⟩) [66, 65, 83, 78] := lit_rd m1_43
          refine hK.out _ _ ⟨hb46.1.cell 0, hb46.1.cell 1⟩ (fun _ => ?_)
          clear hK K
          try simp only [Act.put, List.setIfInBounds_toArray, List.set_cons_zero, List.set_cons_succ]
          clear hcv45 hO45
          generalize W43.freeze ⟨g43, 4, none⟩ 1 = W45 at *
          refine wpAnyH_ready (rs := [10]) (by kernel_rfl) (by simp) (AllReadyH.cons rfl (fun K hK => ?_) AllReadyH.nil)
          go_simp
          have hb48 : Var (W45.alloc (.cells #[.slice (some ⟨g43, 0, none⟩) 4 4, .slice a1 (putNum (F.ns.length : Int)).length c1, .slice a2 (putNum (F.ds.length : Int)).length c2] 45)) w.heap.size #[.slice a F.ns.length ca, .slice b F.ds.length cb] 26 ∧ Below w.heap.size w (W45.alloc (.cells #[.slice (some ⟨g43, 0, none⟩) 4 4, .slice a1 (putNum (F.ns.length : Int)).length c1, .slice a2 (putNum (F.ds.length : Int)).length c2] 45)) := ⟨hb46.1.new (below1 W45 (.cells #[.slice (some ⟨g43, 0, none⟩) 4 4, .slice a1 (putNum (F.ns.length : Int)).length c1, .slice a2 (putNum (F.ds.length : Int)).length c2] 45)), hb46.2.trans ((below1 W45 (.cells #[.slice (some ⟨g43, 0, none⟩) 4 4, .slice a1 (putNum (F.ns.length : Int)).length c1, .slice a2 (putNum (F.ds.length : Int)).length c2] 45)).mono hb46.2.size)⟩
          have m2_48 := m2_45.below (below1 W45 (.cells #[.slice (some ⟨g43, 0, none⟩) 4 4, .slice a1 (putNum (F.ns.length : Int)).length c1, .slice a2 (putNum (F.ds.length : Int)).length c2] 45)) (Nat.le_refl _)
          have r1_48 := r1_46.below (below1 W45 (.cells #[.slice (some ⟨g43, 0, none⟩) 4 4, .slice a1 (putNum (F.ns.length : Int)).length c1, .slice a2 (putNum (F.ds.length : Int)).length c2] 45)) (Nat.le_refl _)
          have r2_48 := r2_46.below (below1 W45 (.cells #[.slice (some ⟨g43, 0, none⟩) 4 4, .slice a1 (putNum (F.ns.length : Int)).length c1, .slice a2 (putNum (F.ds.length : Int)).length c2] 45)) (Nat.le_refl _)
          have hrow47 : Var (W45.alloc (.cells #[.slice (some ⟨g43, 0, none⟩) 4 4, .slice a1 (putNum (F.ns.length : Int)).length c1, .slice a2 (putNum (F.ds.length : Int)).length c2] 45)) W45.heap.size #[.slice (some ⟨g43, 0, none⟩) 4 4, .slice a1 (putNum (F.ns.length : Int)).length c1, .slice a2 (putNum (F.ds.length : Int)).length c2] 45 := Var.made _ _ _
          refine hK.out _ _ ⟨hb48.1.cell 0, hb48.1.cell 1⟩ (fun _ => ?_)
          clear hK K
          try simp only [Act.put, List.setIfInBounds_toArray, List.set_cons_zero, List.set_cons_succ]
          refine wpAnyH_ready (rs := [11]) (by kernel_rfl) (by simp) (AllReadyH.cons rfl (fun K hK => ?_) AllReadyH.nil)
          go_simp
          refine (concatW W45.heap.size 3 [[66, 65, 83, 78], putNum (F.ns.length : Int), putNum (F.ds.length : Int)] _ (by simp) HFL.out.1 HFL.out.2 (fun q hq => cat3 hrow47 m2_48 r1_48 r2_48 q hq)).mono ?_
          rintro e w9 ⟨v9, rfl, ho9, hb9⟩
          have hV9 := hb48.1.new hb9
          have hB9 : Below w.heap.size w w9 := hb48.2.trans (hb9.mono hb48.2.size)
          have hO9 := ownsRow_base ho9 (show w.heap.size + 1 ≤ _ from hb48.1.lt)
          refine hK.out _ _ ⟨hV9.cell 0, hV9.cell 1⟩ (fun _ => ?_)
          clear hK K
          try simp only [Act.put, List.setIfInBounds_toArray, List.set_cons_zero, List.set_cons_succ]
          refine wpAnyH_ready (rs := [12]) (by kernel_rfl) (by simp) (AllReadyH.cons rfl (fun K hK => ?_) AllReadyH.nil)
          go_simp
          refine hK.out _ _ ⟨hV9.cell 0, hV9.cell 1⟩ (fun _ => ?_)
          clear hK K
          try simp only [Act.put, List.setIfInBounds_toArray, List.set_cons_zero, List.set_cons_succ]
          refine wpAnyH_done (by kernel_rfl) ?_ _
          simp only [NoPanic]
          go_wp2
          go_meet
          exact ⟨HFE.out ▸ hO9, hV9, hB9⟩
--TAC
    case rest =>
      obtain ⟨ho2, hX2, hb2⟩ := hcut.out
      have hcv : (convert 45 9 u3).run Tryd.prog wc = .ok (.string (baOf (fsHead F))) wc := conv_row (fsHead_u8 F) (fsHead_len HSP.out).2 ho2
      have HO2 : Hid (wc.ownsRow (w.heap.size + 1) 5 1 u3 (fsHead F).length ((fsHead F).map (Value.int .u8))) := ho2
      clear hcut HPN HFL HFE HVX hb01 x0 x1 ho2 hcv
      go_wp2_with fail
      refine (filledW w.heap.size b cb F.ds wc hX2.lt hc4 (hX2.cell 1) (HR2.out _ hb2)).mono ?_
      rintro e w3 ⟨rfl, hb3⟩
      rw [tenV]
      have hB3 : Var (w3.alloc (.cells #[.int .u8 (byteAt (fillL F.ds F.ds.length) 0 : Int), .int .u8 (byteAt (fillL F.ds F.ds.length) 1 : Int), .int .u8 (byteAt (fillL F.ds F.ds.length) 2 : Int), .int .u8 (byteAt (fillL F.ds F.ds.length) 3 : Int), .int .u8 (byteAt (fillL F.ds F.ds.length) 4 : Int)] 58)) w3.heap.size (bitV (fillL F.ds F.ds.length)) 58 := by rw [tenV]; exact Var.made _ _ _
      have hb4 := (below1 w3 (.cells #[.int .u8 (byteAt (fillL F.ds F.ds.length) 0 : Int), .int .u8 (byteAt (fillL F.ds F.ds.length) 1 : Int), .int .u8 (byteAt (fillL F.ds F.ds.length) 2 : Int), .int .u8 (byteAt (fillL F.ds F.ds.length) 3 : Int), .int .u8 (byteAt (fillL F.ds F.ds.length) 4 : Int)] 58))
      have hX4 := (hX2.new hb3).new hb4
      have ho4 := ownsRow_below (ownsRow_below HO2.out hb3 (Nat.le_refl _)) hb4 (Nat.le_refl _)
      have hb04 : Below w.heap.size w w3 := hb2.trans (hb3.mono hb2.size)
      have hb05 := hb04.trans (hb4.mono hb04.size)
      go_upto_region 5 with fail
      generalize w3.alloc (.cells #[.int .u8 (byteAt (fillL F.ds F.ds.length) 0 : Int), .int .u8 (byteAt (fillL F.ds F.ds.length) 1 : Int), .int .u8 (byteAt (fillL F.ds F.ds.length) 2 : Int), .int .u8 (byteAt (fillL F.ds F.ds.length) 3 : Int), .int .u8 (byteAt (fillL F.ds F.ds.length) 4 : Int)] 58) = w5 at *
      clear hb3 hb4 hb04 HO2 hX2 hb2
      have hcv : (convert 45 9 u3).run Tryd.prog w5.drew = .ok (.string (baOf (fsHead F))) w5.drew := conv_row (fsHead_u8 F) (fsHead_len HSP.out).2 (base := w.heap.size + 1) ho4
      have HTX : Hid (Calls Tryd.prog 45 #[.pointer (some ⟨w3.heap.size, 0, none⟩), .int .i64 (F.ds.length : Nat)] w5.drew fun e w' => e = .returned (.string (baOf (bitsB (allB F.ns) ((F.ds.length + 7) / 8)))) ∧ w' = w5.drew) := by
        rw [shape_fill HSP.out _ (by omega)]
        exact textBW _ _ _ _ hc3 hc4 hB3
      have x5 := hX4.cell 1
      simp at x5
      have HI5 := BkInv.made2 (show Var w5.drew _ _ _ from hX4) hb05.drew (baOf (fsHead F)) (baOf (bitsB (allB F.ns) ((F.ds.length + 7) / 8)))
      obtain ⟨hd, HHD⟩ : ∃ x, Hid (baOf (fsHead F) = x) := ⟨_, rfl⟩
      obtain ⟨bs, HBS⟩ : ∃ x, Hid (baOf (bitsB (allB F.ns) ((F.ds.length + 7) / 8)) = x) := ⟨_, rfl⟩
      rw [HHD.out] at hcv HI5
      rw [HBS.out] at HTX HI5
      have HI : Hid (BkInv w ((w5.drew).alloc (.cells #[.string hd, .string bs] 9)) #[.slice a F.ns.length ca, .slice b F.ds.length cb] (.slice (some ⟨w5.heap.size, 0, none⟩) 2 2) (hd :: bs :: (F.ns.take 0).map ndText)) := HI5
      have x6 := HI5.var.cell 0
      simp at x6
      clear HI5 ho4 hB3 hX4 hb05
      go_cut [5] (fun v wx => Hid (BkInv w wx #[.slice a F.ns.length ca, .slice b F.ds.length cb] v (hd :: bs :: (F.ns.take 0).map ndText)))
      case first =>
        go_region_with (go_at_call 45; refine HTX.out.mono ?_; rintro e w6 ⟨rfl, hw6⟩; subst w6)
        all_goals
          go_simp
          go_wp2
          go_meet
          exact HI
      case rest =>
        have HI9 := hcut
        have y0 := HI9.out.var.cell 0
        simp at y0
        clear hcut HI HTX hcv x5 x6
        go_wp2
        clear y0
        go_loopw [5, 7, 36] (fun v _ i wr => ∃ k : Nat, k ≤ F.ns.length ∧ i = .int .i64 k ∧ Hid (BkInv w wr #[.slice a F.ns.length ca, .slice b F.ds.length cb] v (hd :: bs :: (F.ns.take k).map ndText))) (fun _ _ i _ => F.ns.length - (intOf i).toNat)
        case atStart => exact ⟨0, Nat.zero_le _, rfl, HI9⟩
        case round =>
          clear HI9
          obtain ⟨k, hk, rfl, HI⟩ := hrel
          by_cases hlt : k < F.ns.length
          · obtain ⟨g, off, u, rfl, hg', hru, c0, c1', c2', c3, c4⟩ := HR1.out.at k hlt
            have hbel := HI.out.bel
            have d0 := (hbel.cell (p := ⟨g, off + k * 5, none⟩) hg').trans c0
            have d1 := (hbel.cell (p := ⟨g, off + k * 5 + 1, none⟩) hg').trans c1'
            have d2 := (hbel.cell (p := ⟨g, off + k * 5 + 2, none⟩) hg').trans c2'
            have d3 := (hbel.cell (p := ⟨g, off + k * 5 + 3, none⟩) hg').trans c3
            have d4 := (hbel.cell (p := ⟨g, off + k * 5 + 4, none⟩) hg').trans c4
            have HTK : Hid (hd :: bs :: (F.ns.take (k + 1)).map ndText = (hd :: bs :: (F.ns.take k).map ndText) ++ [ndText F.ns[k]]) := by show _ = _; rw [List.take_succ_eq_append_getElem hlt, List.map_append]; rfl
            have HNL : Hid (F.ns[k].b.length ≤ 1048576) := HSM.out.2.1 _ (List.getElem_mem hlt)
            have HRU : Hid (∀ W, Below w.heap.size w W → RdN W (aggN F.ns[k] u) F.ns[k]) := fun W h => (hru.below h (Nat.le_refl _)).node
            have HLK : Hid ((hd :: bs :: (F.ns.take k).map ndText).length ≤ 12) := by show _ ≤ _; simp; omega
            obtain ⟨ua, uc, rfl, _⟩ := hru
            clear c0 c1' c2' c3 c4 hbel
            generalize F.ns[k] = n at *
            generalize hd :: bs :: (F.ns.take k).map ndText = X at *
            have hI10 := HI.out.new (below1 wr (.cells #[.int .i64 n.k, .int .i64 n.g, .int .i64 n.t, .int .i64 n.s, .slice ua n.b.length uc] 36))
            go_wp2_with fail
            refine (implNodeText (aggN n (.slice ua n.b.length uc)) n _ HNL.out (HRU.out _ hI10.bel)).mono ?_
            rintro e w11 ⟨rfl, hb11⟩
            generalize ndText n = nt at *
            have hI12 := (hI10.new hb11).new (below1 w11 (.cells #[.string nt] 9))
            have HS12 : Hid (Src Tryd.prog 1 22 (.slice (some ⟨w11.heap.size, 0, none⟩) 1 1) 1 ([nt].map Value.string) (w11.alloc (.cells #[.string nt] 9))) := srcOne Tryd.underlying22 w11 (.string nt) rfl
            have ho12 := hI12.row
            clear HI hI10 d0 d1 d2 d3 d4 hb11 HRU HNL
            go_wp2_with (at_builtin; refine wpList_append_own_src _ rfl (.tmp 40) (.tmp 43) 22 22 rfl (w.heap.size + 1) 9 i1 (.string ⟨#[]⟩) 1 16 Tryd.underlying22 gi gz0 gz1 gz2 rfl _ _ _ rfl ho12 _ 1 ([nt].map Value.string) rfl HS12.out (by have := HLK.out; unfold maxLen; omega) (by have := HLK.out; omega) hI12.lt ?_)
            intro v13 w13 ho13 hg13
            have HI13 : Hid (BkInv w w13 #[.slice (some ⟨g, off, none⟩) F.ns.length ca, .slice b F.ds.length cb] v13 (hd :: bs :: (F.ns.take (k + 1)).map ndText)) := by show BkInv _ _ _ _ _; rw [HTK.out]; exact hI12.app ho13 hg13
            clear hI12 HS12 ho12 ho13 hg13
            go_wp2
            go_roundw
            case rel => exact ⟨k + 1, by omega, by go_num, HI13⟩
            case measure => simp [intOf]; omega
          · obtain rfl : k = F.ns.length := by omega
            have hI := HI.out
            rw [List.take_length] at hI
            have z1 := hI.var.cell 1
            simp at z1
            have HLK : Hid ((hd :: bs :: F.ns.map ndText).length ≤ 12) := by show _ ≤ _; simp; omega
            have HFF : Hid (fsBl F = (hd :: bs :: F.ns.map ndText) ++ F.ds) := by
              show _ = _
              rw [HF.out, HBS.out, HHD.out]; rfl
            have HI0 : Hid (BkInv w wr #[.slice a F.ns.length ca, .slice b F.ds.length cb] u5 ((hd :: bs :: F.ns.map ndText) ++ F.ds.take 0)) := by rw [List.take_zero, List.append_nil]; exact hI
            clear HI hI
            generalize hd :: bs :: F.ns.map ndText = X at *
            go_wp2
            clear z1
            go_loopw [5, 9, 49] (fun v _ i wr => ∃ k : Nat, k ≤ F.ds.length ∧ i = .int .i64 k ∧ Hid (BkInv w wr #[.slice a F.ns.length ca, .slice b F.ds.length cb] v (X ++ F.ds.take k))) (fun _ _ i _ => F.ds.length - (intOf i).toNat)
            case atStart => exact ⟨0, Nat.zero_le _, rfl, HI0⟩
            case round =>
              clear HI0
              obtain ⟨k, hk, rfl, HI⟩ := hrel
              by_cases hlt : k < F.ds.length
              · obtain ⟨g, off, rfl, hg', hcd⟩ := (HR2.out _ (Below.refl _ _)).cellT k hlt
                have d0 := (HI.out.bel.cell (p := ⟨g, off + k, none⟩) hg').trans hcd
                have HTK : Hid (X ++ F.ds.take (k + 1) = (X ++ F.ds.take k) ++ [F.ds[k]]) := by show _ = _; rw [List.take_succ_eq_append_getElem hlt, List.append_assoc]
                have hdz := HSM.out.2.2.2 _ (List.getElem_mem hlt)
                have HLR : Hid ((X ++ F.ds.take k).length ≤ 48) := by have := HLK.out; show _ ≤ _; rw [List.length_append, List.length_take]; omega
                clear hcd
                generalize F.ds[k] = d at *
                generalize X ++ F.ds.take k = Y at *
                go_wp2_with fail
                refine (cloneT d _ (by omega)).mono ?_
                rintro e w11 ⟨rfl, hb11⟩
                have hI12 := (HI.out.new hb11).new (below1 w11 (.cells #[.string d] 9))
                have HS12 : Hid (Src Tryd.prog 1 22 (.slice (some ⟨w11.heap.size, 0, none⟩) 1 1) 1 ([d].map Value.string) (w11.alloc (.cells #[.string d] 9))) := srcOne Tryd.underlying22 w11 (.string d) rfl
                have ho12 := hI12.row
                clear HI d0 hb11
                go_wp2_with (at_builtin; refine wpList_append_own_src _ rfl (.tmp 53) (.tmp 56) 22 22 rfl (w.heap.size + 1) 9 i1 (.string ⟨#[]⟩) 1 16 Tryd.underlying22 gi gz0 gz1 gz2 rfl _ _ _ rfl ho12 _ 1 ([d].map Value.string) rfl HS12.out (by have := HLR.out; unfold maxLen; omega) (by have := HLR.out; omega) hI12.lt ?_)
                intro v13 w13 ho13 hg13
                have HI13 : Hid (BkInv w w13 #[.slice a F.ns.length ca, .slice (some ⟨g, off, none⟩) F.ds.length cb] v13 (X ++ F.ds.take (k + 1))) := by show BkInv _ _ _ _ _; rw [HTK.out]; exact hI12.app ho13 hg13
                clear hI12 HS12 ho12 ho13 hg13
                go_wp2
                go_roundw
                case rel => exact ⟨k + 1, by omega, by go_num, HI13⟩
                case measure => simp [intOf]; omega
              · obtain rfl : k = F.ds.length := by omega
                have hI := HI.out
                rw [List.take_length, ← HFF.out] at hI
                have hrow := ownsRow_base hI.row (show w.heap.size ≤ w.heap.size + 1 by omega)
                have hbel := hI.bel
                clear HI hI
                go_wp2
                go_ret
                exact ⟨_, rfl, hrow, hbel⟩
end Go.Proofs.YtaabcfgjmankgaaDoor
