/-
  Own text: whether all items of a map are right; the program's TreeOk.
-/
import Derived.Test.YtmnngfaelanbcaaIOkIt
import Derived.Test.YtmnngfaelanbcaaHeldT
namespace Go.Proofs.Ytmnngfaelanbcaa
open Go.RowKit

/-- What is above a path is a directory. -/
def upB (F : ByteArray → Option ItD) (s : ByteArray) : Bool := dirB F (tx (abv (bt s)))
def RightP (F : ByteArray → Option ItD) : Prop := ∀ s x, F s = some x → itOk x = true ∧ upB F s = true
noncomputable def rightB (F : ByteArray → Option ItD) : Bool := @decide (RightP F) (Classical.propDecidable _)
theorem rightB_yes {F : ByteArray → Option ItD} (h : RightP F) : rightB F = true := by unfold rightB; exact @decide_eq_true _ (Classical.propDecidable _) h
theorem rightB_no {F : ByteArray → Option ItD} (h : ¬ RightP F) : rightB F = false := by unfold rightB; exact @decide_eq_false _ (Classical.propDecidable _) h
theorem joinl_le : ∀ l : List (List UInt8), l.all nmOk = true → (joinL l).length ≤ 7 * l.length
  | [], _ => by simp [joinL]
  | x :: l, h => by
    rw [List.all_cons, Bool.and_eq_true] at h
    have ih := joinl_le l h.2
    have hx : x.length ≤ 6 := by
      have := h.1
      unfold nmOk at this
      simp only [Bool.and_eq_true, decide_eq_true_eq] at this
      exact this.1.2
    rw [joinL_cons]
    simp only [List.length_cons, List.length_append]
    omega
theorem abv_size (s : ByteArray) : (tx (abv (bt s))).size ≤ 28 := by
  rw [tx_size]
  unfold abv
  split
  · unfold ptOf
    split
    · simp
    · split
      · rename_i h
        rw [Bool.and_eq_true, decide_eq_true_eq] at h
        have := joinl_le _ h.2
        omega
      · simp
  · simp

set_option maxRecDepth 20000 in
set_option maxHeartbeats 1000000 in
theorem implRight (b n : Nat) (F : ByteArray → Option ItD) (w : World) (hs : ∀ s x, F s = some x → s.size ≤ 1048576 ∧ x.p.size ≤ 1048576 ∧ x.d.size ≤ 1048576) (hM : MapIt w b n F) :
    Calls Try.prog 29 #[.map (some b)] w fun e w' => e = .returned (.bool (rightB F)) ∧ Below w.heap.size w w' := by
  have HS : Hid (∀ s x, F s = some x → s.size ≤ 1048576 ∧ x.p.size ≤ 1048576 ∧ x.d.size ≤ 1048576) := hs
  clear hs
  have hML := hM.lt
  go_enter Try.func29, Try.ntmps29
  go_wp2_with (at_range; refine wp_rangeIt _ rfl _ 51 rfl Try.underlying51 b n F rfl hM ?_; intro w0 cnt0 hR0 hc0 hB0 hs0)
  go_frame
  go_loopw [] (fun wr => ∃ (lf : ByteArray → Bool) (cnt : Nat), RgIt wr b w.heap.size n F lf cnt ∧ Below w.heap.size w wr ∧ w.heap.size + 1 ≤ wr.heap.size ∧ Hid (∀ s x, F s = some x → lf s = false → itOk x = true ∧ upB F s = true)) (fun wr => wr.rangeLeft b w.heap.size)
  case atStart => exact ⟨_, cnt0, hR0, hB0, by omega, fun s x h h2 => by rw [h] at h2; cases h2⟩
  case round =>
    obtain ⟨lf, cnt, hR, hB, hsz, HG⟩ := hrel
    clear hR0 hB0 hs0 hc0
    go_wp2_with (at_next; refine wp_nextIt _ rfl _ rfl b w.heap.size n F lf cnt rfl hR ?_ ?_)
    · intro hl
      have HT : Hid (rightB F = true) := rightB_yes fun s x h => HG.out s x h (hl s)
      go_wp2
      go_ret
      exact ⟨by rw [HT.out]; rfl, hB⟩
    · intro s x w1 cnt1 hls hF hR1 hlt hO1 hs1 hen
      unfold aggI at hen ⊢
      have hB1 : Below w.heap.size w w1 := hB.trans (hO1.below hB.size (fun j hj => by omega))
      have hle := hR.left_eq
      obtain ⟨hz1, hz2, hz3⟩ := HS.out s x hF
      have HR1 : Hid (∀ W, Below w1.heap.size w1 W → RgIt W b w.heap.size n F (fun z => lf z && !decide (z = s)) cnt1) := fun W h => hR1.new h
      have HI : Hid (∀ W, Below (w1.alloc (.cells #[.string x.p, .int .i64 x.k, .string x.d, .int .i64 x.t] 34)).heap.size (w1.alloc (.cells #[.string x.p, .int .i64 x.k, .string x.d, .int .i64 x.t] 34)) W → ItAt W w1.heap.size 0 x) := fun W h => by
        have hV := (Var.made w1 #[.string x.p, .int .i64 x.k, .string x.d, .int .i64 x.t] 34).new h
        exact ⟨hV.cell 0, hV.cell 1, hV.cell 2, hV.cell 3⟩
      have hsz1 : w.heap.size + 1 ≤ w1.heap.size := by omega
      clear hR hR1 hO1 hB hs1 hsz
      have HAB : Hid (∀ W, Calls Try.prog 36 #[.string s] W fun e w' => e = .returned (.string (tx (abv (bt s)))) ∧ Below W.heap.size W w') := fun W => implAbove s W (by omega)
      have HSZ : Hid ((tx (abv (bt s))).size ≤ maxLen) := Nat.le_trans (abv_size s) (by decide)
      have HB2 : Hid (Below w.heap.size w (w1.alloc (.cells #[.string x.p, .int .i64 x.k, .string x.d, .int .i64 x.t] 34))) := hB1.alloc hB1.size _
      have HOK : Hid (∀ q, itOk x = q → ∀ W, Below (w1.alloc (.cells #[.string x.p, .int .i64 x.k, .string x.d, .int .i64 x.t] 34)).heap.size (w1.alloc (.cells #[.string x.p, .int .i64 x.k, .string x.d, .int .i64 x.t] 34)) W → Calls Try.prog 46 #[.pointer (some ⟨w1.heap.size, 0, none⟩)] W fun e w' => e = .returned (.bool q) ∧ Below W.heap.size W w') := fun q hq W h => by
        subst hq
        exact implItOk w1.heap.size 0 x W hz2 hz3 (by have := h.size; simp at this; omega) (HI.out W h)
      have HD : Hid (∀ q, upB F s = q → ∀ W, MapIt W b n F → Calls Try.prog 35 #[.map (some b), .string (tx (abv (bt s)))] W fun e w' => e = .returned (.bool q) ∧ Below W.heap.size W w') := fun q hq W h => by
        subst hq
        exact implIsDir b n F _ W HSZ.out h
      have HGN : Hid (itOk x = true → upB F s = true → ∀ r y, F r = some y → (lf r && !decide (r = s)) = false → itOk y = true ∧ upB F r = true) := by
        intro h1 h2 r y hr hl
        by_cases e : r = s
        · subst e
          rw [hF] at hr
          injection hr with hr
          subst hr
          exact ⟨h1, h2⟩
        · exact HG.out r y hr (by simpa [e] using hl)
      have HNO : Hid ((itOk x = true ∧ upB F s = true → False) → rightB F = false) := fun h => rightB_no fun hp => h (hp s x hF)
      generalize tx (abv (bt s)) = up at *
      by_cases hq1 : itOk x = true
      · by_cases hq2 : upB F s = true
        · have HGN2 := HGN.out hq1 hq2
          go_wp2_with (first
            | (go_at_call 46; refine (HOK.out true hq1 _ (Below.refl _ _)).mono ?_; rintro e w2 ⟨rfl, hb2⟩)
            | (go_at_call 36; refine (HAB.out _).mono ?_; rintro e w3 ⟨rfl, hb3⟩)
            | (go_at_call 35; refine (HD.out true hq2 _ ((hM.below ((HB2.out.trans (hb2.mono HB2.out.size)).trans (hb3.mono (Nat.le_trans HB2.out.size hb2.size))) hML))).mono ?_; rintro e w4 ⟨rfl, hb4⟩))
          have hb24 := (hb2.trans (hb3.mono hb2.size)).trans (hb4.mono (Nat.le_trans hb2.size hb3.size))
          have hR4 := HR1.out _ ((below1 w1 (.cells #[.string x.p, .int .i64 x.k, .string x.d, .int .i64 x.t] 34)).trans (hb24.mono (by simp)))
          have hB4 := HB2.out.trans (hb24.mono HB2.out.size)
          have hz4 : w.heap.size + 1 ≤ w4.heap.size := by have := hb24.size; simp at this; omega
          go_roundw
          case rel => exact ⟨_, cnt1, hR4, hB4, hz4, HGN2⟩
          case measure => rw [hR4.left_eq, hle]; omega
        · have hq2' : upB F s = false := by simpa using hq2
          have HF : Hid (rightB F = false) := HNO.out (fun h => hq2 h.2)
          go_wp2_with (first
            | (go_at_call 46; refine (HOK.out true hq1 _ (Below.refl _ _)).mono ?_; rintro e w2 ⟨rfl, hb2⟩)
            | (go_at_call 36; refine (HAB.out _).mono ?_; rintro e w3 ⟨rfl, hb3⟩)
            | (go_at_call 35; refine (HD.out false hq2' _ ((hM.below ((HB2.out.trans (hb2.mono HB2.out.size)).trans (hb3.mono (Nat.le_trans HB2.out.size hb2.size))) hML))).mono ?_; rintro e w4 ⟨rfl, hb4⟩))
          have hb24 := (hb2.trans (hb3.mono hb2.size)).trans (hb4.mono (Nat.le_trans hb2.size hb3.size))
          have hB4 := HB2.out.trans (hb24.mono HB2.out.size)
          go_ret
          exact ⟨by rw [HF.out]; rfl, hB4⟩
      · have hq1' : itOk x = false := by simpa using hq1
        have HF : Hid (rightB F = false) := HNO.out (fun h => hq1 h.1)
        go_wp2_with (go_at_call 46; refine (HOK.out false hq1' _ (Below.refl _ _)).mono ?_; rintro e w2 ⟨rfl, hb2⟩)
        have hB2 := HB2.out.trans (hb2.mono HB2.out.size)
        go_ret
        exact ⟨by rw [HF.out]; rfl, hB2⟩
/-! ### A right tree -/
def TreeP (l : List ItD) : Prop := l.length ≤ 40 ∧ ∀ k (hk : k < l.length), itOk l[k] = true ∧ l[k].p ≠ rootS ∧ (∀ (h0 : 0 < k), lessS (l[k - 1]'(by omega)).p l[k].p = true) ∧ upB (itF l) l[k].p = true
noncomputable def treeB (l : List ItD) : Bool := @decide (TreeP l) (Classical.propDecidable _)
theorem treeB_yes {l : List ItD} (h : TreeP l) : treeB l = true := by unfold treeB; exact @decide_eq_true _ (Classical.propDecidable _) h
theorem treeB_no {l : List ItD} (h : ¬ TreeP l) : treeB l = false := by unfold treeB; exact @decide_eq_false _ (Classical.propDecidable _) h
theorem rise_step {l : List ItD} (h : ∀ k (hk : k < l.length) (_ : 0 < k), lessS (l[k - 1]'(by omega)).p l[k].p = true) : Rise l := by
  have key : ∀ (j : Nat) (hj : j < l.length) (i : Nat) (hi : i < j), lessS (l[i]'(by omega)).p l[j].p = true := by
    intro j
    induction j with
    | zero => intro _ i hi; omega
    | succ j ih =>
      intro hj i hi
      have hs := h (j + 1) hj (by omega)
      simp only [Nat.add_sub_cancel] at hs
      by_cases e : i = j
      · subst e; exact hs
      · exact lessS_trans (ih (by omega) i (by omega)) hs
  unfold Rise
  rw [List.pairwise_iff_getElem]
  exact fun i j hi hj hij => key j hj i hij
theorem rise_adj {l : List ItD} (h : Rise l) : ∀ k (hk : k < l.length) (_ : 0 < k), lessS (l[k - 1]'(by omega)).p l[k].p = true := by
  unfold Rise at h
  rw [List.pairwise_iff_getElem] at h
  exact fun k hk h0 => h (k - 1) k (by omega) hk (by omega)
theorem itF_of_rise {l : List ItD} (h : Rise l) {x : ItD} (hx : x ∈ l) (hn : x.p ≠ rootS) : itF l x.p = some x := by
  unfold itF
  rw [if_neg hn]
  obtain ⟨k, hk, rfl⟩ := List.mem_iff_getElem.1 hx
  rw [List.find?_eq_some_iff_getElem]
  refine ⟨by simp, k, hk, rfl, fun j hj => ?_⟩
  unfold Rise at h
  rw [List.pairwise_iff_getElem] at h
  have := lessS_ne (h j k (by omega) hk hj)
  simpa using this
theorem ptOk_rootS : ptOk (bt rootS) = true := by decide
theorem up_root (l : List ItD) : upB (itF l) rootS = true := by
  have e : tx (abv (bt rootS)) = rootS := by decide
  unfold upB dirB
  rw [e]
  unfold itF
  rw [if_pos rfl]
  rfl
theorem rootI_ok : itOk rootI = true := by
  unfold itOk rootI
  show (_ && (ptOk (bt rootS) && _)) = true
  rw [ptOk_rootS]
  decide
/-- A right tree: its items' map is right, and told it is the list. -/
theorem treeP_iff (l : List ItD) : TreeP l ↔ l.length ≤ 40 ∧ RightP (itF l) ∧ ToldP (itF l) l := by
  constructor
  · rintro ⟨h1, h2⟩
    have hr : Rise l := rise_step fun k hk h0 => (h2 k hk).2.2.1 h0
    have hn : ∀ x ∈ l, x.p ≠ rootS := fun x hx => by
      obtain ⟨k, hk, rfl⟩ := List.mem_iff_getElem.1 hx
      exact (h2 k hk).2.1
    refine ⟨h1, fun s x hs => ?_, ⟨fun x => ⟨fun hx => ⟨itF_of_rise hr hx (hn x hx), hn x hx⟩, fun hx => ?_⟩, hr⟩⟩
    · have hp := itF_key l s x hs
      rcases itF_mem hs with rfl | hx
      · have : s = rootS := hp.symm
        rw [this]
        exact ⟨rootI_ok, up_root l⟩
      · obtain ⟨k, hk, rfl⟩ := List.mem_iff_getElem.1 hx
        rw [← hp]
        exact ⟨(h2 k hk).1, (h2 k hk).2.2.2⟩
    · rcases itF_mem hx.1 with e | e
      · exact absurd (by rw [e]; rfl) hx.2
      · exact e
  · rintro ⟨h1, h2, h3⟩
    refine ⟨h1, fun k hk => ?_⟩
    have hx := (h3.1 l[k]).1 (List.getElem_mem hk)
    obtain ⟨h4, h5⟩ := h2 _ _ hx.1
    exact ⟨h4, hx.2, fun h0 => rise_adj h3.2 k hk h0, h5⟩
theorem treeB_big {l : List ItD} (h : ¬ l.length ≤ 40) : treeB l = false := treeB_no fun hp => h hp.1
theorem treeB_eq {l m : List ItD} (h : l.length ≤ 40) (hm : ToldP (itF l) m) : treeB l = (rightB (itF l) && trSame m l) := by
  by_cases h1 : RightP (itF l)
  · rw [rightB_yes h1]
    by_cases h2 : m = l
    · subst h2
      rw [treeB_yes ((treeP_iff m).2 ⟨h, h1, hm⟩)]
      unfold trSame
      simp
    · rw [treeB_no fun hp => h2 (hm.unique ((treeP_iff l).1 hp).2.2)]
      unfold trSame
      simp [h2]
  · rw [rightB_no h1, treeB_no fun hp => h1 ((treeP_iff l).1 hp).2.1]
    rfl

set_option maxRecDepth 20000 in
set_option maxHeartbeats 1000000 in
theorem implTreeOk (v : Value) (l : List ItD) (w : World) (hl : szIt l ≤ 1048576) (hr : RdTr w v l) :
    Calls Try.prog 10 #[v] w fun e w' => e = .returned (.bool (treeB l)) ∧ Below w.heap.size w w' := by
  obtain ⟨a, ca, rfl, _, hr⟩ := hr
  have hll := Nat.le_trans (szIt_len l) hl
  have HP : Hid (∀ x ∈ l, x.p.size ≤ maxLen) := fun x hx => by have := szIt_mem hx; unfold maxLen; omega
  have HR : Hid (∀ W, Below w.heap.size w W → RdF encI 4 W a l) := fun W h => hr.below h (Nat.le_refl _)
  have HSM : Hid (∀ s x, itF l s = some x → s.size ≤ 1048576 ∧ x.p.size ≤ 1048576 ∧ x.d.size ≤ 1048576) := fun s x h => by
    have hp := itF_key l s x h
    have hz := itAt_small (s := s) hl (by omega)
    unfold itAt at hz
    rw [h] at hz
    exact ⟨by rw [← hp]; exact hz.1, hz.1, hz.2⟩
  by_cases h40 : l.length ≤ 40
  · have hi40 : ¬ (40 : Int) < (l.length : Int) := by omega
    have HEQ : Hid (∀ m, ToldP (itF l) m → treeB l = (rightB (itF l) && trSame m l)) := fun m hm => treeB_eq h40 hm
    obtain ⟨R, HRB⟩ : ∃ R, Hid (rightB (itF l) = R) := ⟨_, rfl⟩
    have HNO : Hid (R = false → treeB l = false) := fun h => treeB_no fun hp => by
      have := rightB_yes ((treeP_iff l).1 hp).2.1
      rw [HRB.out, h] at this; cases this
    clear hr hl
    go_enter Try.func10, Try.ntmps10
    go_wp2_with (go_at_call 28; refine (implItems _ _ l _ hll HP.out (HR.out _ (below1 _ _))).mono ?_; rintro e w1 ⟨b, rfl, hbl, hM, hb1⟩)
    have HB1 : Hid (Below w.heap.size w w1) := (below1 w _).trans (hb1.mono (by simp))
    have HSZ : Hid (w.heap.size < w1.heap.size) := by have := hb1.size; simp at this; show _ < _; omega
    have c1 : w1.cell? ⟨w.heap.size, 0, none⟩ = some (.slice a l.length ca) := ((Var.made w #[.slice a l.length ca] 29).new hb1).cell 0
    have HRT : Hid (∀ q, R = q → ∀ W, MapIt W b (l.length + 1) (itF l) → Calls Try.prog 29 #[.map (some b)] W fun e w' => e = .returned (.bool q) ∧ Below W.heap.size W w') := fun q hq W h => by
      rw [← hq, ← HRB.out]
      exact implRight b (l.length + 1) (itF l) W HSM.out h
    clear hb1 hbl
--GEN
    cases R with
    | false =>
      have HE : Hid (treeB l = false) := HNO.out rfl
      refine wp_region_noPanic ?_
      refine wp_region_held_drew (S := (fun W => W.cell? ⟨w.heap.size, 0, none⟩ = some (.slice a l.length ca))) (by kernel_rfl) c1 (fun hT => ?_)
      clear hT
      refine held_take (i := 0) (v := .map (some b)) rfl rfl (by kernel_rfl) (by kernel_rfl) (by kernel_rfl) (by kernel_rfl) (fun W hS => by go_simp) c1 ?_
      simp only [Act.put, List.setIfInBounds_toArray, List.set_cons_zero, List.set_cons_succ]
      refine wpAnyH_ready (rs := [1]) (by kernel_rfl) (by simp) (AllReadyH.cons rfl (fun K hK => ?_) AllReadyH.nil)
      go_simp
      refine (HRT.out _ rfl _ (hM.new (Below.refl _ w1).drew)).mono ?_
      rintro e w2 ⟨rfl, hb2⟩
      have hb2 : Below w1.heap.size w1 w2 := (Below.refl _ w1).drew.trans hb2
      have c2 := (hb2.cell (p := ⟨w.heap.size, 0, none⟩) (by have := HSZ.out; exact this)).trans c1
      refine hK.out _ _ c2 (fun hT => ?_)
      clear hK K hT
      try simp only [Act.put, List.setIfInBounds_toArray, List.set_cons_zero, List.set_cons_succ]
      refine held_take (i := 2) (v := .bool false) rfl rfl (by kernel_rfl) (by kernel_rfl) (by kernel_rfl) (by kernel_rfl) (fun W hS => by go_simp) c2 ?_
      simp only [Act.put, List.setIfInBounds_toArray, List.set_cons_zero, List.set_cons_succ]
      refine held_skip (i := 3) rfl rfl (by kernel_rfl) (by kernel_rfl) (by kernel_rfl) (by kernel_rfl) c2 ?_
      simp only [Act.put, List.setIfInBounds_toArray, List.set_cons_zero, List.set_cons_succ]
      refine held_skip (i := 4) rfl rfl (by kernel_rfl) (by kernel_rfl) (by kernel_rfl) (by kernel_rfl) c2 ?_
      simp only [Act.put, List.setIfInBounds_toArray, List.set_cons_zero, List.set_cons_succ]
      refine held_skip (i := 5) rfl rfl (by kernel_rfl) (by kernel_rfl) (by kernel_rfl) (by kernel_rfl) c2 ?_
      simp only [Act.put, List.setIfInBounds_toArray, List.set_cons_zero, List.set_cons_succ]
      refine held_skip (i := 6) rfl rfl (by kernel_rfl) (by kernel_rfl) (by kernel_rfl) (by kernel_rfl) c2 ?_
      simp only [Act.put, List.setIfInBounds_toArray, List.set_cons_zero, List.set_cons_succ]
      refine held_skip (i := 7) rfl rfl (by kernel_rfl) (by kernel_rfl) (by kernel_rfl) (by kernel_rfl) c2 ?_
      simp only [Act.put, List.setIfInBounds_toArray, List.set_cons_zero, List.set_cons_succ]
      refine held_take (i := 8) (v := .bool false) rfl rfl (by kernel_rfl) (by kernel_rfl) (by kernel_rfl) (by kernel_rfl) (fun W hS => by go_simp) c2 ?_
      simp only [Act.put, List.setIfInBounds_toArray, List.set_cons_zero, List.set_cons_succ]
      refine held_take (i := 9) (v := .bool false) rfl rfl (by kernel_rfl) (by kernel_rfl) (by kernel_rfl) (by kernel_rfl) (fun W hS => by go_simp) c2 ?_
      simp only [Act.put, List.setIfInBounds_toArray, List.set_cons_zero, List.set_cons_succ]
      refine wpAnyH_done (by kernel_rfl) ?_ _
      simp only [NoPanic]
      have hB2 := HB1.out.trans (hb2.mono HB1.out.size)
      go_wp2
      go_ret
      exact ⟨by rw [HE.out]; rfl, hB2⟩
    | true =>
      refine wp_region_noPanic ?_
      refine wp_region_held_drew (S := (fun W => W.cell? ⟨w.heap.size, 0, none⟩ = some (.slice a l.length ca))) (by kernel_rfl) c1 (fun hT => ?_)
      clear hT
      refine held_take (i := 0) (v := .map (some b)) rfl rfl (by kernel_rfl) (by kernel_rfl) (by kernel_rfl) (by kernel_rfl) (fun W hS => by go_simp) c1 ?_
      simp only [Act.put, List.setIfInBounds_toArray, List.set_cons_zero, List.set_cons_succ]
      refine wpAnyH_ready (rs := [1]) (by kernel_rfl) (by simp) (AllReadyH.cons rfl (fun K hK => ?_) AllReadyH.nil)
      go_simp
      refine (HRT.out _ rfl _ (hM.new (Below.refl _ w1).drew)).mono ?_
      rintro e w2 ⟨rfl, hb2⟩
      have hb2 : Below w1.heap.size w1 w2 := (Below.refl _ w1).drew.trans hb2
      have c2 := (hb2.cell (p := ⟨w.heap.size, 0, none⟩) (by have := HSZ.out; exact this)).trans c1
      refine hK.out _ _ c2 (fun hT => ?_)
      clear hK K hT
      try simp only [Act.put, List.setIfInBounds_toArray, List.set_cons_zero, List.set_cons_succ]
      refine held_take (i := 2) (v := .bool true) rfl rfl (by kernel_rfl) (by kernel_rfl) (by kernel_rfl) (by kernel_rfl) (fun W hS => by go_simp) c2 ?_
      simp only [Act.put, List.setIfInBounds_toArray, List.set_cons_zero, List.set_cons_succ]
      refine held_take (i := 3) (v := .map (some b)) rfl rfl (by kernel_rfl) (by kernel_rfl) (by kernel_rfl) (by kernel_rfl) (fun W hS => by go_simp) c2 ?_
      simp only [Act.put, List.setIfInBounds_toArray, List.set_cons_zero, List.set_cons_succ]
      refine held_take (i := 5) (v := .pointer (some ⟨w.heap.size, 0, none⟩)) rfl rfl (by kernel_rfl) (by kernel_rfl) (by kernel_rfl) (by kernel_rfl) (fun W hS => by go_simp) c2 ?_
      simp only [Act.put, List.setIfInBounds_toArray, List.set_cons_zero, List.set_cons_succ]
      refine held_take (i := 6) (v := .slice a l.length ca) rfl rfl (by kernel_rfl) (by kernel_rfl) (by kernel_rfl) (by kernel_rfl) (fun W hS => by go_simp) c2 ?_
      simp only [Act.put, List.setIfInBounds_toArray, List.set_cons_zero, List.set_cons_succ]
      refine wpAnyH_ready (rs := [4]) (by kernel_rfl) (by simp) (AllReadyH.cons rfl (fun K hK => ?_) AllReadyH.nil)
      go_simp
      refine (implTold b (l.length + 1) (itF l) _ (by omega) (itF_key l) (hM.new hb2)).mono ?_
      rintro e w3 ⟨v3, m, rfl, hT3, hm3, ho3, hb3⟩
      have c3 := (hb3.cell (p := ⟨w.heap.size, 0, none⟩) (by have := HSZ.out; have := hb2.size; show w.heap.size < w2.heap.size; omega)).trans c2
      obtain ⟨a3, k3, rfl, _, hr3⟩ := own_rdF encI_len ho3 rfl
      refine hK.out _ _ c3 (fun hT => ?_)
      clear hK K hT
      try simp only [Act.put, List.setIfInBounds_toArray, List.set_cons_zero, List.set_cons_succ]
      refine wpAnyH_ready (rs := [7]) (by kernel_rfl) (by simp) (AllReadyH.cons rfl (fun K hK => ?_) AllReadyH.nil)
      go_simp
      refine (eqItSl _ _ _ _ m l _ (by unfold maxLen; omega) hr3 (HR.out _ (HB1.out.trans ((hb2.trans (hb3.mono hb2.size)).mono HB1.out.size)))).mono ?_
      rintro e w4 ⟨rfl, hb4⟩
      have c4 := (hb4.cell (p := ⟨w.heap.size, 0, none⟩) (by have := HSZ.out; have := hb2.size; have := hb3.size; show w.heap.size < w3.heap.size; omega)).trans c3
      refine hK.out _ _ c4 (fun hT => ?_)
      clear hK K hT
      try simp only [Act.put, List.setIfInBounds_toArray, List.set_cons_zero, List.set_cons_succ]
      refine held_take (i := 8) (v := .bool (trSame m l)) rfl rfl (by kernel_rfl) (by kernel_rfl) (by kernel_rfl) (by kernel_rfl) (fun W hS => by go_simp) c4 ?_
      simp only [Act.put, List.setIfInBounds_toArray, List.set_cons_zero, List.set_cons_succ]
      refine held_take (i := 9) (v := .bool (trSame m l)) rfl rfl (by kernel_rfl) (by kernel_rfl) (by kernel_rfl) (by kernel_rfl) (fun W hS => by go_simp) c4 ?_
      simp only [Act.put, List.setIfInBounds_toArray, List.set_cons_zero, List.set_cons_succ]
      refine wpAnyH_done (by kernel_rfl) ?_ _
      simp only [NoPanic]
      have hB4 := HB1.out.trans (((hb2.trans (hb3.mono hb2.size)).trans (hb4.mono (Nat.le_trans hb2.size hb3.size))).mono HB1.out.size)
      have HE : Hid (treeB l = trSame m l) := by show _ = _; rw [HEQ.out m hT3, HRB.out]; rfl
      go_wp2
      go_ret
      exact ⟨by rw [HE.out]; rfl, hB4⟩
--GENEND
  · have hi40 : (40 : Int) < (l.length : Int) := by omega
    have HE : Hid (treeB l = false) := treeB_big h40
    clear hr hl
    go_enter Try.func10, Try.ntmps10
    go_wp2
    go_ret
    exact ⟨by rw [HE.out]; rfl, below1 _ _⟩
end Go.Proofs.Ytmnngfaelanbcaa
