/-
  Own text: a row with one entry more, and an entry added, by the program (written by withgen.py).
-/
import Derived.Test.YtogpgocldgdeaaaIInsW
import Derived.Test.YtogpgocldgdeaaaIEokW
import Derived.Test.YtogpgocldgdeaaaSAddW
namespace Go.Proofs.Ytogpgocldgdeaaa
open Go.RowKit

theorem enAdded_ins (l : List EntD) (s : ByteArray) (n : Int) : enAdded l s n = insE l (enAt l s) s n := rfl

set_option maxRecDepth 20000 in
set_option maxHeartbeats 4000000 in
theorem implWith (a : Option Addr) (c : Nat) (l : List EntD) (s : ByteArray) (n : Int) (w : World) (hl : ShE l) (hs : s.size ≤ 1048576) (hr : RdF encN 2 w a l) :
    Calls Try.prog 37 #[.slice a l.length c, .agg #[.string s, .int .i64 n]] w fun e w' => ∃ v, e = .returned v ∧ w'.ownsRow w.heap.size 41 2 v (l.length + 1) ((enAdded l s n).flatMap encN) ∧ Below w.heap.size w w' := by
  have hll := hl.1
  have hV1 := Var.made w #[.string s, .int .i64 n] 41
  have hbA := below1 w (.cells #[.string s, .int .i64 n] 41)
  have hlt1 : w.heap.size < (w.alloc (.cells #[.string s, .int .i64 n] 41)).heap.size := by simp
  have HC : Hid (∀ t m W, Below (w.alloc (.cells #[.string s, .int .i64 n] 41)).heap.size (w.alloc (.cells #[.string s, .int .i64 n] 41)) W → Calls Try.prog 45 #[.agg #[.string t, .int .i64 m], .pointer (some ⟨w.heap.size, 0, none⟩)] W fun e w' => e = .returned (.bool (ltB s t)) ∧ Below W.heap.size W w') :=
    fun t m W h => withC w.heap.size s n t m W (by have := h.size; omega) ((h.cell hlt1).trans (hV1.cell 0)) ((h.cell hlt1).trans (hV1.cell 1))
  have HX : Hid (Calls Try.prog 43 #[.slice a l.length c, .func (.func 45) #[] #[.pointer (some ⟨w.heap.size, 0, none⟩)]] (w.alloc (.cells #[.string s, .int .i64 n] 41)) fun e w' => e = .returned (.int .i64 (idxF l (fun e => ltB s e.1))) ∧ Below (w.alloc (.cells #[.string s, .int .i64 n] 41)).heap.size (w.alloc (.cells #[.string s, .int .i64 n] 41)) w') :=
    indexWith _ (fun e => ltB s e.1) a c l _ hll (hr.below hbA (Nat.le_refl _)) HC.out
  have HAF : Hid (∀ W, Below (w.alloc (.cells #[.string s, .int .i64 n] 41)).heap.size (w.alloc (.cells #[.string s, .int .i64 n] 41)) W → Below w.heap.size w W ∧ (∀ W', Below W.heap.size W W' → W'.cell? ⟨w.heap.size, 0, none⟩ = some (.string s) ∧ W'.cell? ⟨w.heap.size, 1, none⟩ = some (.int .i64 n)) ∧ ∀ W', Below W.heap.size W W' → Calls Try.prog 38 #[.slice a l.length c] W' fun e w' => ∃ v, e = .returned v ∧ w'.ownsRow W.heap.size 41 2 v l.length (l.flatMap encN) ∧ Below W'.heap.size W' w') := by
    intro W h
    have h1 : Below w.heap.size w W := hbA.trans (h.mono hbA.size)
    have hV2 := hV1.new h
    refine ⟨h1, fun W' h' => ⟨(hV2.new h').cell 0, (hV2.new h').cell 1⟩, fun W' h' => ?_⟩
    refine (freshEn a c l W' hl (hr.below (h1.trans (h'.mono h1.size)) (Nat.le_refl _))).mono ?_
    rintro e w' ⟨v, rfl, g1, g2⟩
    exact ⟨v, rfl, ownsRow_base g1 h'.size, g2⟩
  have hq := enAt_le l s
  have HI : Hid (∀ W v vb, ∀ base ≤ W.heap.size, W.ownsRow base 41 2 v l.length (l.flatMap encN) → Var W vb #[.string s, .int .i64 n] 41 → ¬ blk v vb → Calls Try.prog 46 #[v, .int .i64 (enAt l s : Nat), .slice (some ⟨vb, 0, none⟩) 1 1] W fun e w' => ∃ v', e = .returned v' ∧ w'.ownsRow base 41 2 v' (l.length + 1) ((enAdded l s n).flatMap encN) ∧ Only (blk v) W w') := fun W v vb base hbs h1 h2 h3 => by
    rw [enAdded_ins]
    exact insEn base vb (enAt l s) v l s n W hll hq hbs h1 h2 h3
  have hm := Try.methFresh s n
  have HIX : Hid ((enAt l s < l.length ∧ idxF l (fun e => ltB s e.1) = ((enAt l s : Nat) : Int)) ∨ (enAt l s = l.length ∧ idxF l (fun e => ltB s e.1) = -1)) := by
    unfold idxF enAt
    show _ ∨ _
    by_cases h : l.findIdx (fun e => ltB s e.1) < l.length
    · left; exact ⟨h, by rw [if_pos h]⟩
    · right
      have := List.findIdx_le_length (p := fun e : EntD => ltB s e.1) (xs := l)
      exact ⟨by omega, by rw [if_neg h]⟩
  clear hr hl hV1 hbA hlt1 HC
  generalize (enAdded l s n).flatMap encN = XA at *
  generalize enAt l s = q at *
  generalize idxF l (fun e => ltB s e.1) = ix at *
  go_enter Try.func37, Try.ntmps37
  go_wp2_with fail
  refine HX.out.mono ?_
  rintro e w2 ⟨rfl, hb2⟩
  have h3 := HAF.out w2 hb2
  have HB0 : Hid (Below w.heap.size w w2) := h3.1
  have HSB : Hid (∀ W', Below w2.heap.size w2 W' → W'.cell? ⟨w.heap.size, 0, none⟩ = some (.string s) ∧ W'.cell? ⟨w.heap.size, 1, none⟩ = some (.int .i64 n)) := h3.2.1
  have HF : Hid (∀ W', Below w2.heap.size w2 W' → Calls Try.prog 38 #[.slice a l.length c] W' fun e w' => ∃ v, e = .returned v ∧ w'.ownsRow w2.heap.size 41 2 v l.length (l.flatMap encN) ∧ Below W'.heap.size W' w') := h3.2.2
  have hb0 : Below w2.heap.size w2 w2.drew := (Below.refl _ _).drew
  clear h3 hb2 HX HAF
  rcases HIX.out with ⟨hlt, hix⟩ | ⟨heq, hix⟩
  · subst hix
    clear HIX
    go_upto_region 4 with fail
    refine wp_region_noPanic ?_
    refine wp_region_held_drew (S := (fun W => W.cell? ⟨w.heap.size, 0, none⟩ = some (.string s) ∧ W.cell? ⟨w.heap.size, 1, none⟩ = some (.int .i64 n))) (by kernel_rfl) (HSB.out _ hb0) (fun hT => ?_)
    clear hT
    refine held_take (i := 0) (v := .slice a l.length c) rfl rfl (by kernel_rfl) (by kernel_rfl) (by kernel_rfl) (by kernel_rfl) (fun W hS => by go_simp) (HSB.out _ hb0) ?_
    simp only [Act.put, List.setIfInBounds_toArray, List.set_cons_zero, List.set_cons_succ]
    refine held_take (i := 2) (v := .int .i64 (q : Nat)) rfl rfl (by kernel_rfl) (by kernel_rfl) (by kernel_rfl) (by kernel_rfl) (fun W hS => by go_simp) (HSB.out _ hb0) ?_
    simp only [Act.put, List.setIfInBounds_toArray, List.set_cons_zero, List.set_cons_succ]
    refine held_take (i := 3) (v := (.agg #[.string s, .int .i64 n])) rfl rfl (by kernel_rfl) (by kernel_rfl) (by kernel_rfl) (by kernel_rfl) (fun W hS => by obtain ⟨hs0, hs1⟩ := hS; go_simp) (HSB.out _ hb0) ?_
    simp only [Act.put, List.setIfInBounds_toArray, List.set_cons_zero, List.set_cons_succ]
    refine held_take (i := 4) (v := .iface 41 (.agg #[.string s, .int .i64 n])) rfl rfl (by kernel_rfl) (by kernel_rfl) (by kernel_rfl) (by kernel_rfl) (fun W hS => by go_simp) (HSB.out _ hb0) ?_
    simp only [Act.put, List.setIfInBounds_toArray, List.set_cons_zero, List.set_cons_succ]
    refine wpAnyH_ready (rs := [1]) (by kernel_rfl) (by simp) (AllReadyH.cons rfl (fun K hK => ?_) AllReadyH.nil)
    go_simp
    refine (HF.out _ hb0).mono ?_
    rintro e w3 ⟨v1, rfl, ho1, hx3⟩
    have hb3 := hb0.trans (hx3.mono hb0.size)
    refine hK.out _ _ (HSB.out _ hb3) (fun hT => ?_)
    clear hK K hT
    try simp only [Act.put, List.setIfInBounds_toArray, List.set_cons_zero, List.set_cons_succ]
    refine wpAnyH_ready (rs := [5]) (by kernel_rfl) (by simp) (AllReadyH.cons rfl (fun K hK => ?_) AllReadyH.nil)
    go_simp
    refine (entFreshW s n _ (by omega)).mono ?_
    rintro e w4 ⟨rfl, hx4⟩
    have hb4 := hb3.trans (hx4.mono hb3.size)
    refine hK.out _ _ (HSB.out _ hb4) (fun hT => ?_)
    clear hK K hT
    try simp only [Act.put, List.setIfInBounds_toArray, List.set_cons_zero, List.set_cons_succ]
    refine wpAnyH_ready (rs := [6]) (by kernel_rfl) (by simp) (AllReadyH.cons rfl (fun K hK => ?_) AllReadyH.nil)
    go_simp
    have hb5 : Below w2.heap.size w2 (w4.alloc (.cells #[.string s, .int .i64 n] 41)) := hb4.alloc hb4.size _
    refine hK.out _ _ (HSB.out _ hb5) (fun hT => ?_)
    clear hK K hT
    try simp only [Act.put, List.setIfInBounds_toArray, List.set_cons_zero, List.set_cons_succ]
    refine wpAnyH_ready (rs := [7]) (by kernel_rfl) (by simp) (AllReadyH.cons rfl (fun K hK => ?_) AllReadyH.nil)
    have HO1 : Hid ((w4.alloc (.cells #[.string s, .int .i64 n] 41)).ownsRow w2.heap.size 41 2 v1 l.length (l.flatMap encN)) := ownsRow_below (ownsRow_below ho1 hx4 (Nat.le_refl _)) (below1 w4 _) (Nat.le_refl _)
    have HX : Hid (Var (w4.alloc (.cells #[.string s, .int .i64 n] 41)) w4.heap.size #[.string s, .int .i64 n] 41) := Var.made w4 _ _
    have HNE : Hid (¬ blk v1 w4.heap.size) := fun h => by have := (ho1.lt _ h).2; have := hx4.size; omega
    go_simp
    refine (HI.out _ v1 w4.heap.size w2.heap.size hb5.size HO1.out HX.out HNE.out).mono ?_
    rintro e w9 ⟨v9, rfl, ho9, hon⟩
    have hb9 := hb5.trans (hon.below hb5.size (fun k hk => (HO1.out.lt k hk).1))
    refine hK.out _ _ (HSB.out _ hb9) (fun hT => ?_)
    clear hK K hT
    try simp only [Act.put, List.setIfInBounds_toArray, List.set_cons_zero, List.set_cons_succ]
    refine held_take (i := 8) (v := v9) rfl rfl (by kernel_rfl) (by kernel_rfl) (by kernel_rfl) (by kernel_rfl) (fun W hS => by go_simp) (HSB.out _ hb9) ?_
    simp only [Act.put, List.setIfInBounds_toArray, List.set_cons_zero, List.set_cons_succ]
    refine wpAnyH_done (by kernel_rfl) ?_ _
    simp only [NoPanic]
    have hB := HB0.out.trans (hb9.mono HB0.out.size)
    clear hb9 hon HO1 HX HNE
    go_wp2
    go_ret
    exact ⟨_, rfl, ownsRow_base ho9 HB0.out.size, hB⟩
  · subst hix
    subst heq
    clear HIX
    go_upto_region 4 with fail
    refine wp_region_noPanic ?_
    refine wp_region_held_drew (S := (fun W => W.cell? ⟨w.heap.size, 0, none⟩ = some (.string s) ∧ W.cell? ⟨w.heap.size, 1, none⟩ = some (.int .i64 n))) (by kernel_rfl) (HSB.out _ hb0) (fun hT => ?_)
    clear hT
    refine held_take (i := 0) (v := .slice a l.length c) rfl rfl (by kernel_rfl) (by kernel_rfl) (by kernel_rfl) (by kernel_rfl) (fun W hS => by go_simp) (HSB.out _ hb0) ?_
    simp only [Act.put, List.setIfInBounds_toArray, List.set_cons_zero, List.set_cons_succ]
    refine held_take (i := 2) (v := .int .i64 (l.length : Nat)) rfl rfl (by kernel_rfl) (by kernel_rfl) (by kernel_rfl) (by kernel_rfl) (fun W hS => by go_simp) (HSB.out _ hb0) ?_
    simp only [Act.put, List.setIfInBounds_toArray, List.set_cons_zero, List.set_cons_succ]
    refine held_take (i := 3) (v := (.agg #[.string s, .int .i64 n])) rfl rfl (by kernel_rfl) (by kernel_rfl) (by kernel_rfl) (by kernel_rfl) (fun W hS => by obtain ⟨hs0, hs1⟩ := hS; go_simp) (HSB.out _ hb0) ?_
    simp only [Act.put, List.setIfInBounds_toArray, List.set_cons_zero, List.set_cons_succ]
    refine held_take (i := 4) (v := .iface 41 (.agg #[.string s, .int .i64 n])) rfl rfl (by kernel_rfl) (by kernel_rfl) (by kernel_rfl) (by kernel_rfl) (fun W hS => by go_simp) (HSB.out _ hb0) ?_
    simp only [Act.put, List.setIfInBounds_toArray, List.set_cons_zero, List.set_cons_succ]
    refine wpAnyH_ready (rs := [1]) (by kernel_rfl) (by simp) (AllReadyH.cons rfl (fun K hK => ?_) AllReadyH.nil)
    go_simp
    refine (HF.out _ hb0).mono ?_
    rintro e w3 ⟨v1, rfl, ho1, hx3⟩
    have hb3 := hb0.trans (hx3.mono hb0.size)
    refine hK.out _ _ (HSB.out _ hb3) (fun hT => ?_)
    clear hK K hT
    try simp only [Act.put, List.setIfInBounds_toArray, List.set_cons_zero, List.set_cons_succ]
    refine wpAnyH_ready (rs := [5]) (by kernel_rfl) (by simp) (AllReadyH.cons rfl (fun K hK => ?_) AllReadyH.nil)
    go_simp
    refine (entFreshW s n _ (by omega)).mono ?_
    rintro e w4 ⟨rfl, hx4⟩
    have hb4 := hb3.trans (hx4.mono hb3.size)
    refine hK.out _ _ (HSB.out _ hb4) (fun hT => ?_)
    clear hK K hT
    try simp only [Act.put, List.setIfInBounds_toArray, List.set_cons_zero, List.set_cons_succ]
    refine wpAnyH_ready (rs := [6]) (by kernel_rfl) (by simp) (AllReadyH.cons rfl (fun K hK => ?_) AllReadyH.nil)
    go_simp
    have hb5 : Below w2.heap.size w2 (w4.alloc (.cells #[.string s, .int .i64 n] 41)) := hb4.alloc hb4.size _
    refine hK.out _ _ (HSB.out _ hb5) (fun hT => ?_)
    clear hK K hT
    try simp only [Act.put, List.setIfInBounds_toArray, List.set_cons_zero, List.set_cons_succ]
    refine wpAnyH_ready (rs := [7]) (by kernel_rfl) (by simp) (AllReadyH.cons rfl (fun K hK => ?_) AllReadyH.nil)
    have HO1 : Hid ((w4.alloc (.cells #[.string s, .int .i64 n] 41)).ownsRow w2.heap.size 41 2 v1 l.length (l.flatMap encN)) := ownsRow_below (ownsRow_below ho1 hx4 (Nat.le_refl _)) (below1 w4 _) (Nat.le_refl _)
    have HX : Hid (Var (w4.alloc (.cells #[.string s, .int .i64 n] 41)) w4.heap.size #[.string s, .int .i64 n] 41) := Var.made w4 _ _
    have HNE : Hid (¬ blk v1 w4.heap.size) := fun h => by have := (ho1.lt _ h).2; have := hx4.size; omega
    go_simp
    refine (HI.out _ v1 w4.heap.size w2.heap.size hb5.size HO1.out HX.out HNE.out).mono ?_
    rintro e w9 ⟨v9, rfl, ho9, hon⟩
    have hb9 := hb5.trans (hon.below hb5.size (fun k hk => (HO1.out.lt k hk).1))
    refine hK.out _ _ (HSB.out _ hb9) (fun hT => ?_)
    clear hK K hT
    try simp only [Act.put, List.setIfInBounds_toArray, List.set_cons_zero, List.set_cons_succ]
    refine held_take (i := 8) (v := v9) rfl rfl (by kernel_rfl) (by kernel_rfl) (by kernel_rfl) (by kernel_rfl) (fun W hS => by go_simp) (HSB.out _ hb9) ?_
    simp only [Act.put, List.setIfInBounds_toArray, List.set_cons_zero, List.set_cons_succ]
    refine wpAnyH_done (by kernel_rfl) ?_ _
    simp only [NoPanic]
    have hB := HB0.out.trans (hb9.mono HB0.out.size)
    clear hb9 hon HO1 HX HNE
    go_wp2
    go_ret
    exact ⟨_, rfl, ownsRow_base ho9 HB0.out.size, hB⟩

end Go.Proofs.Ytogpgocldgdeaaa
