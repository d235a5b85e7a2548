/-
  Own text: the other program's TreeOk (written by stokgen.py).
-/
import Derived.Test.YtmnngfaelanbcaaIRightW
import Derived.Test.YtmnngfaelanbcaaInW
import Derived.Deep.DeepCutAuto
import Derived.Laws.Cover1
namespace Go.Proofs.Ytmnngfaelanbcaa
open Go.RowKit

theorem itOk_iff (x : ItD) : itOk x = true ↔ (x.k = 2 → x.d = ⟨#[]⟩ ∧ x.t = 0) ∧ ptOk (bt x.p) = true ∧ (1 ≤ x.k ∧ x.k ≤ 3) ∧ x.d.size ≤ 80 ∧ 0 ≤ x.t ∧ x.t ≤ 100000 := by
  unfold itOk
  by_cases h1 : x.k = 2 <;> by_cases h2 : x.d = ⟨#[]⟩ <;> by_cases h3 : x.t = 0 <;> simp [h1, h2, h3]

set_option maxRecDepth 20000 in
set_option maxHeartbeats 8000000 in
theorem specTreeOk (v : Value) (l : List ItD) (w : World) (hl : szIt l ≤ 1048576) (hr : RdTr w v l) :
    Calls Try.prog 8 #[v] w fun e w' => e = .returned (.bool (treeB l)) ∧ Below w.heap.size w w' := by
  have hr0 := hr
  obtain ⟨a, ca, rfl, hcc, hr⟩ := hr
  have hll := Nat.le_trans (szIt_len l) hl
  have HCS : Hid (∀ k (hk : k < l.length), ∃ b off, a = some ⟨b, off, none⟩ ∧ b < w.heap.size ∧ ItAt w b (off + k * 4) l[k]) := fun k hk => RdIt.at hr k hk
  have HRT : Hid (∀ W, Below w.heap.size w W → RdTr W (.agg #[.slice a l.length ca]) l) := fun W h => hr0.below h (Nat.le_refl _)
  have HZ : Hid (szIt l ≤ 1048576) := hl
  clear hr hl hr0
  by_cases h40 : l.length ≤ 40
  · have hi40 : ¬ (40 : Int) < (l.length : Int) := by omega
    have hV0 : (w.alloc (.cells #[.slice a l.length ca] 29)).cell? ⟨w.heap.size, 0, none⟩ = some (.slice a l.length ca) := (Var.made w #[.slice a l.length ca] 29).cell 0
    go_enter Try.func8, Try.ntmps8
    go_wp2
    go_loopw [3] (fun i wr => ∃ k : Nat, k ≤ l.length ∧ i = .int .i64 k ∧ Below w.heap.size w wr ∧ w.heap.size + 1 ≤ wr.heap.size ∧ wr.cell? ⟨w.heap.size, 0, none⟩ = some (.slice a l.length ca) ∧ Hid (∀ j (hj : j < l.length), j < k → itOk l[j] = true ∧ l[j].p ≠ rootS ∧ (∀ (h0 : 0 < j), lessS (l[j - 1]'(by omega)).p l[j].p = true) ∧ upB (itF l) l[j].p = true)) (fun i _ => l.length - (intOf i).toNat)
    case atStart => exact ⟨0, Nat.zero_le _, rfl, below1 _ _, by simp, hV0, fun j _ h => by omega⟩
    case round =>
      obtain ⟨k, hk, rfl, hb, hbz, hv0, HP⟩ := hrel
      clear hV0
      by_cases hlt : k < l.length
      · obtain ⟨b, off, rfl, hblt, hcell⟩ := HCS.out k hlt
        have HNB : Hid ((itOk l[k] = true ∧ l[k].p ≠ rootS ∧ (∀ (h0 : 0 < k), lessS (l[k - 1]'(by omega)).p l[k].p = true) ∧ upB (itF l) l[k].p = true → False) → treeB l = false) := fun h => treeB_no fun hp => h (hp.2 k hlt)
        have HGO : Hid (itOk l[k] = true → l[k].p ≠ rootS → (∀ (h0 : 0 < k), lessS (l[k - 1]'(by omega)).p l[k].p = true) → upB (itF l) l[k].p = true → ∀ j (hj : j < l.length), j < k + 1 → itOk l[j] = true ∧ l[j].p ≠ rootS ∧ (∀ (h0 : 0 < j), lessS (l[j - 1]'(by omega)).p l[j].p = true) ∧ upB (itF l) l[j].p = true) := fun h1 h2 h3 h4 j hj hjk => by
          by_cases e : j = k
          · subst e; exact ⟨h1, h2, h3, h4⟩
          · exact HP.out j hj (by omega)
        have hys : l[k].p.size ≤ 1048576 ∧ l[k].d.size ≤ 1048576 := by have := szIt_mem (List.getElem_mem hlt); have := HZ.out; exact ⟨by omega, by omega⟩
        obtain ⟨c0, c1, c2, c3⟩ := hcell.below hb hblt
        have hbwr : b < wr.heap.size := by omega
        have HTG : Hid (∀ up W, Below w.heap.size w W → up.size ≤ 1048576 → Calls Try.prog 12 #[.agg #[.slice (some ⟨b, off, none⟩) l.length ca], .string up] W fun e w' => e = .returned (.tuple #[.agg #[.string (itAt l up).p, .int .i64 (itAt l up).k, .string (itAt l up).d, .int .i64 (itAt l up).t], .bool (itIs l up)]) ∧ Below W.heap.size W w') := fun up W h _ => specTreeGet _ l up W HZ.out (HRT.out W h)
        clear HP hcell
        have HBW : Hid (Below w.heap.size w (wr.alloc (.cells #[.string l[k].p, .int .i64 l[k].k, .string l[k].d, .int .i64 l[k].t] 34))) := hb.alloc hb.size _
        have HVX : Hid (∀ W, Below (wr.alloc (.cells #[.string l[k].p, .int .i64 l[k].k, .string l[k].d, .int .i64 l[k].t] 34)).heap.size (wr.alloc (.cells #[.string l[k].p, .int .i64 l[k].k, .string l[k].d, .int .i64 l[k].t] 34)) W → W.cell? ⟨wr.heap.size, 0, none⟩ = some (.string l[k].p) ∧ W.cell? ⟨wr.heap.size, 1, none⟩ = some (.int .i64 l[k].k) ∧ W.cell? ⟨wr.heap.size, 2, none⟩ = some (.string l[k].d) ∧ W.cell? ⟨wr.heap.size, 3, none⟩ = some (.int .i64 l[k].t) ∧ W.cell? ⟨w.heap.size, 0, none⟩ = some (.slice (some ⟨b, off, none⟩) l.length ca)) := fun W h => by
          have hV := (Var.made wr #[.string l[k].p, .int .i64 l[k].k, .string l[k].d, .int .i64 l[k].t] 34).new h
          have hB := (below1 wr (.cells #[.string l[k].p, .int .i64 l[k].k, .string l[k].d, .int .i64 l[k].t] 34)).trans (h.mono (by simp))
          exact ⟨hV.cell 0, hV.cell 1, hV.cell 2, hV.cell 3, (hB.cell (p := ⟨w.heap.size, 0, none⟩) (by show w.heap.size < wr.heap.size; omega)).trans hv0⟩
        have HPQ : Hid (∀ W, Calls Try.prog 24 #[.string l[k].p] W fun e w' => e = .returned (.bool (ptOk (bt l[k].p))) ∧ Below W.heap.size W w') := fun W => specPath _ W (by omega)
        have HPV : Hid (∀ (h0 : 0 < k) W, Below (wr.alloc (.cells #[.string l[k].p, .int .i64 l[k].k, .string l[k].d, .int .i64 l[k].t] 34)).heap.size (wr.alloc (.cells #[.string l[k].p, .int .i64 l[k].k, .string l[k].d, .int .i64 l[k].t] 34)) W → W.cell? ⟨b, off + (k - 1) * 4, none⟩ = some (.string (l[k - 1]'(by omega)).p)) := fun h0 W h => by
          obtain ⟨b', off', hbo, hb', hcellp⟩ := HCS.out (k - 1) (by omega)
          injection hbo with hbo
          injection hbo with e1 e2 _
          subst e1 e2
          exact (((hcellp.below hb hb').below (below1 wr (.cells #[.string l[k].p, .int .i64 l[k].k, .string l[k].d, .int .i64 l[k].t] 34)) hbwr).below h (by simp; omega)).1
        have HAB : Hid (∀ W, Calls Try.prog 26 #[.string l[k].p] W fun e w' => e = .returned (.string (tx (abv (bt l[k].p)))) ∧ Below W.heap.size W w') := fun W => specAbove _ W (by omega)
        have HUP : Hid (upB (itF l) l[k].p = decide ((itAt l (tx (abv (bt l[k].p)))).k = 2) ∧ (itIs l (tx (abv (bt l[k].p))) = false → (itAt l (tx (abv (bt l[k].p)))).k = 0) ∧ (tx (abv (bt l[k].p))).size ≤ 1048576) := by
          refine ⟨rfl, fun h => ?_, Nat.le_trans (abv_size _) (by decide)⟩
          unfold itIs at h
          unfold itAt
          cases hF : itF l (tx (abv (bt l[k].p))) with
          | none => rfl
          | some z => rw [hF] at h; cases h
        generalize hyy : l[k] = y at *
        obtain ⟨yp, yk, yd, yt⟩ := y
        simp only at c0 c1 c2 c3 hys HBW HVX HPQ HPV HNB HGO HAB HUP
        cases h1 : ptOk (bt yp) with
        | false =>
          have HPT : Hid (∀ W, Calls Try.prog 24 #[.string yp] W fun e w' => e = .returned (.bool false) ∧ Below W.heap.size W w') := fun W => by rw [← h1]; exact HPQ.out W
          have HSF := HVX
          have HSS : Hid _ := HSF.out _ (Below.refl _ _)
          go_upto_region 7 with fail
          have HNE : Hid (treeB l = false) := HNB.out fun h => (by rw [((itOk_iff _).1 h.1).2.1] at h1; cases h1)
          clear HNB HGO
          refine wp_region_noPanic ?_
          refine wp_region_held_drew (S := (fun W => W.cell? ⟨wr.heap.size, 0, none⟩ = some (.string yp) ∧ W.cell? ⟨wr.heap.size, 1, none⟩ = some (.int .i64 yk) ∧ W.cell? ⟨wr.heap.size, 2, none⟩ = some (.string yd) ∧ W.cell? ⟨wr.heap.size, 3, none⟩ = some (.int .i64 yt) ∧ W.cell? ⟨w.heap.size, 0, none⟩ = some (.slice (some ⟨b, off, none⟩) l.length ca))) (by kernel_rfl) HSS.out (fun hT => ?_)
          clear hT
          refine held_take (i := 0) (v := .pointer (some ⟨wr.heap.size, 0, none⟩)) rfl rfl (by kernel_rfl) (by kernel_rfl) (by kernel_rfl) (by kernel_rfl) (fun W hS => by go_simp) HSS.out ?_
          simp only [Act.put, List.setIfInBounds_toArray, List.set_cons_zero, List.set_cons_succ]
          refine held_take (i := 1) (v := .string yp) rfl rfl (by kernel_rfl) (by kernel_rfl) (by kernel_rfl) (by kernel_rfl) (fun W hS => by obtain ⟨s0, s1, s2, s3, s4⟩ := hS; go_simp) HSS.out ?_
          simp only [Act.put, List.setIfInBounds_toArray, List.set_cons_zero, List.set_cons_succ]
          refine wpAnyH_ready (rs := [2]) (by kernel_rfl) (by simp) (AllReadyH.cons rfl (fun K hK => ?_) AllReadyH.nil)
          go_simp
          refine (HPT.out _).mono ?_
          rintro e w2 ⟨rfl, hb2⟩
          have hB2 := (Below.refl _ (wr.alloc (.cells #[.string yp, .int .i64 yk, .string yd, .int .i64 yt] 34))).drew.trans hb2
          clear HSS hb2
          have HSS : Hid _ := HSF.out w2 hB2
          refine hK.out _ _ HSS.out (fun hT => ?_)
          clear hK K hT
          try simp only [Act.put, List.setIfInBounds_toArray, List.set_cons_zero, List.set_cons_succ]
          refine held_take (i := 3) (v := .bool true) rfl rfl (by kernel_rfl) (by kernel_rfl) (by kernel_rfl) (by kernel_rfl) (fun W hS => by go_simp) HSS.out ?_
          simp only [Act.put, List.setIfInBounds_toArray, List.set_cons_zero, List.set_cons_succ]
          refine held_take (i := 4) (v := .bool true) rfl rfl (by kernel_rfl) (by kernel_rfl) (by kernel_rfl) (by kernel_rfl) (fun W hS => by go_simp) HSS.out ?_
          simp only [Act.put, List.setIfInBounds_toArray, List.set_cons_zero, List.set_cons_succ]
          refine held_skip (i := 5) rfl rfl (by kernel_rfl) (by kernel_rfl) (by kernel_rfl) (by kernel_rfl) HSS.out ?_
          simp only [Act.put, List.setIfInBounds_toArray, List.set_cons_zero, List.set_cons_succ]
          refine held_skip (i := 6) rfl rfl (by kernel_rfl) (by kernel_rfl) (by kernel_rfl) (by kernel_rfl) HSS.out ?_
          simp only [Act.put, List.setIfInBounds_toArray, List.set_cons_zero, List.set_cons_succ]
          refine held_skip (i := 7) rfl rfl (by kernel_rfl) (by kernel_rfl) (by kernel_rfl) (by kernel_rfl) HSS.out ?_
          simp only [Act.put, List.setIfInBounds_toArray, List.set_cons_zero, List.set_cons_succ]
          refine held_take (i := 8) (v := .bool true) rfl rfl (by kernel_rfl) (by kernel_rfl) (by kernel_rfl) (by kernel_rfl) (fun W hS => by go_simp) HSS.out ?_
          simp only [Act.put, List.setIfInBounds_toArray, List.set_cons_zero, List.set_cons_succ]
          refine held_take (i := 9) (v := .bool true) rfl rfl (by kernel_rfl) (by kernel_rfl) (by kernel_rfl) (by kernel_rfl) (fun W hS => by go_simp) HSS.out ?_
          simp only [Act.put, List.setIfInBounds_toArray, List.set_cons_zero, List.set_cons_succ]
          refine held_skip (i := 10) rfl rfl (by kernel_rfl) (by kernel_rfl) (by kernel_rfl) (by kernel_rfl) HSS.out ?_
          simp only [Act.put, List.setIfInBounds_toArray, List.set_cons_zero, List.set_cons_succ]
          refine held_skip (i := 11) rfl rfl (by kernel_rfl) (by kernel_rfl) (by kernel_rfl) (by kernel_rfl) HSS.out ?_
          simp only [Act.put, List.setIfInBounds_toArray, List.set_cons_zero, List.set_cons_succ]
          refine held_skip (i := 12) rfl rfl (by kernel_rfl) (by kernel_rfl) (by kernel_rfl) (by kernel_rfl) HSS.out ?_
          simp only [Act.put, List.setIfInBounds_toArray, List.set_cons_zero, List.set_cons_succ]
          refine held_skip (i := 13) rfl rfl (by kernel_rfl) (by kernel_rfl) (by kernel_rfl) (by kernel_rfl) HSS.out ?_
          simp only [Act.put, List.setIfInBounds_toArray, List.set_cons_zero, List.set_cons_succ]
          refine held_skip (i := 14) rfl rfl (by kernel_rfl) (by kernel_rfl) (by kernel_rfl) (by kernel_rfl) HSS.out ?_
          simp only [Act.put, List.setIfInBounds_toArray, List.set_cons_zero, List.set_cons_succ]
          refine held_skip (i := 15) rfl rfl (by kernel_rfl) (by kernel_rfl) (by kernel_rfl) (by kernel_rfl) HSS.out ?_
          simp only [Act.put, List.setIfInBounds_toArray, List.set_cons_zero, List.set_cons_succ]
          refine held_skip (i := 16) rfl rfl (by kernel_rfl) (by kernel_rfl) (by kernel_rfl) (by kernel_rfl) HSS.out ?_
          simp only [Act.put, List.setIfInBounds_toArray, List.set_cons_zero, List.set_cons_succ]
          refine held_skip (i := 17) rfl rfl (by kernel_rfl) (by kernel_rfl) (by kernel_rfl) (by kernel_rfl) HSS.out ?_
          simp only [Act.put, List.setIfInBounds_toArray, List.set_cons_zero, List.set_cons_succ]
          refine held_skip (i := 18) rfl rfl (by kernel_rfl) (by kernel_rfl) (by kernel_rfl) (by kernel_rfl) HSS.out ?_
          simp only [Act.put, List.setIfInBounds_toArray, List.set_cons_zero, List.set_cons_succ]
          refine held_skip (i := 19) rfl rfl (by kernel_rfl) (by kernel_rfl) (by kernel_rfl) (by kernel_rfl) HSS.out ?_
          simp only [Act.put, List.setIfInBounds_toArray, List.set_cons_zero, List.set_cons_succ]
          refine held_skip (i := 20) rfl rfl (by kernel_rfl) (by kernel_rfl) (by kernel_rfl) (by kernel_rfl) HSS.out ?_
          simp only [Act.put, List.setIfInBounds_toArray, List.set_cons_zero, List.set_cons_succ]
          refine held_skip (i := 21) rfl rfl (by kernel_rfl) (by kernel_rfl) (by kernel_rfl) (by kernel_rfl) HSS.out ?_
          simp only [Act.put, List.setIfInBounds_toArray, List.set_cons_zero, List.set_cons_succ]
          refine held_skip (i := 22) rfl rfl (by kernel_rfl) (by kernel_rfl) (by kernel_rfl) (by kernel_rfl) HSS.out ?_
          simp only [Act.put, List.setIfInBounds_toArray, List.set_cons_zero, List.set_cons_succ]
          refine held_skip (i := 23) rfl rfl (by kernel_rfl) (by kernel_rfl) (by kernel_rfl) (by kernel_rfl) HSS.out ?_
          simp only [Act.put, List.setIfInBounds_toArray, List.set_cons_zero, List.set_cons_succ]
          refine held_take (i := 24) (v := .bool true) rfl rfl (by kernel_rfl) (by kernel_rfl) (by kernel_rfl) (by kernel_rfl) (fun W hS => by go_simp) HSS.out ?_
          simp only [Act.put, List.setIfInBounds_toArray, List.set_cons_zero, List.set_cons_succ]
          refine held_take (i := 25) (v := .bool true) rfl rfl (by kernel_rfl) (by kernel_rfl) (by kernel_rfl) (by kernel_rfl) (fun W hS => by go_simp) HSS.out ?_
          simp only [Act.put, List.setIfInBounds_toArray, List.set_cons_zero, List.set_cons_succ]
          refine held_skip (i := 26) rfl rfl (by kernel_rfl) (by kernel_rfl) (by kernel_rfl) (by kernel_rfl) HSS.out ?_
          simp only [Act.put, List.setIfInBounds_toArray, List.set_cons_zero, List.set_cons_succ]
          refine held_skip (i := 27) rfl rfl (by kernel_rfl) (by kernel_rfl) (by kernel_rfl) (by kernel_rfl) HSS.out ?_
          simp only [Act.put, List.setIfInBounds_toArray, List.set_cons_zero, List.set_cons_succ]
          refine held_skip (i := 28) rfl rfl (by kernel_rfl) (by kernel_rfl) (by kernel_rfl) (by kernel_rfl) HSS.out ?_
          simp only [Act.put, List.setIfInBounds_toArray, List.set_cons_zero, List.set_cons_succ]
          refine held_skip (i := 29) rfl rfl (by kernel_rfl) (by kernel_rfl) (by kernel_rfl) (by kernel_rfl) HSS.out ?_
          simp only [Act.put, List.setIfInBounds_toArray, List.set_cons_zero, List.set_cons_succ]
          refine held_take (i := 30) (v := .bool true) rfl rfl (by kernel_rfl) (by kernel_rfl) (by kernel_rfl) (by kernel_rfl) (fun W hS => by go_simp) HSS.out ?_
          simp only [Act.put, List.setIfInBounds_toArray, List.set_cons_zero, List.set_cons_succ]
          refine held_take (i := 31) (v := .bool true) rfl rfl (by kernel_rfl) (by kernel_rfl) (by kernel_rfl) (by kernel_rfl) (fun W hS => by go_simp) HSS.out ?_
          simp only [Act.put, List.setIfInBounds_toArray, List.set_cons_zero, List.set_cons_succ]
          refine held_skip (i := 32) rfl rfl (by kernel_rfl) (by kernel_rfl) (by kernel_rfl) (by kernel_rfl) HSS.out ?_
          simp only [Act.put, List.setIfInBounds_toArray, List.set_cons_zero, List.set_cons_succ]
          refine held_skip (i := 33) rfl rfl (by kernel_rfl) (by kernel_rfl) (by kernel_rfl) (by kernel_rfl) HSS.out ?_
          simp only [Act.put, List.setIfInBounds_toArray, List.set_cons_zero, List.set_cons_succ]
          refine held_skip (i := 34) rfl rfl (by kernel_rfl) (by kernel_rfl) (by kernel_rfl) (by kernel_rfl) HSS.out ?_
          simp only [Act.put, List.setIfInBounds_toArray, List.set_cons_zero, List.set_cons_succ]
          refine held_skip (i := 35) rfl rfl (by kernel_rfl) (by kernel_rfl) (by kernel_rfl) (by kernel_rfl) HSS.out ?_
          simp only [Act.put, List.setIfInBounds_toArray, List.set_cons_zero, List.set_cons_succ]
          refine held_take (i := 36) (v := .bool true) rfl rfl (by kernel_rfl) (by kernel_rfl) (by kernel_rfl) (by kernel_rfl) (fun W hS => by go_simp) HSS.out ?_
          simp only [Act.put, List.setIfInBounds_toArray, List.set_cons_zero, List.set_cons_succ]
          refine held_take (i := 37) (v := .bool true) rfl rfl (by kernel_rfl) (by kernel_rfl) (by kernel_rfl) (by kernel_rfl) (fun W hS => by go_simp) HSS.out ?_
          simp only [Act.put, List.setIfInBounds_toArray, List.set_cons_zero, List.set_cons_succ]
          refine held_skip (i := 38) rfl rfl (by kernel_rfl) (by kernel_rfl) (by kernel_rfl) (by kernel_rfl) HSS.out ?_
          simp only [Act.put, List.setIfInBounds_toArray, List.set_cons_zero, List.set_cons_succ]
          refine held_skip (i := 39) rfl rfl (by kernel_rfl) (by kernel_rfl) (by kernel_rfl) (by kernel_rfl) HSS.out ?_
          simp only [Act.put, List.setIfInBounds_toArray, List.set_cons_zero, List.set_cons_succ]
          refine held_skip (i := 40) rfl rfl (by kernel_rfl) (by kernel_rfl) (by kernel_rfl) (by kernel_rfl) HSS.out ?_
          simp only [Act.put, List.setIfInBounds_toArray, List.set_cons_zero, List.set_cons_succ]
          refine held_skip (i := 41) rfl rfl (by kernel_rfl) (by kernel_rfl) (by kernel_rfl) (by kernel_rfl) HSS.out ?_
          simp only [Act.put, List.setIfInBounds_toArray, List.set_cons_zero, List.set_cons_succ]
          refine held_take (i := 42) (v := .bool true) rfl rfl (by kernel_rfl) (by kernel_rfl) (by kernel_rfl) (by kernel_rfl) (fun W hS => by go_simp) HSS.out ?_
          simp only [Act.put, List.setIfInBounds_toArray, List.set_cons_zero, List.set_cons_succ]
          refine wpAnyH_done (by kernel_rfl) ?_ _
          simp only [NoPanic]
          have hB3 := HBW.out.trans (hB2.mono HBW.out.size)
          go_wp2
          go_ret
          exact ⟨by rw [HNE.out]; rfl, hB3⟩
        | true =>
          have HPT : Hid (∀ W, Calls Try.prog 24 #[.string yp] W fun e w' => e = .returned (.bool true) ∧ Below W.heap.size W w') := fun W => by rw [← h1]; exact HPQ.out W
          by_cases h2 : yp = rootS
          · have h2q : (yp.toList == [47]) = true := by rw [h2, ByteArray.toList_eq]; rfl
            have HSF := HVX
            have HSS : Hid _ := HSF.out _ (Below.refl _ _)
            have H2 : Hid (yp = rootS) := h2
            clear h2
            go_upto_region 7 with fail
            have HNE : Hid (treeB l = false) := HNB.out fun h => h.2.1 H2.out
            clear HNB HGO
            refine wp_region_noPanic ?_
            refine wp_region_held_drew (S := (fun W => W.cell? ⟨wr.heap.size, 0, none⟩ = some (.string yp) ∧ W.cell? ⟨wr.heap.size, 1, none⟩ = some (.int .i64 yk) ∧ W.cell? ⟨wr.heap.size, 2, none⟩ = some (.string yd) ∧ W.cell? ⟨wr.heap.size, 3, none⟩ = some (.int .i64 yt) ∧ W.cell? ⟨w.heap.size, 0, none⟩ = some (.slice (some ⟨b, off, none⟩) l.length ca))) (by kernel_rfl) HSS.out (fun hT => ?_)
            clear hT
            refine held_take (i := 0) (v := .pointer (some ⟨wr.heap.size, 0, none⟩)) rfl rfl (by kernel_rfl) (by kernel_rfl) (by kernel_rfl) (by kernel_rfl) (fun W hS => by go_simp) HSS.out ?_
            simp only [Act.put, List.setIfInBounds_toArray, List.set_cons_zero, List.set_cons_succ]
            refine held_take (i := 1) (v := .string yp) rfl rfl (by kernel_rfl) (by kernel_rfl) (by kernel_rfl) (by kernel_rfl) (fun W hS => by obtain ⟨s0, s1, s2, s3, s4⟩ := hS; go_simp) HSS.out ?_
            simp only [Act.put, List.setIfInBounds_toArray, List.set_cons_zero, List.set_cons_succ]
            refine wpAnyH_ready (rs := [2]) (by kernel_rfl) (by simp) (AllReadyH.cons rfl (fun K hK => ?_) AllReadyH.nil)
            go_simp
            refine (HPT.out _).mono ?_
            rintro e w2 ⟨rfl, hb2⟩
            have hB2 := (Below.refl _ (wr.alloc (.cells #[.string yp, .int .i64 yk, .string yd, .int .i64 yt] 34))).drew.trans hb2
            clear HSS hb2
            have HSS : Hid _ := HSF.out w2 hB2
            refine hK.out _ _ HSS.out (fun hT => ?_)
            clear hK K hT
            try simp only [Act.put, List.setIfInBounds_toArray, List.set_cons_zero, List.set_cons_succ]
            refine held_take (i := 3) (v := .bool false) rfl rfl (by kernel_rfl) (by kernel_rfl) (by kernel_rfl) (by kernel_rfl) (fun W hS => by go_simp) HSS.out ?_
            simp only [Act.put, List.setIfInBounds_toArray, List.set_cons_zero, List.set_cons_succ]
            refine held_take (i := 4) (v := .bool false) rfl rfl (by kernel_rfl) (by kernel_rfl) (by kernel_rfl) (by kernel_rfl) (fun W hS => by go_simp) HSS.out ?_
            simp only [Act.put, List.setIfInBounds_toArray, List.set_cons_zero, List.set_cons_succ]
            refine held_take (i := 5) (v := .pointer (some ⟨wr.heap.size, 0, none⟩)) rfl rfl (by kernel_rfl) (by kernel_rfl) (by kernel_rfl) (by kernel_rfl) (fun W hS => by go_simp) HSS.out ?_
            simp only [Act.put, List.setIfInBounds_toArray, List.set_cons_zero, List.set_cons_succ]
            refine held_take (i := 6) (v := .string yp) rfl rfl (by kernel_rfl) (by kernel_rfl) (by kernel_rfl) (by kernel_rfl) (fun W hS => by obtain ⟨s0, s1, s2, s3, s4⟩ := hS; go_simp) HSS.out ?_
            simp only [Act.put, List.setIfInBounds_toArray, List.set_cons_zero, List.set_cons_succ]
            refine held_take (i := 7) (v := .bool true) rfl rfl (by kernel_rfl) (by kernel_rfl) (by kernel_rfl) (by kernel_rfl) (fun W hS => by go_simp) HSS.out ?_
            simp only [Act.put, List.setIfInBounds_toArray, List.set_cons_zero, List.set_cons_succ]
            refine held_take (i := 8) (v := .bool true) rfl rfl (by kernel_rfl) (by kernel_rfl) (by kernel_rfl) (by kernel_rfl) (fun W hS => by go_simp) HSS.out ?_
            simp only [Act.put, List.setIfInBounds_toArray, List.set_cons_zero, List.set_cons_succ]
            refine held_take (i := 9) (v := .bool true) rfl rfl (by kernel_rfl) (by kernel_rfl) (by kernel_rfl) (by kernel_rfl) (fun W hS => by go_simp) HSS.out ?_
            simp only [Act.put, List.setIfInBounds_toArray, List.set_cons_zero, List.set_cons_succ]
            refine held_skip (i := 10) rfl rfl (by kernel_rfl) (by kernel_rfl) (by kernel_rfl) (by kernel_rfl) HSS.out ?_
            simp only [Act.put, List.setIfInBounds_toArray, List.set_cons_zero, List.set_cons_succ]
            refine held_skip (i := 11) rfl rfl (by kernel_rfl) (by kernel_rfl) (by kernel_rfl) (by kernel_rfl) HSS.out ?_
            simp only [Act.put, List.setIfInBounds_toArray, List.set_cons_zero, List.set_cons_succ]
            refine held_skip (i := 12) rfl rfl (by kernel_rfl) (by kernel_rfl) (by kernel_rfl) (by kernel_rfl) HSS.out ?_
            simp only [Act.put, List.setIfInBounds_toArray, List.set_cons_zero, List.set_cons_succ]
            refine held_skip (i := 13) rfl rfl (by kernel_rfl) (by kernel_rfl) (by kernel_rfl) (by kernel_rfl) HSS.out ?_
            simp only [Act.put, List.setIfInBounds_toArray, List.set_cons_zero, List.set_cons_succ]
            refine held_skip (i := 14) rfl rfl (by kernel_rfl) (by kernel_rfl) (by kernel_rfl) (by kernel_rfl) HSS.out ?_
            simp only [Act.put, List.setIfInBounds_toArray, List.set_cons_zero, List.set_cons_succ]
            refine held_skip (i := 15) rfl rfl (by kernel_rfl) (by kernel_rfl) (by kernel_rfl) (by kernel_rfl) HSS.out ?_
            simp only [Act.put, List.setIfInBounds_toArray, List.set_cons_zero, List.set_cons_succ]
            refine held_skip (i := 16) rfl rfl (by kernel_rfl) (by kernel_rfl) (by kernel_rfl) (by kernel_rfl) HSS.out ?_
            simp only [Act.put, List.setIfInBounds_toArray, List.set_cons_zero, List.set_cons_succ]
            refine held_skip (i := 17) rfl rfl (by kernel_rfl) (by kernel_rfl) (by kernel_rfl) (by kernel_rfl) HSS.out ?_
            simp only [Act.put, List.setIfInBounds_toArray, List.set_cons_zero, List.set_cons_succ]
            refine held_skip (i := 18) rfl rfl (by kernel_rfl) (by kernel_rfl) (by kernel_rfl) (by kernel_rfl) HSS.out ?_
            simp only [Act.put, List.setIfInBounds_toArray, List.set_cons_zero, List.set_cons_succ]
            refine held_skip (i := 19) rfl rfl (by kernel_rfl) (by kernel_rfl) (by kernel_rfl) (by kernel_rfl) HSS.out ?_
            simp only [Act.put, List.setIfInBounds_toArray, List.set_cons_zero, List.set_cons_succ]
            refine held_skip (i := 20) rfl rfl (by kernel_rfl) (by kernel_rfl) (by kernel_rfl) (by kernel_rfl) HSS.out ?_
            simp only [Act.put, List.setIfInBounds_toArray, List.set_cons_zero, List.set_cons_succ]
            refine held_skip (i := 21) rfl rfl (by kernel_rfl) (by kernel_rfl) (by kernel_rfl) (by kernel_rfl) HSS.out ?_
            simp only [Act.put, List.setIfInBounds_toArray, List.set_cons_zero, List.set_cons_succ]
            refine held_skip (i := 22) rfl rfl (by kernel_rfl) (by kernel_rfl) (by kernel_rfl) (by kernel_rfl) HSS.out ?_
            simp only [Act.put, List.setIfInBounds_toArray, List.set_cons_zero, List.set_cons_succ]
            refine held_skip (i := 23) rfl rfl (by kernel_rfl) (by kernel_rfl) (by kernel_rfl) (by kernel_rfl) HSS.out ?_
            simp only [Act.put, List.setIfInBounds_toArray, List.set_cons_zero, List.set_cons_succ]
            refine held_take (i := 24) (v := .bool true) rfl rfl (by kernel_rfl) (by kernel_rfl) (by kernel_rfl) (by kernel_rfl) (fun W hS => by go_simp) HSS.out ?_
            simp only [Act.put, List.setIfInBounds_toArray, List.set_cons_zero, List.set_cons_succ]
            refine held_take (i := 25) (v := .bool true) rfl rfl (by kernel_rfl) (by kernel_rfl) (by kernel_rfl) (by kernel_rfl) (fun W hS => by go_simp) HSS.out ?_
            simp only [Act.put, List.setIfInBounds_toArray, List.set_cons_zero, List.set_cons_succ]
            refine held_skip (i := 26) rfl rfl (by kernel_rfl) (by kernel_rfl) (by kernel_rfl) (by kernel_rfl) HSS.out ?_
            simp only [Act.put, List.setIfInBounds_toArray, List.set_cons_zero, List.set_cons_succ]
            refine held_skip (i := 27) rfl rfl (by kernel_rfl) (by kernel_rfl) (by kernel_rfl) (by kernel_rfl) HSS.out ?_
            simp only [Act.put, List.setIfInBounds_toArray, List.set_cons_zero, List.set_cons_succ]
            refine held_skip (i := 28) rfl rfl (by kernel_rfl) (by kernel_rfl) (by kernel_rfl) (by kernel_rfl) HSS.out ?_
            simp only [Act.put, List.setIfInBounds_toArray, List.set_cons_zero, List.set_cons_succ]
            refine held_skip (i := 29) rfl rfl (by kernel_rfl) (by kernel_rfl) (by kernel_rfl) (by kernel_rfl) HSS.out ?_
            simp only [Act.put, List.setIfInBounds_toArray, List.set_cons_zero, List.set_cons_succ]
            refine held_take (i := 30) (v := .bool true) rfl rfl (by kernel_rfl) (by kernel_rfl) (by kernel_rfl) (by kernel_rfl) (fun W hS => by go_simp) HSS.out ?_
            simp only [Act.put, List.setIfInBounds_toArray, List.set_cons_zero, List.set_cons_succ]
            refine held_take (i := 31) (v := .bool true) rfl rfl (by kernel_rfl) (by kernel_rfl) (by kernel_rfl) (by kernel_rfl) (fun W hS => by go_simp) HSS.out ?_
            simp only [Act.put, List.setIfInBounds_toArray, List.set_cons_zero, List.set_cons_succ]
            refine held_skip (i := 32) rfl rfl (by kernel_rfl) (by kernel_rfl) (by kernel_rfl) (by kernel_rfl) HSS.out ?_
            simp only [Act.put, List.setIfInBounds_toArray, List.set_cons_zero, List.set_cons_succ]
            refine held_skip (i := 33) rfl rfl (by kernel_rfl) (by kernel_rfl) (by kernel_rfl) (by kernel_rfl) HSS.out ?_
            simp only [Act.put, List.setIfInBounds_toArray, List.set_cons_zero, List.set_cons_succ]
            refine held_skip (i := 34) rfl rfl (by kernel_rfl) (by kernel_rfl) (by kernel_rfl) (by kernel_rfl) HSS.out ?_
            simp only [Act.put, List.setIfInBounds_toArray, List.set_cons_zero, List.set_cons_succ]
            refine held_skip (i := 35) rfl rfl (by kernel_rfl) (by kernel_rfl) (by kernel_rfl) (by kernel_rfl) HSS.out ?_
            simp only [Act.put, List.setIfInBounds_toArray, List.set_cons_zero, List.set_cons_succ]
            refine held_take (i := 36) (v := .bool true) rfl rfl (by kernel_rfl) (by kernel_rfl) (by kernel_rfl) (by kernel_rfl) (fun W hS => by go_simp) HSS.out ?_
            simp only [Act.put, List.setIfInBounds_toArray, List.set_cons_zero, List.set_cons_succ]
            refine held_take (i := 37) (v := .bool true) rfl rfl (by kernel_rfl) (by kernel_rfl) (by kernel_rfl) (by kernel_rfl) (fun W hS => by go_simp) HSS.out ?_
            simp only [Act.put, List.setIfInBounds_toArray, List.set_cons_zero, List.set_cons_succ]
            refine held_skip (i := 38) rfl rfl (by kernel_rfl) (by kernel_rfl) (by kernel_rfl) (by kernel_rfl) HSS.out ?_
            simp only [Act.put, List.setIfInBounds_toArray, List.set_cons_zero, List.set_cons_succ]
            refine held_skip (i := 39) rfl rfl (by kernel_rfl) (by kernel_rfl) (by kernel_rfl) (by kernel_rfl) HSS.out ?_
            simp only [Act.put, List.setIfInBounds_toArray, List.set_cons_zero, List.set_cons_succ]
            refine held_skip (i := 40) rfl rfl (by kernel_rfl) (by kernel_rfl) (by kernel_rfl) (by kernel_rfl) HSS.out ?_
            simp only [Act.put, List.setIfInBounds_toArray, List.set_cons_zero, List.set_cons_succ]
            refine held_skip (i := 41) rfl rfl (by kernel_rfl) (by kernel_rfl) (by kernel_rfl) (by kernel_rfl) HSS.out ?_
            simp only [Act.put, List.setIfInBounds_toArray, List.set_cons_zero, List.set_cons_succ]
            refine held_take (i := 42) (v := .bool true) rfl rfl (by kernel_rfl) (by kernel_rfl) (by kernel_rfl) (by kernel_rfl) (fun W hS => by go_simp) HSS.out ?_
            simp only [Act.put, List.setIfInBounds_toArray, List.set_cons_zero, List.set_cons_succ]
            refine wpAnyH_done (by kernel_rfl) ?_ _
            simp only [NoPanic]
            have hB3 := HBW.out.trans (hB2.mono HBW.out.size)
            go_wp2
            go_ret
            exact ⟨by rw [HNE.out]; rfl, hB3⟩
          · have h2q : (yp.toList == [47]) = false := by
              rw [beq_eq_false_iff_ne, ByteArray.toList_eq]
              exact fun e => h2 (Go.WideShapes.bytes_inj (b := rootS) e)
            by_cases hk0 : 0 < k
            · have hkI : (0 : Int) < (k : Int) := by omega
              have hkT : ((k : Int) - 1).toNat = k - 1 := by omega
              have hkW : IntKind.i64.wrap ((k : Int) - 1) = (k : Int) - 1 := by rw [IntKind.wrap_i64]; omega
              have hkA : (0 : Int) ≤ (k : Int) - 1 := by omega
              have hkB : (k : Int) - 1 < (l.length : Int) := by omega
              have hkC : ¬ (k : Int) < 1 := by omega
              have hkl : k - 1 < l.length := by omega
              obtain ⟨pp, HPP⟩ : ∃ pp, Hid ((l[k - 1]'hkl).p = pp) := ⟨_, rfl⟩
              have HPV2 := HPV.out hk0
              rw [HPP.out] at HPV2
              have HSF : Hid (∀ W, Below (wr.alloc (.cells #[.string yp, .int .i64 yk, .string yd, .int .i64 yt] 34)).heap.size (wr.alloc (.cells #[.string yp, .int .i64 yk, .string yd, .int .i64 yt] 34)) W → W.cell? ⟨wr.heap.size, 0, none⟩ = some (.string yp) ∧ W.cell? ⟨wr.heap.size, 1, none⟩ = some (.int .i64 yk) ∧ W.cell? ⟨wr.heap.size, 2, none⟩ = some (.string yd) ∧ W.cell? ⟨wr.heap.size, 3, none⟩ = some (.int .i64 yt) ∧ W.cell? ⟨w.heap.size, 0, none⟩ = some (.slice (some ⟨b, off, none⟩) l.length ca) ∧ W.cell? ⟨b, off + (k - 1) * 4, none⟩ = some (.string pp)) := fun W h => ⟨(HVX.out W h).1, (HVX.out W h).2.1, (HVX.out W h).2.2.1, (HVX.out W h).2.2.2.1, (HVX.out W h).2.2.2.2, HPV2 W h⟩
              have HSS : Hid _ := HSF.out _ (Below.refl _ _)
              clear HPV HPV2 HVX
              by_cases hlt2 : lessS pp yp = true
              · have hle : (Op.bytesLess yp.toList pp.toList || yp.toList == pp.toList) = false := by
                  rw [Bool.or_eq_false_iff]
                  refine ⟨?_, ?_⟩
                  · cases h : Op.bytesLess yp.toList pp.toList with
                    | false => rfl
                    | true =>
                      have := lessS_trans (a := yp) (b := pp) (c := yp) h hlt2
                      rw [lessS_irrefl] at this
                      cases this
                  · rw [beq_eq_false_iff_ne]
                    exact fun h => lessS_ne hlt2 ((str_iff _ _).1 h).symm
                have HL0 : Hid (∀ (h0 : 0 < k), lessS (l[k - 1]'(by omega)).p yp = true) := fun _ => by rw [HPP.out]; exact hlt2
                go_upto_region 7 with fail
                by_cases h4 : 1 ≤ yk ∧ yk ≤ 3
                · have HNK : Hid (∀ W, Calls Try.prog 25 #[.int .i64 yk, .int .i64 1, .int .i64 3] W fun e w' => e = .returned (.bool true) ∧ w' = W) := fun W => by
                    have := inW yk 1 3 W
                    rwa [decide_eq_true h4.1, decide_eq_true h4.2] at this
                  by_cases h5 : yd.size ≤ 80
                  · have h5i : ¬ (80 : Int) < (yd.size : Int) := by omega
                    by_cases h6 : 0 ≤ yt ∧ yt ≤ 100000
                    · have HNT : Hid (∀ W, Calls Try.prog 25 #[.int .i64 yt, .int .i64 0, .int .i64 100000] W fun e w' => e = .returned (.bool true) ∧ w' = W) := fun W => by
                        have := inW yt 0 100000 W
                        rwa [decide_eq_true h6.1, decide_eq_true h6.2] at this
                      refine wp_region_noPanic ?_
                      refine wp_region_held_drew (S := (fun W => W.cell? ⟨wr.heap.size, 0, none⟩ = some (.string yp) ∧ W.cell? ⟨wr.heap.size, 1, none⟩ = some (.int .i64 yk) ∧ W.cell? ⟨wr.heap.size, 2, none⟩ = some (.string yd) ∧ W.cell? ⟨wr.heap.size, 3, none⟩ = some (.int .i64 yt) ∧ W.cell? ⟨w.heap.size, 0, none⟩ = some (.slice (some ⟨b, off, none⟩) l.length ca) ∧ W.cell? ⟨b, off + (k - 1) * 4, none⟩ = some (.string pp))) (by kernel_rfl) HSS.out (fun hT => ?_)
                      clear hT
                      refine held_take (i := 0) (v := .pointer (some ⟨wr.heap.size, 0, none⟩)) rfl rfl (by kernel_rfl) (by kernel_rfl) (by kernel_rfl) (by kernel_rfl) (fun W hS => by go_simp) HSS.out ?_
                      simp only [Act.put, List.setIfInBounds_toArray, List.set_cons_zero, List.set_cons_succ]
                      refine held_take (i := 1) (v := .string yp) rfl rfl (by kernel_rfl) (by kernel_rfl) (by kernel_rfl) (by kernel_rfl) (fun W hS => by obtain ⟨s0, s1, s2, s3, s4, s5⟩ := hS; go_simp) HSS.out ?_
                      simp only [Act.put, List.setIfInBounds_toArray, List.set_cons_zero, List.set_cons_succ]
                      refine wpAnyH_ready (rs := [2]) (by kernel_rfl) (by simp) (AllReadyH.cons rfl (fun K hK => ?_) AllReadyH.nil)
                      go_simp
                      refine (HPT.out _).mono ?_
                      rintro e w2 ⟨rfl, hb2⟩
                      have hB2 := (Below.refl _ (wr.alloc (.cells #[.string yp, .int .i64 yk, .string yd, .int .i64 yt] 34))).drew.trans hb2
                      clear HSS hb2
                      have HSS : Hid _ := HSF.out w2 hB2
                      refine hK.out _ _ HSS.out (fun hT => ?_)
                      clear hK K hT
                      try simp only [Act.put, List.setIfInBounds_toArray, List.set_cons_zero, List.set_cons_succ]
                      refine held_take (i := 3) (v := .bool false) rfl rfl (by kernel_rfl) (by kernel_rfl) (by kernel_rfl) (by kernel_rfl) (fun W hS => by go_simp) HSS.out ?_
                      simp only [Act.put, List.setIfInBounds_toArray, List.set_cons_zero, List.set_cons_succ]
                      refine held_take (i := 4) (v := .bool false) rfl rfl (by kernel_rfl) (by kernel_rfl) (by kernel_rfl) (by kernel_rfl) (fun W hS => by go_simp) HSS.out ?_
                      simp only [Act.put, List.setIfInBounds_toArray, List.set_cons_zero, List.set_cons_succ]
                      refine held_take (i := 5) (v := .pointer (some ⟨wr.heap.size, 0, none⟩)) rfl rfl (by kernel_rfl) (by kernel_rfl) (by kernel_rfl) (by kernel_rfl) (fun W hS => by go_simp) HSS.out ?_
                      simp only [Act.put, List.setIfInBounds_toArray, List.set_cons_zero, List.set_cons_succ]
                      refine held_take (i := 6) (v := .string yp) rfl rfl (by kernel_rfl) (by kernel_rfl) (by kernel_rfl) (by kernel_rfl) (fun W hS => by obtain ⟨s0, s1, s2, s3, s4, s5⟩ := hS; go_simp) HSS.out ?_
                      simp only [Act.put, List.setIfInBounds_toArray, List.set_cons_zero, List.set_cons_succ]
                      refine held_take (i := 7) (v := .bool false) rfl rfl (by kernel_rfl) (by kernel_rfl) (by kernel_rfl) (by kernel_rfl) (fun W hS => by go_simp) HSS.out ?_
                      simp only [Act.put, List.setIfInBounds_toArray, List.set_cons_zero, List.set_cons_succ]
                      refine held_take (i := 8) (v := .bool false) rfl rfl (by kernel_rfl) (by kernel_rfl) (by kernel_rfl) (by kernel_rfl) (fun W hS => by go_simp) HSS.out ?_
                      simp only [Act.put, List.setIfInBounds_toArray, List.set_cons_zero, List.set_cons_succ]
                      refine held_take (i := 9) (v := .bool false) rfl rfl (by kernel_rfl) (by kernel_rfl) (by kernel_rfl) (by kernel_rfl) (fun W hS => by go_simp) HSS.out ?_
                      simp only [Act.put, List.setIfInBounds_toArray, List.set_cons_zero, List.set_cons_succ]
                      refine held_take (i := 10) (v := .int .i64 (k : Nat)) rfl rfl (by kernel_rfl) (by kernel_rfl) (by kernel_rfl) (by kernel_rfl) (fun W hS => by go_simp) HSS.out ?_
                      simp only [Act.put, List.setIfInBounds_toArray, List.set_cons_zero, List.set_cons_succ]
                      refine held_take (i := 11) (v := .bool true) rfl rfl (by kernel_rfl) (by kernel_rfl) (by kernel_rfl) (by kernel_rfl) (fun W hS => by go_simp) HSS.out ?_
                      simp only [Act.put, List.setIfInBounds_toArray, List.set_cons_zero, List.set_cons_succ]
                      refine held_take (i := 12) (v := .bool true) rfl rfl (by kernel_rfl) (by kernel_rfl) (by kernel_rfl) (by kernel_rfl) (fun W hS => by go_simp) HSS.out ?_
                      simp only [Act.put, List.setIfInBounds_toArray, List.set_cons_zero, List.set_cons_succ]
                      refine held_take (i := 13) (v := .pointer (some ⟨wr.heap.size, 0, none⟩)) rfl rfl (by kernel_rfl) (by kernel_rfl) (by kernel_rfl) (by kernel_rfl) (fun W hS => by go_simp) HSS.out ?_
                      simp only [Act.put, List.setIfInBounds_toArray, List.set_cons_zero, List.set_cons_succ]
                      refine held_take (i := 14) (v := .string yp) rfl rfl (by kernel_rfl) (by kernel_rfl) (by kernel_rfl) (by kernel_rfl) (fun W hS => by obtain ⟨s0, s1, s2, s3, s4, s5⟩ := hS; go_simp) HSS.out ?_
                      simp only [Act.put, List.setIfInBounds_toArray, List.set_cons_zero, List.set_cons_succ]
                      refine held_take (i := 15) (v := .pointer (some ⟨w.heap.size, 0, none⟩)) rfl rfl (by kernel_rfl) (by kernel_rfl) (by kernel_rfl) (by kernel_rfl) (fun W hS => by go_simp) HSS.out ?_
                      simp only [Act.put, List.setIfInBounds_toArray, List.set_cons_zero, List.set_cons_succ]
                      refine held_take (i := 16) (v := .slice (some ⟨b, off, none⟩) l.length ca) rfl rfl (by kernel_rfl) (by kernel_rfl) (by kernel_rfl) (by kernel_rfl) (fun W hS => by obtain ⟨s0, s1, s2, s3, s4, s5⟩ := hS; go_simp) HSS.out ?_
                      simp only [Act.put, List.setIfInBounds_toArray, List.set_cons_zero, List.set_cons_succ]
                      refine held_take (i := 17) (v := .int .i64 (k : Nat)) rfl rfl (by kernel_rfl) (by kernel_rfl) (by kernel_rfl) (by kernel_rfl) (fun W hS => by go_simp) HSS.out ?_
                      simp only [Act.put, List.setIfInBounds_toArray, List.set_cons_zero, List.set_cons_succ]
                      refine held_take (i := 18) (v := .int .i64 ((k : Int) - 1)) rfl rfl (by kernel_rfl) (by kernel_rfl) (by kernel_rfl) (by kernel_rfl) (fun W hS => by go_simp) HSS.out ?_
                      simp only [Act.put, List.setIfInBounds_toArray, List.set_cons_zero, List.set_cons_succ]
                      refine held_take (i := 19) (v := .pointer (some ⟨b, off + (k - 1) * 4, none⟩)) rfl rfl (by kernel_rfl) (by kernel_rfl) (by kernel_rfl) (by kernel_rfl) (fun W hS => by go_simp) HSS.out ?_
                      simp only [Act.put, List.setIfInBounds_toArray, List.set_cons_zero, List.set_cons_succ]
                      refine held_take (i := 20) (v := .pointer (some ⟨b, off + (k - 1) * 4, none⟩)) rfl rfl (by kernel_rfl) (by kernel_rfl) (by kernel_rfl) (by kernel_rfl) (fun W hS => by go_simp) HSS.out ?_
                      simp only [Act.put, List.setIfInBounds_toArray, List.set_cons_zero, List.set_cons_succ]
                      refine held_take (i := 21) (v := .string pp) rfl rfl (by kernel_rfl) (by kernel_rfl) (by kernel_rfl) (by kernel_rfl) (fun W hS => by obtain ⟨s0, s1, s2, s3, s4, s5⟩ := hS; go_simp) HSS.out ?_
                      simp only [Act.put, List.setIfInBounds_toArray, List.set_cons_zero, List.set_cons_succ]
                      refine held_take (i := 22) (v := .bool false) rfl rfl (by kernel_rfl) (by kernel_rfl) (by kernel_rfl) (by kernel_rfl) (fun W hS => by go_simp) HSS.out ?_
                      simp only [Act.put, List.setIfInBounds_toArray, List.set_cons_zero, List.set_cons_succ]
                      refine held_take (i := 23) (v := .bool false) rfl rfl (by kernel_rfl) (by kernel_rfl) (by kernel_rfl) (by kernel_rfl) (fun W hS => by go_simp) HSS.out ?_
                      simp only [Act.put, List.setIfInBounds_toArray, List.set_cons_zero, List.set_cons_succ]
                      refine held_take (i := 24) (v := .bool false) rfl rfl (by kernel_rfl) (by kernel_rfl) (by kernel_rfl) (by kernel_rfl) (fun W hS => by go_simp) HSS.out ?_
                      simp only [Act.put, List.setIfInBounds_toArray, List.set_cons_zero, List.set_cons_succ]
                      refine held_take (i := 25) (v := .bool false) rfl rfl (by kernel_rfl) (by kernel_rfl) (by kernel_rfl) (by kernel_rfl) (fun W hS => by go_simp) HSS.out ?_
                      simp only [Act.put, List.setIfInBounds_toArray, List.set_cons_zero, List.set_cons_succ]
                      refine held_take (i := 26) (v := .pointer (some ⟨wr.heap.size, 1, none⟩)) rfl rfl (by kernel_rfl) (by kernel_rfl) (by kernel_rfl) (by kernel_rfl) (fun W hS => by go_simp) HSS.out ?_
                      simp only [Act.put, List.setIfInBounds_toArray, List.set_cons_zero, List.set_cons_succ]
                      refine held_take (i := 27) (v := .int .i64 yk) rfl rfl (by kernel_rfl) (by kernel_rfl) (by kernel_rfl) (by kernel_rfl) (fun W hS => by obtain ⟨s0, s1, s2, s3, s4, s5⟩ := hS; go_simp) HSS.out ?_
                      simp only [Act.put, List.setIfInBounds_toArray, List.set_cons_zero, List.set_cons_succ]
                      refine wpAnyH_ready (rs := [28]) (by kernel_rfl) (by simp) (AllReadyH.cons rfl (fun K hK => ?_) AllReadyH.nil)
                      go_simp
                      refine (HNK.out _).mono ?_
                      rintro e w3 ⟨rfl, hw3⟩
                      subst w3
                      refine hK.out _ _ HSS.out (fun hT => ?_)
                      clear hK K hT
                      try simp only [Act.put, List.setIfInBounds_toArray, List.set_cons_zero, List.set_cons_succ]
                      refine held_take (i := 29) (v := .bool false) rfl rfl (by kernel_rfl) (by kernel_rfl) (by kernel_rfl) (by kernel_rfl) (fun W hS => by go_simp) HSS.out ?_
                      simp only [Act.put, List.setIfInBounds_toArray, List.set_cons_zero, List.set_cons_succ]
                      refine held_take (i := 30) (v := .bool false) rfl rfl (by kernel_rfl) (by kernel_rfl) (by kernel_rfl) (by kernel_rfl) (fun W hS => by go_simp) HSS.out ?_
                      simp only [Act.put, List.setIfInBounds_toArray, List.set_cons_zero, List.set_cons_succ]
                      refine held_take (i := 31) (v := .bool false) rfl rfl (by kernel_rfl) (by kernel_rfl) (by kernel_rfl) (by kernel_rfl) (fun W hS => by go_simp) HSS.out ?_
                      simp only [Act.put, List.setIfInBounds_toArray, List.set_cons_zero, List.set_cons_succ]
                      refine held_take (i := 32) (v := .pointer (some ⟨wr.heap.size, 2, none⟩)) rfl rfl (by kernel_rfl) (by kernel_rfl) (by kernel_rfl) (by kernel_rfl) (fun W hS => by go_simp) HSS.out ?_
                      simp only [Act.put, List.setIfInBounds_toArray, List.set_cons_zero, List.set_cons_succ]
                      refine held_take (i := 33) (v := .string yd) rfl rfl (by kernel_rfl) (by kernel_rfl) (by kernel_rfl) (by kernel_rfl) (fun W hS => by obtain ⟨s0, s1, s2, s3, s4, s5⟩ := hS; go_simp) HSS.out ?_
                      simp only [Act.put, List.setIfInBounds_toArray, List.set_cons_zero, List.set_cons_succ]
                      refine held_take (i := 34) (v := .int .i64 (yd.size : Nat)) rfl rfl (by kernel_rfl) (by kernel_rfl) (by kernel_rfl) (by kernel_rfl) (fun W hS => by go_simp) HSS.out ?_
                      simp only [Act.put, List.setIfInBounds_toArray, List.set_cons_zero, List.set_cons_succ]
                      refine held_take (i := 35) (v := .bool false) rfl rfl (by kernel_rfl) (by kernel_rfl) (by kernel_rfl) (by kernel_rfl) (fun W hS => by go_simp) HSS.out ?_
                      simp only [Act.put, List.setIfInBounds_toArray, List.set_cons_zero, List.set_cons_succ]
                      refine held_take (i := 36) (v := .bool false) rfl rfl (by kernel_rfl) (by kernel_rfl) (by kernel_rfl) (by kernel_rfl) (fun W hS => by go_simp) HSS.out ?_
                      simp only [Act.put, List.setIfInBounds_toArray, List.set_cons_zero, List.set_cons_succ]
                      refine held_take (i := 37) (v := .bool false) rfl rfl (by kernel_rfl) (by kernel_rfl) (by kernel_rfl) (by kernel_rfl) (fun W hS => by go_simp) HSS.out ?_
                      simp only [Act.put, List.setIfInBounds_toArray, List.set_cons_zero, List.set_cons_succ]
                      refine held_take (i := 38) (v := .pointer (some ⟨wr.heap.size, 3, none⟩)) rfl rfl (by kernel_rfl) (by kernel_rfl) (by kernel_rfl) (by kernel_rfl) (fun W hS => by go_simp) HSS.out ?_
                      simp only [Act.put, List.setIfInBounds_toArray, List.set_cons_zero, List.set_cons_succ]
                      refine held_take (i := 39) (v := .int .i64 yt) rfl rfl (by kernel_rfl) (by kernel_rfl) (by kernel_rfl) (by kernel_rfl) (fun W hS => by obtain ⟨s0, s1, s2, s3, s4, s5⟩ := hS; go_simp) HSS.out ?_
                      simp only [Act.put, List.setIfInBounds_toArray, List.set_cons_zero, List.set_cons_succ]
                      refine wpAnyH_ready (rs := [40]) (by kernel_rfl) (by simp) (AllReadyH.cons rfl (fun K hK => ?_) AllReadyH.nil)
                      go_simp
                      refine (HNT.out _).mono ?_
                      rintro e w3 ⟨rfl, hw3⟩
                      subst w3
                      refine hK.out _ _ HSS.out (fun hT => ?_)
                      clear hK K hT
                      try simp only [Act.put, List.setIfInBounds_toArray, List.set_cons_zero, List.set_cons_succ]
                      refine held_take (i := 41) (v := .bool false) rfl rfl (by kernel_rfl) (by kernel_rfl) (by kernel_rfl) (by kernel_rfl) (fun W hS => by go_simp) HSS.out ?_
                      simp only [Act.put, List.setIfInBounds_toArray, List.set_cons_zero, List.set_cons_succ]
                      refine held_take (i := 42) (v := .bool false) rfl rfl (by kernel_rfl) (by kernel_rfl) (by kernel_rfl) (by kernel_rfl) (fun W hS => by go_simp) HSS.out ?_
                      simp only [Act.put, List.setIfInBounds_toArray, List.set_cons_zero, List.set_cons_succ]
                      refine wpAnyH_done (by kernel_rfl) ?_ _
                      simp only [NoPanic]
                      have s0 := HSS.out.1
                      have s1 := HSS.out.2.1
                      have s2 := HSS.out.2.2.1
                      have s3 := HSS.out.2.2.2.1
                      have s4 := HSS.out.2.2.2.2.1
                      have hBW2 := HBW.out.trans (hB2.mono HBW.out.size)
                      have hwz : wr.heap.size + 1 ≤ w2.heap.size := by have := hB2.size; simpa using this
                      clear HSF HSS HPQ HPT HNK HNT hB2 HBW
                      by_cases hd : yk = 2 → yd = ⟨#[]⟩ ∧ yt = 0
                      · have HOK : Hid (itOk ⟨yp, yk, yd, yt⟩ = true) := (itOk_iff _).2 ⟨hd, h1, h4, h5, h6⟩
                        have HN2 : Hid (yp ≠ rootS) := h2
                        by_cases hk2 : yk = 2
                        · obtain ⟨rfl, rfl⟩ := hd hk2
                          subst hk2
                          clear hd
                          go_upto_region 11 with fail
                          obtain ⟨hup1, hup2, hup3⟩ := HUP.out
                          have HU1 : Hid _ := hup1
                          have HU2 : Hid _ := hup2
                          have HTG2 : Hid (∀ W, Below w2.heap.size w2 W → Calls Try.prog 12 #[.agg #[.slice (some ⟨b, off, none⟩) l.length ca], .string (tx (abv (bt yp)))] W fun e w' => e = .returned (.tuple #[.agg #[.string (itAt l (tx (abv (bt yp)))).p, .int .i64 (itAt l (tx (abv (bt yp)))).k, .string (itAt l (tx (abv (bt yp)))).d, .int .i64 (itAt l (tx (abv (bt yp)))).t], .bool (itIs l (tx (abv (bt yp))))]) ∧ Below W.heap.size W w') := fun W h => HTG.out _ W (hBW2.trans (h.mono hBW2.size)) hup3
                          clear hup1 hup2 hup3 HTG HUP
                          generalize itAt l (tx (abv (bt yp))) = z at *
                          generalize itIs l (tx (abv (bt yp))) = zq at *
                          generalize tx (abv (bt yp)) = up at *
                          refine wp_region_noPanic ?_
                          have HS : Hid (w2.cell? ⟨w.heap.size, 0, none⟩ = some (.slice (some ⟨b, off, none⟩) l.length ca) ∧ w2.cell? ⟨wr.heap.size, 0, none⟩ = some (.string yp)) := ⟨s4, s0⟩
                          refine wp_region_held_drew (S := (fun W => W.cell? ⟨w.heap.size, 0, none⟩ = some (.slice (some ⟨b, off, none⟩) l.length ca) ∧ W.cell? ⟨wr.heap.size, 0, none⟩ = some (.string yp))) (by kernel_rfl) HS.out (fun hT => ?_)
                          clear hT
                          refine held_take (i := 0) (v := .agg #[.slice (some ⟨b, off, none⟩) l.length ca]) rfl rfl (by kernel_rfl) (by kernel_rfl) (by kernel_rfl) (by kernel_rfl) (fun W hS => by obtain ⟨r4, r0⟩ := hS; go_simp) HS.out ?_
                          simp only [Act.put, List.setIfInBounds_toArray, List.set_cons_zero, List.set_cons_succ]
                          refine held_take (i := 1) (v := .pointer (some ⟨wr.heap.size, 0, none⟩)) rfl rfl (by kernel_rfl) (by kernel_rfl) (by kernel_rfl) (by kernel_rfl) (fun W hS => by go_simp) HS.out ?_
                          simp only [Act.put, List.setIfInBounds_toArray, List.set_cons_zero, List.set_cons_succ]
                          refine held_take (i := 2) (v := .string yp) rfl rfl (by kernel_rfl) (by kernel_rfl) (by kernel_rfl) (by kernel_rfl) (fun W hS => by obtain ⟨r4, r0⟩ := hS; go_simp) HS.out ?_
                          simp only [Act.put, List.setIfInBounds_toArray, List.set_cons_zero, List.set_cons_succ]
                          refine wpAnyH_ready (rs := [3, 8]) (by kernel_rfl) (by simp) (AllReadyH.cons rfl (fun K hK => ?_) (AllReadyH.cons rfl (fun K hK => ?_) AllReadyH.nil))
                          · skip
                            go_simp
                            refine (HAB.out _).mono ?_
                            rintro e w4 ⟨rfl, hb4⟩
                            have q4 : Below w2.heap.size w2 w4 := ((Below.refl w2.heap.size w2).drew).trans (hb4.mono ((Below.refl w2.heap.size w2).drew).size)
                            clear HS
                            have HS : Hid (w4.cell? ⟨w.heap.size, 0, none⟩ = some (.slice (some ⟨b, off, none⟩) l.length ca) ∧ w4.cell? ⟨wr.heap.size, 0, none⟩ = some (.string yp)) := ⟨((q4).cell (p := ⟨w.heap.size, 0, none⟩) (by show w.heap.size < w2.heap.size; omega)).trans s4, ((q4).cell (p := ⟨wr.heap.size, 0, none⟩) (by show wr.heap.size < w2.heap.size; omega)).trans s0⟩
                            clear hb4
                            refine hK.out _ _ HS.out (fun hT => ?_)
                            clear hK K hT
                            try simp only [Act.put, List.setIfInBounds_toArray, List.set_cons_zero, List.set_cons_succ]
                            refine wpAnyH_ready (rs := [4, 8]) (by kernel_rfl) (by simp) (AllReadyH.cons rfl (fun K hK => ?_) (AllReadyH.cons rfl (fun K hK => ?_) AllReadyH.nil))
                            · skip
                              go_simp
                              refine (HTG2.out _ (q4)).mono ?_
                              rintro e w5 ⟨rfl, hb5⟩
                              have q5 : Below w2.heap.size w2 w5 := (q4).trans (hb5.mono (q4).size)
                              clear HS
                              have HS : Hid (w5.cell? ⟨w.heap.size, 0, none⟩ = some (.slice (some ⟨b, off, none⟩) l.length ca) ∧ w5.cell? ⟨wr.heap.size, 0, none⟩ = some (.string yp)) := ⟨((q5).cell (p := ⟨w.heap.size, 0, none⟩) (by show w.heap.size < w2.heap.size; omega)).trans s4, ((q5).cell (p := ⟨wr.heap.size, 0, none⟩) (by show wr.heap.size < w2.heap.size; omega)).trans s0⟩
                              clear hb5
                              refine hK.out _ _ HS.out (fun hT => ?_)
                              clear hK K hT
                              try simp only [Act.put, List.setIfInBounds_toArray, List.set_cons_zero, List.set_cons_succ]
                              refine held_take (i := 5) (v := .tuple #[.agg #[.string z.p, .int .i64 z.k, .string z.d, .int .i64 z.t], .bool zq]) rfl rfl (by kernel_rfl) (by kernel_rfl) (by kernel_rfl) (by kernel_rfl) (fun W hS => by go_simp) HS.out ?_
                              simp only [Act.put, List.setIfInBounds_toArray, List.set_cons_zero, List.set_cons_succ]
                              refine held_take (i := 6) (v := .agg #[.string z.p, .int .i64 z.k, .string z.d, .int .i64 z.t]) rfl rfl (by kernel_rfl) (by kernel_rfl) (by kernel_rfl) (by kernel_rfl) (fun W hS => by go_simp) HS.out ?_
                              simp only [Act.put, List.setIfInBounds_toArray, List.set_cons_zero, List.set_cons_succ]
                              refine held_take (i := 7) (v := .bool zq) rfl rfl (by kernel_rfl) (by kernel_rfl) (by kernel_rfl) (by kernel_rfl) (fun W hS => by go_simp) HS.out ?_
                              simp only [Act.put, List.setIfInBounds_toArray, List.set_cons_zero, List.set_cons_succ]
                              refine wpAnyH_ready (rs := [8]) (by kernel_rfl) (by simp) (AllReadyH.cons rfl (fun K hK => ?_) AllReadyH.nil)
                              go_simp
                              clear HS
                              have HS : Hid ((w5.alloc (.cells #[.string ⟨#[]⟩, .int .i64 0, .string ⟨#[]⟩, .int .i64 0] 34)).cell? ⟨w.heap.size, 0, none⟩ = some (.slice (some ⟨b, off, none⟩) l.length ca) ∧ (w5.alloc (.cells #[.string ⟨#[]⟩, .int .i64 0, .string ⟨#[]⟩, .int .i64 0] 34)).cell? ⟨wr.heap.size, 0, none⟩ = some (.string yp)) := ⟨(((q5.alloc q5.size (.cells #[.string ⟨#[]⟩, .int .i64 0, .string ⟨#[]⟩, .int .i64 0] 34))).cell (p := ⟨w.heap.size, 0, none⟩) (by show w.heap.size < w2.heap.size; omega)).trans s4, (((q5.alloc q5.size (.cells #[.string ⟨#[]⟩, .int .i64 0, .string ⟨#[]⟩, .int .i64 0] 34))).cell (p := ⟨wr.heap.size, 0, none⟩) (by show wr.heap.size < w2.heap.size; omega)).trans s0⟩
                              refine hK.out _ _ HS.out (fun hT => ?_)
                              clear hK K hT
                              try simp only [Act.put, List.setIfInBounds_toArray, List.set_cons_zero, List.set_cons_succ]
                              have HUL : Hid (w2.heap.size ≤ w5.heap.size) := q5.size
                              have hVU : Var (w5.alloc (.cells #[.string ⟨#[]⟩, .int .i64 0, .string ⟨#[]⟩, .int .i64 0] 34)) w5.heap.size #[.string ⟨#[]⟩, .int .i64 0, .string ⟨#[]⟩, .int .i64 0] 34 := Var.made w5 _ _
                              have v0 : (w5.alloc (.cells #[.string ⟨#[]⟩, .int .i64 0, .string ⟨#[]⟩, .int .i64 0] 34)).cell? ⟨w5.heap.size, 0, none⟩ = some (.string ⟨#[]⟩) := hVU.cell 0
                              have f0 : (w5.alloc (.cells #[.string ⟨#[]⟩, .int .i64 0, .string ⟨#[]⟩, .int .i64 0] 34)).frozen? ⟨w5.heap.size, 0, none⟩ = false := hVU.frozen 0
                              have v1 : (w5.alloc (.cells #[.string ⟨#[]⟩, .int .i64 0, .string ⟨#[]⟩, .int .i64 0] 34)).cell? ⟨w5.heap.size, 1, none⟩ = some (.int .i64 0) := hVU.cell 1
                              have f1 : (w5.alloc (.cells #[.string ⟨#[]⟩, .int .i64 0, .string ⟨#[]⟩, .int .i64 0] 34)).frozen? ⟨w5.heap.size, 1, none⟩ = false := hVU.frozen 1
                              have v2 : (w5.alloc (.cells #[.string ⟨#[]⟩, .int .i64 0, .string ⟨#[]⟩, .int .i64 0] 34)).cell? ⟨w5.heap.size, 2, none⟩ = some (.string ⟨#[]⟩) := hVU.cell 2
                              have f2 : (w5.alloc (.cells #[.string ⟨#[]⟩, .int .i64 0, .string ⟨#[]⟩, .int .i64 0] 34)).frozen? ⟨w5.heap.size, 2, none⟩ = false := hVU.frozen 2
                              have v3 : (w5.alloc (.cells #[.string ⟨#[]⟩, .int .i64 0, .string ⟨#[]⟩, .int .i64 0] 34)).cell? ⟨w5.heap.size, 3, none⟩ = some (.int .i64 0) := hVU.cell 3
                              have f3 : (w5.alloc (.cells #[.string ⟨#[]⟩, .int .i64 0, .string ⟨#[]⟩, .int .i64 0] 34)).frozen? ⟨w5.heap.size, 3, none⟩ = false := hVU.frozen 3
                              have q6 : Below w2.heap.size w2 (w5.alloc (.cells #[.string z.p, .int .i64 z.k, .string z.d, .int .i64 z.t] 34)) := q5.alloc q5.size _
                              have hVS := Var.made w5 #[.string z.p, .int .i64 z.k, .string z.d, .int .i64 z.t] 34
                              try simp only [List.setIfInBounds_toArray, List.set_cons_zero, List.set_cons_succ] at hVS
                              have vk : (w5.alloc (.cells #[.string z.p, .int .i64 z.k, .string z.d, .int .i64 z.t] 34)).cell? ⟨w5.heap.size, 1, none⟩ = some (.int .i64 z.k) := hVS.cell 1
                              refine wpAnyH_ready (rs := [9]) (by kernel_rfl) (by simp) (AllReadyH.cons rfl (fun K hK => ?_) AllReadyH.nil)
                              go_simp
                              clear HS
                              have HS : Hid ((w5.alloc (.cells #[.string z.p, .int .i64 z.k, .string z.d, .int .i64 z.t] 34)).cell? ⟨w.heap.size, 0, none⟩ = some (.slice (some ⟨b, off, none⟩) l.length ca) ∧ (w5.alloc (.cells #[.string z.p, .int .i64 z.k, .string z.d, .int .i64 z.t] 34)).cell? ⟨wr.heap.size, 0, none⟩ = some (.string yp)) := ⟨((q6).cell (p := ⟨w.heap.size, 0, none⟩) (by show w.heap.size < w2.heap.size; omega)).trans s4, ((q6).cell (p := ⟨wr.heap.size, 0, none⟩) (by show wr.heap.size < w2.heap.size; omega)).trans s0⟩
                              try clear hst
                              refine hK.out _ _ HS.out (fun hT => ?_)
                              clear hK K hT
                              try simp only [Act.put, List.setIfInBounds_toArray, List.set_cons_zero, List.set_cons_succ]
                              refine held_take (i := 10) (v := .bool zq) rfl rfl (by kernel_rfl) (by kernel_rfl) (by kernel_rfl) (by kernel_rfl) (fun W hS => by go_simp) HS.out ?_
                              simp only [Act.put, List.setIfInBounds_toArray, List.set_cons_zero, List.set_cons_succ]
                              refine wpAnyH_done (by kernel_rfl) ?_ _
                              simp only [NoPanic]
                              have r4 := HS.out.1
                              have q7 : Below w.heap.size w (w5.alloc (.cells #[.string z.p, .int .i64 z.k, .string z.d, .int .i64 z.t] 34)) := hBW2.trans (q6.mono hBW2.size)
                              have q8 : w.heap.size + 1 ≤ (w5.alloc (.cells #[.string z.p, .int .i64 z.k, .string z.d, .int .i64 z.t] 34)).heap.size := by have := q6.size; omega
                              clear v0 v1 v2 v3 f0 f1 f2 f3 hVU hVS HS q6
                              generalize (w5.alloc (.cells #[.string z.p, .int .i64 z.k, .string z.d, .int .i64 z.t] 34)) = W6 at *
                              cases zq with
                              | false =>
                                have HNE : Hid (treeB l = false) := HNB.out fun h => by have h4 := h.2.2.2; rw [HU1.out, HU2.out rfl] at h4; cases h4
                                clear HNB HGO
                                go_wp2
                                go_ret
                                exact ⟨by rw [HNE.out]; rfl, q7⟩
                              | true =>
                                by_cases hzk : z.k = 2
                                · have HNX := HGO.out HOK.out HN2.out HL0.out (by rw [HU1.out]; exact decide_eq_true hzk)
                                  have hzb : (z.k != 2) = false := by simpa using hzk
                                  clear HNB HGO hzk
                                  go_wp2
                                  go_roundw
                                  case rel => exact ⟨k + 1, by omega, by go_num, q7, q8, r4, HNX⟩
                                  case measure => simp [intOf]; omega
                                · have HNE : Hid (treeB l = false) := HNB.out fun h => by have h4 := h.2.2.2; rw [HU1.out] at h4; exact hzk (of_decide_eq_true h4)
                                  have hzb : (z.k != 2) = true := by simpa using hzk
                                  clear HNB HGO hzk
                                  go_wp2
                                  go_ret
                                  exact ⟨by rw [HNE.out]; rfl, q7⟩
                            · skip
                              go_simp
                              clear HS
                              have HS : Hid ((w4.alloc (.cells #[.string ⟨#[]⟩, .int .i64 0, .string ⟨#[]⟩, .int .i64 0] 34)).cell? ⟨w.heap.size, 0, none⟩ = some (.slice (some ⟨b, off, none⟩) l.length ca) ∧ (w4.alloc (.cells #[.string ⟨#[]⟩, .int .i64 0, .string ⟨#[]⟩, .int .i64 0] 34)).cell? ⟨wr.heap.size, 0, none⟩ = some (.string yp)) := ⟨(((q4.alloc q4.size (.cells #[.string ⟨#[]⟩, .int .i64 0, .string ⟨#[]⟩, .int .i64 0] 34))).cell (p := ⟨w.heap.size, 0, none⟩) (by show w.heap.size < w2.heap.size; omega)).trans s4, (((q4.alloc q4.size (.cells #[.string ⟨#[]⟩, .int .i64 0, .string ⟨#[]⟩, .int .i64 0] 34))).cell (p := ⟨wr.heap.size, 0, none⟩) (by show wr.heap.size < w2.heap.size; omega)).trans s0⟩
                              refine hK.out _ _ HS.out (fun hT => ?_)
                              clear hK K hT
                              try simp only [Act.put, List.setIfInBounds_toArray, List.set_cons_zero, List.set_cons_succ]
                              refine wpAnyH_ready (rs := [4]) (by kernel_rfl) (by simp) (AllReadyH.cons rfl (fun K hK => ?_) AllReadyH.nil)
                              go_simp
                              refine (HTG2.out _ ((q4.alloc q4.size (.cells #[.string ⟨#[]⟩, .int .i64 0, .string ⟨#[]⟩, .int .i64 0] 34)))).mono ?_
                              rintro e w5 ⟨rfl, hb5⟩
                              have q5 : Below w2.heap.size w2 w5 := ((q4.alloc q4.size (.cells #[.string ⟨#[]⟩, .int .i64 0, .string ⟨#[]⟩, .int .i64 0] 34))).trans (hb5.mono ((q4.alloc q4.size (.cells #[.string ⟨#[]⟩, .int .i64 0, .string ⟨#[]⟩, .int .i64 0] 34))).size)
                              clear HS
                              have HS : Hid (w5.cell? ⟨w.heap.size, 0, none⟩ = some (.slice (some ⟨b, off, none⟩) l.length ca) ∧ w5.cell? ⟨wr.heap.size, 0, none⟩ = some (.string yp)) := ⟨((q5).cell (p := ⟨w.heap.size, 0, none⟩) (by show w.heap.size < w2.heap.size; omega)).trans s4, ((q5).cell (p := ⟨wr.heap.size, 0, none⟩) (by show wr.heap.size < w2.heap.size; omega)).trans s0⟩
                              have hVM : Var w5 w4.heap.size #[.string ⟨#[]⟩, .int .i64 0, .string ⟨#[]⟩, .int .i64 0] 34 := (Var.made w4 _ _).new hb5
                              clear hb5
                              refine hK.out _ _ HS.out (fun hT => ?_)
                              clear hK K hT
                              try simp only [Act.put, List.setIfInBounds_toArray, List.set_cons_zero, List.set_cons_succ]
                              have HUL : Hid (w2.heap.size ≤ w4.heap.size) := q4.size
                              refine held_take (i := 5) (v := .tuple #[.agg #[.string z.p, .int .i64 z.k, .string z.d, .int .i64 z.t], .bool zq]) rfl rfl (by kernel_rfl) (by kernel_rfl) (by kernel_rfl) (by kernel_rfl) (fun W hS => by go_simp) HS.out ?_
                              simp only [Act.put, List.setIfInBounds_toArray, List.set_cons_zero, List.set_cons_succ]
                              refine held_take (i := 6) (v := .agg #[.string z.p, .int .i64 z.k, .string z.d, .int .i64 z.t]) rfl rfl (by kernel_rfl) (by kernel_rfl) (by kernel_rfl) (by kernel_rfl) (fun W hS => by go_simp) HS.out ?_
                              simp only [Act.put, List.setIfInBounds_toArray, List.set_cons_zero, List.set_cons_succ]
                              refine held_take (i := 7) (v := .bool zq) rfl rfl (by kernel_rfl) (by kernel_rfl) (by kernel_rfl) (by kernel_rfl) (fun W hS => by go_simp) HS.out ?_
                              simp only [Act.put, List.setIfInBounds_toArray, List.set_cons_zero, List.set_cons_succ]
                              have hVU : Var w5 w4.heap.size #[.string ⟨#[]⟩, .int .i64 0, .string ⟨#[]⟩, .int .i64 0] 34 := hVM
                              have v0 : w5.cell? ⟨w4.heap.size, 0, none⟩ = some (.string ⟨#[]⟩) := hVU.cell 0
                              have f0 : w5.frozen? ⟨w4.heap.size, 0, none⟩ = false := hVU.frozen 0
                              have v1 : w5.cell? ⟨w4.heap.size, 1, none⟩ = some (.int .i64 0) := hVU.cell 1
                              have f1 : w5.frozen? ⟨w4.heap.size, 1, none⟩ = false := hVU.frozen 1
                              have v2 : w5.cell? ⟨w4.heap.size, 2, none⟩ = some (.string ⟨#[]⟩) := hVU.cell 2
                              have f2 : w5.frozen? ⟨w4.heap.size, 2, none⟩ = false := hVU.frozen 2
                              have v3 : w5.cell? ⟨w4.heap.size, 3, none⟩ = some (.int .i64 0) := hVU.cell 3
                              have f3 : w5.frozen? ⟨w4.heap.size, 3, none⟩ = false := hVU.frozen 3
                              have hst : Only (fun j => w2.heap.size ≤ j) w5 ((((w5.setCell ⟨w4.heap.size, 0, none⟩ (.string z.p)).setCell ⟨w4.heap.size, 1, none⟩ (.int .i64 z.k)).setCell ⟨w4.heap.size, 2, none⟩ (.string z.d)).setCell ⟨w4.heap.size, 3, none⟩ (.int .i64 z.t)) := ((((Only.refl _ _).setCell (p := ⟨w4.heap.size, 0, none⟩) (HUL.out) _).setCell (p := ⟨w4.heap.size, 1, none⟩) (HUL.out) _).setCell (p := ⟨w4.heap.size, 2, none⟩) (HUL.out) _).setCell (p := ⟨w4.heap.size, 3, none⟩) (HUL.out) _
                              have q6 : Below w2.heap.size w2 ((((w5.setCell ⟨w4.heap.size, 0, none⟩ (.string z.p)).setCell ⟨w4.heap.size, 1, none⟩ (.int .i64 z.k)).setCell ⟨w4.heap.size, 2, none⟩ (.string z.d)).setCell ⟨w4.heap.size, 3, none⟩ (.int .i64 z.t)) := (q5).trans (hst.below (q5).size (fun j h => h))
                              have hVS := (((hVU.set 0 (.string z.p)).set 1 (.int .i64 z.k)).set 2 (.string z.d)).set 3 (.int .i64 z.t)
                              try simp only [List.setIfInBounds_toArray, List.set_cons_zero, List.set_cons_succ] at hVS
                              have vk : ((((w5.setCell ⟨w4.heap.size, 0, none⟩ (.string z.p)).setCell ⟨w4.heap.size, 1, none⟩ (.int .i64 z.k)).setCell ⟨w4.heap.size, 2, none⟩ (.string z.d)).setCell ⟨w4.heap.size, 3, none⟩ (.int .i64 z.t)).cell? ⟨w4.heap.size, 1, none⟩ = some (.int .i64 z.k) := hVS.cell 1
                              refine wpAnyH_ready (rs := [9]) (by kernel_rfl) (by simp) (AllReadyH.cons rfl (fun K hK => ?_) AllReadyH.nil)
                              go_simp
                              clear HS
                              have HS : Hid (((((w5.setCell ⟨w4.heap.size, 0, none⟩ (.string z.p)).setCell ⟨w4.heap.size, 1, none⟩ (.int .i64 z.k)).setCell ⟨w4.heap.size, 2, none⟩ (.string z.d)).setCell ⟨w4.heap.size, 3, none⟩ (.int .i64 z.t)).cell? ⟨w.heap.size, 0, none⟩ = some (.slice (some ⟨b, off, none⟩) l.length ca) ∧ ((((w5.setCell ⟨w4.heap.size, 0, none⟩ (.string z.p)).setCell ⟨w4.heap.size, 1, none⟩ (.int .i64 z.k)).setCell ⟨w4.heap.size, 2, none⟩ (.string z.d)).setCell ⟨w4.heap.size, 3, none⟩ (.int .i64 z.t)).cell? ⟨wr.heap.size, 0, none⟩ = some (.string yp)) := ⟨((q6).cell (p := ⟨w.heap.size, 0, none⟩) (by show w.heap.size < w2.heap.size; omega)).trans s4, ((q6).cell (p := ⟨wr.heap.size, 0, none⟩) (by show wr.heap.size < w2.heap.size; omega)).trans s0⟩
                              try clear hst
                              refine hK.out _ _ HS.out (fun hT => ?_)
                              clear hK K hT
                              try simp only [Act.put, List.setIfInBounds_toArray, List.set_cons_zero, List.set_cons_succ]
                              refine held_take (i := 10) (v := .bool zq) rfl rfl (by kernel_rfl) (by kernel_rfl) (by kernel_rfl) (by kernel_rfl) (fun W hS => by go_simp) HS.out ?_
                              simp only [Act.put, List.setIfInBounds_toArray, List.set_cons_zero, List.set_cons_succ]
                              refine wpAnyH_done (by kernel_rfl) ?_ _
                              simp only [NoPanic]
                              have r4 := HS.out.1
                              have q7 : Below w.heap.size w ((((w5.setCell ⟨w4.heap.size, 0, none⟩ (.string z.p)).setCell ⟨w4.heap.size, 1, none⟩ (.int .i64 z.k)).setCell ⟨w4.heap.size, 2, none⟩ (.string z.d)).setCell ⟨w4.heap.size, 3, none⟩ (.int .i64 z.t)) := hBW2.trans (q6.mono hBW2.size)
                              have q8 : w.heap.size + 1 ≤ ((((w5.setCell ⟨w4.heap.size, 0, none⟩ (.string z.p)).setCell ⟨w4.heap.size, 1, none⟩ (.int .i64 z.k)).setCell ⟨w4.heap.size, 2, none⟩ (.string z.d)).setCell ⟨w4.heap.size, 3, none⟩ (.int .i64 z.t)).heap.size := by have := q6.size; omega
                              clear v0 v1 v2 v3 f0 f1 f2 f3 hVU hVS HS q6
                              generalize ((((w5.setCell ⟨w4.heap.size, 0, none⟩ (.string z.p)).setCell ⟨w4.heap.size, 1, none⟩ (.int .i64 z.k)).setCell ⟨w4.heap.size, 2, none⟩ (.string z.d)).setCell ⟨w4.heap.size, 3, none⟩ (.int .i64 z.t)) = W6 at *
                              cases zq with
                              | false =>
                                have HNE : Hid (treeB l = false) := HNB.out fun h => by have h4 := h.2.2.2; rw [HU1.out, HU2.out rfl] at h4; cases h4
                                clear HNB HGO
                                go_wp2
                                go_ret
                                exact ⟨by rw [HNE.out]; rfl, q7⟩
                              | true =>
                                by_cases hzk : z.k = 2
                                · have HNX := HGO.out HOK.out HN2.out HL0.out (by rw [HU1.out]; exact decide_eq_true hzk)
                                  have hzb : (z.k != 2) = false := by simpa using hzk
                                  clear HNB HGO hzk
                                  go_wp2
                                  go_roundw
                                  case rel => exact ⟨k + 1, by omega, by go_num, q7, q8, r4, HNX⟩
                                  case measure => simp [intOf]; omega
                                · have HNE : Hid (treeB l = false) := HNB.out fun h => by have h4 := h.2.2.2; rw [HU1.out] at h4; exact hzk (of_decide_eq_true h4)
                                  have hzb : (z.k != 2) = true := by simpa using hzk
                                  clear HNB HGO hzk
                                  go_wp2
                                  go_ret
                                  exact ⟨by rw [HNE.out]; rfl, q7⟩
                          · skip
                            go_simp
                            clear HS
                            have HS : Hid ((w2.drew.alloc (.cells #[.string ⟨#[]⟩, .int .i64 0, .string ⟨#[]⟩, .int .i64 0] 34)).cell? ⟨w.heap.size, 0, none⟩ = some (.slice (some ⟨b, off, none⟩) l.length ca) ∧ (w2.drew.alloc (.cells #[.string ⟨#[]⟩, .int .i64 0, .string ⟨#[]⟩, .int .i64 0] 34)).cell? ⟨wr.heap.size, 0, none⟩ = some (.string yp)) := ⟨((((Below.refl w2.heap.size w2).drew.alloc (Nat.le_refl _) (.cells #[.string ⟨#[]⟩, .int .i64 0, .string ⟨#[]⟩, .int .i64 0] 34))).cell (p := ⟨w.heap.size, 0, none⟩) (by show w.heap.size < w2.heap.size; omega)).trans s4, ((((Below.refl w2.heap.size w2).drew.alloc (Nat.le_refl _) (.cells #[.string ⟨#[]⟩, .int .i64 0, .string ⟨#[]⟩, .int .i64 0] 34))).cell (p := ⟨wr.heap.size, 0, none⟩) (by show wr.heap.size < w2.heap.size; omega)).trans s0⟩
                            refine hK.out _ _ HS.out (fun hT => ?_)
                            clear hK K hT
                            try simp only [Act.put, List.setIfInBounds_toArray, List.set_cons_zero, List.set_cons_succ]
                            refine wpAnyH_ready (rs := [3]) (by kernel_rfl) (by simp) (AllReadyH.cons rfl (fun K hK => ?_) AllReadyH.nil)
                            go_simp
                            refine (HAB.out _).mono ?_
                            rintro e w4 ⟨rfl, hb4⟩
                            have q4 : Below w2.heap.size w2 w4 := (((Below.refl w2.heap.size w2).drew.alloc (Nat.le_refl _) (.cells #[.string ⟨#[]⟩, .int .i64 0, .string ⟨#[]⟩, .int .i64 0] 34))).trans (hb4.mono (((Below.refl w2.heap.size w2).drew.alloc (Nat.le_refl _) (.cells #[.string ⟨#[]⟩, .int .i64 0, .string ⟨#[]⟩, .int .i64 0] 34))).size)
                            clear HS
                            have HS : Hid (w4.cell? ⟨w.heap.size, 0, none⟩ = some (.slice (some ⟨b, off, none⟩) l.length ca) ∧ w4.cell? ⟨wr.heap.size, 0, none⟩ = some (.string yp)) := ⟨((q4).cell (p := ⟨w.heap.size, 0, none⟩) (by show w.heap.size < w2.heap.size; omega)).trans s4, ((q4).cell (p := ⟨wr.heap.size, 0, none⟩) (by show wr.heap.size < w2.heap.size; omega)).trans s0⟩
                            have hVN : Var w4 w2.heap.size #[.string ⟨#[]⟩, .int .i64 0, .string ⟨#[]⟩, .int .i64 0] 34 := ((Var.made w2 _ _).new (Below.refl _ _).drew).new hb4
                            clear hb4
                            refine hK.out _ _ HS.out (fun hT => ?_)
                            clear hK K hT
                            try simp only [Act.put, List.setIfInBounds_toArray, List.set_cons_zero, List.set_cons_succ]
                            refine wpAnyH_ready (rs := [4]) (by kernel_rfl) (by simp) (AllReadyH.cons rfl (fun K hK => ?_) AllReadyH.nil)
                            go_simp
                            refine (HTG2.out _ (q4)).mono ?_
                            rintro e w5 ⟨rfl, hb5⟩
                            have q5 : Below w2.heap.size w2 w5 := (q4).trans (hb5.mono (q4).size)
                            clear HS
                            have HS : Hid (w5.cell? ⟨w.heap.size, 0, none⟩ = some (.slice (some ⟨b, off, none⟩) l.length ca) ∧ w5.cell? ⟨wr.heap.size, 0, none⟩ = some (.string yp)) := ⟨((q5).cell (p := ⟨w.heap.size, 0, none⟩) (by show w.heap.size < w2.heap.size; omega)).trans s4, ((q5).cell (p := ⟨wr.heap.size, 0, none⟩) (by show wr.heap.size < w2.heap.size; omega)).trans s0⟩
                            have hVM : Var w5 w2.heap.size #[.string ⟨#[]⟩, .int .i64 0, .string ⟨#[]⟩, .int .i64 0] 34 := hVN.new hb5
                            clear hb5
                            refine hK.out _ _ HS.out (fun hT => ?_)
                            clear hK K hT
                            try simp only [Act.put, List.setIfInBounds_toArray, List.set_cons_zero, List.set_cons_succ]
                            have HUL : Hid (w2.heap.size ≤ w2.heap.size) := Nat.le_refl _
                            refine held_take (i := 5) (v := .tuple #[.agg #[.string z.p, .int .i64 z.k, .string z.d, .int .i64 z.t], .bool zq]) rfl rfl (by kernel_rfl) (by kernel_rfl) (by kernel_rfl) (by kernel_rfl) (fun W hS => by go_simp) HS.out ?_
                            simp only [Act.put, List.setIfInBounds_toArray, List.set_cons_zero, List.set_cons_succ]
                            refine held_take (i := 6) (v := .agg #[.string z.p, .int .i64 z.k, .string z.d, .int .i64 z.t]) rfl rfl (by kernel_rfl) (by kernel_rfl) (by kernel_rfl) (by kernel_rfl) (fun W hS => by go_simp) HS.out ?_
                            simp only [Act.put, List.setIfInBounds_toArray, List.set_cons_zero, List.set_cons_succ]
                            refine held_take (i := 7) (v := .bool zq) rfl rfl (by kernel_rfl) (by kernel_rfl) (by kernel_rfl) (by kernel_rfl) (fun W hS => by go_simp) HS.out ?_
                            simp only [Act.put, List.setIfInBounds_toArray, List.set_cons_zero, List.set_cons_succ]
                            have hVU : Var w5 w2.heap.size #[.string ⟨#[]⟩, .int .i64 0, .string ⟨#[]⟩, .int .i64 0] 34 := hVM
                            have v0 : w5.cell? ⟨w2.heap.size, 0, none⟩ = some (.string ⟨#[]⟩) := hVU.cell 0
                            have f0 : w5.frozen? ⟨w2.heap.size, 0, none⟩ = false := hVU.frozen 0
                            have v1 : w5.cell? ⟨w2.heap.size, 1, none⟩ = some (.int .i64 0) := hVU.cell 1
                            have f1 : w5.frozen? ⟨w2.heap.size, 1, none⟩ = false := hVU.frozen 1
                            have v2 : w5.cell? ⟨w2.heap.size, 2, none⟩ = some (.string ⟨#[]⟩) := hVU.cell 2
                            have f2 : w5.frozen? ⟨w2.heap.size, 2, none⟩ = false := hVU.frozen 2
                            have v3 : w5.cell? ⟨w2.heap.size, 3, none⟩ = some (.int .i64 0) := hVU.cell 3
                            have f3 : w5.frozen? ⟨w2.heap.size, 3, none⟩ = false := hVU.frozen 3
                            have hst : Only (fun j => w2.heap.size ≤ j) w5 ((((w5.setCell ⟨w2.heap.size, 0, none⟩ (.string z.p)).setCell ⟨w2.heap.size, 1, none⟩ (.int .i64 z.k)).setCell ⟨w2.heap.size, 2, none⟩ (.string z.d)).setCell ⟨w2.heap.size, 3, none⟩ (.int .i64 z.t)) := ((((Only.refl _ _).setCell (p := ⟨w2.heap.size, 0, none⟩) (HUL.out) _).setCell (p := ⟨w2.heap.size, 1, none⟩) (HUL.out) _).setCell (p := ⟨w2.heap.size, 2, none⟩) (HUL.out) _).setCell (p := ⟨w2.heap.size, 3, none⟩) (HUL.out) _
                            have q6 : Below w2.heap.size w2 ((((w5.setCell ⟨w2.heap.size, 0, none⟩ (.string z.p)).setCell ⟨w2.heap.size, 1, none⟩ (.int .i64 z.k)).setCell ⟨w2.heap.size, 2, none⟩ (.string z.d)).setCell ⟨w2.heap.size, 3, none⟩ (.int .i64 z.t)) := (q5).trans (hst.below (q5).size (fun j h => h))
                            have hVS := (((hVU.set 0 (.string z.p)).set 1 (.int .i64 z.k)).set 2 (.string z.d)).set 3 (.int .i64 z.t)
                            try simp only [List.setIfInBounds_toArray, List.set_cons_zero, List.set_cons_succ] at hVS
                            have vk : ((((w5.setCell ⟨w2.heap.size, 0, none⟩ (.string z.p)).setCell ⟨w2.heap.size, 1, none⟩ (.int .i64 z.k)).setCell ⟨w2.heap.size, 2, none⟩ (.string z.d)).setCell ⟨w2.heap.size, 3, none⟩ (.int .i64 z.t)).cell? ⟨w2.heap.size, 1, none⟩ = some (.int .i64 z.k) := hVS.cell 1
                            refine wpAnyH_ready (rs := [9]) (by kernel_rfl) (by simp) (AllReadyH.cons rfl (fun K hK => ?_) AllReadyH.nil)
                            go_simp
                            clear HS
                            have HS : Hid (((((w5.setCell ⟨w2.heap.size, 0, none⟩ (.string z.p)).setCell ⟨w2.heap.size, 1, none⟩ (.int .i64 z.k)).setCell ⟨w2.heap.size, 2, none⟩ (.string z.d)).setCell ⟨w2.heap.size, 3, none⟩ (.int .i64 z.t)).cell? ⟨w.heap.size, 0, none⟩ = some (.slice (some ⟨b, off, none⟩) l.length ca) ∧ ((((w5.setCell ⟨w2.heap.size, 0, none⟩ (.string z.p)).setCell ⟨w2.heap.size, 1, none⟩ (.int .i64 z.k)).setCell ⟨w2.heap.size, 2, none⟩ (.string z.d)).setCell ⟨w2.heap.size, 3, none⟩ (.int .i64 z.t)).cell? ⟨wr.heap.size, 0, none⟩ = some (.string yp)) := ⟨((q6).cell (p := ⟨w.heap.size, 0, none⟩) (by show w.heap.size < w2.heap.size; omega)).trans s4, ((q6).cell (p := ⟨wr.heap.size, 0, none⟩) (by show wr.heap.size < w2.heap.size; omega)).trans s0⟩
                            try clear hst
                            refine hK.out _ _ HS.out (fun hT => ?_)
                            clear hK K hT
                            try simp only [Act.put, List.setIfInBounds_toArray, List.set_cons_zero, List.set_cons_succ]
                            refine held_take (i := 10) (v := .bool zq) rfl rfl (by kernel_rfl) (by kernel_rfl) (by kernel_rfl) (by kernel_rfl) (fun W hS => by go_simp) HS.out ?_
                            simp only [Act.put, List.setIfInBounds_toArray, List.set_cons_zero, List.set_cons_succ]
                            refine wpAnyH_done (by kernel_rfl) ?_ _
                            simp only [NoPanic]
                            have r4 := HS.out.1
                            have q7 : Below w.heap.size w ((((w5.setCell ⟨w2.heap.size, 0, none⟩ (.string z.p)).setCell ⟨w2.heap.size, 1, none⟩ (.int .i64 z.k)).setCell ⟨w2.heap.size, 2, none⟩ (.string z.d)).setCell ⟨w2.heap.size, 3, none⟩ (.int .i64 z.t)) := hBW2.trans (q6.mono hBW2.size)
                            have q8 : w.heap.size + 1 ≤ ((((w5.setCell ⟨w2.heap.size, 0, none⟩ (.string z.p)).setCell ⟨w2.heap.size, 1, none⟩ (.int .i64 z.k)).setCell ⟨w2.heap.size, 2, none⟩ (.string z.d)).setCell ⟨w2.heap.size, 3, none⟩ (.int .i64 z.t)).heap.size := by have := q6.size; omega
                            clear v0 v1 v2 v3 f0 f1 f2 f3 hVU hVS HS q6
                            generalize ((((w5.setCell ⟨w2.heap.size, 0, none⟩ (.string z.p)).setCell ⟨w2.heap.size, 1, none⟩ (.int .i64 z.k)).setCell ⟨w2.heap.size, 2, none⟩ (.string z.d)).setCell ⟨w2.heap.size, 3, none⟩ (.int .i64 z.t)) = W6 at *
                            cases zq with
                            | false =>
                              have HNE : Hid (treeB l = false) := HNB.out fun h => by have h4 := h.2.2.2; rw [HU1.out, HU2.out rfl] at h4; cases h4
                              clear HNB HGO
                              go_wp2
                              go_ret
                              exact ⟨by rw [HNE.out]; rfl, q7⟩
                            | true =>
                              by_cases hzk : z.k = 2
                              · have HNX := HGO.out HOK.out HN2.out HL0.out (by rw [HU1.out]; exact decide_eq_true hzk)
                                have hzb : (z.k != 2) = false := by simpa using hzk
                                clear HNB HGO hzk
                                go_wp2
                                go_roundw
                                case rel => exact ⟨k + 1, by omega, by go_num, q7, q8, r4, HNX⟩
                                case measure => simp [intOf]; omega
                              · have HNE : Hid (treeB l = false) := HNB.out fun h => by have h4 := h.2.2.2; rw [HU1.out] at h4; exact hzk (of_decide_eq_true h4)
                                have hzb : (z.k != 2) = true := by simpa using hzk
                                clear HNB HGO hzk
                                go_wp2
                                go_ret
                                exact ⟨by rw [HNE.out]; rfl, q7⟩
                        · have hk2b : (yk == 2) = false := by simpa using hk2
                          clear hd
                          go_upto_region 11 with fail
                          obtain ⟨hup1, hup2, hup3⟩ := HUP.out
                          have HU1 : Hid _ := hup1
                          have HU2 : Hid _ := hup2
                          have HTG2 : Hid (∀ W, Below w2.heap.size w2 W → Calls Try.prog 12 #[.agg #[.slice (some ⟨b, off, none⟩) l.length ca], .string (tx (abv (bt yp)))] W fun e w' => e = .returned (.tuple #[.agg #[.string (itAt l (tx (abv (bt yp)))).p, .int .i64 (itAt l (tx (abv (bt yp)))).k, .string (itAt l (tx (abv (bt yp)))).d, .int .i64 (itAt l (tx (abv (bt yp)))).t], .bool (itIs l (tx (abv (bt yp))))]) ∧ Below W.heap.size W w') := fun W h => HTG.out _ W (hBW2.trans (h.mono hBW2.size)) hup3
                          clear hup1 hup2 hup3 HTG HUP
                          generalize itAt l (tx (abv (bt yp))) = z at *
                          generalize itIs l (tx (abv (bt yp))) = zq at *
                          generalize tx (abv (bt yp)) = up at *
                          refine wp_region_noPanic ?_
                          have HS : Hid (w2.cell? ⟨w.heap.size, 0, none⟩ = some (.slice (some ⟨b, off, none⟩) l.length ca) ∧ w2.cell? ⟨wr.heap.size, 0, none⟩ = some (.string yp)) := ⟨s4, s0⟩
                          refine wp_region_held_drew (S := (fun W => W.cell? ⟨w.heap.size, 0, none⟩ = some (.slice (some ⟨b, off, none⟩) l.length ca) ∧ W.cell? ⟨wr.heap.size, 0, none⟩ = some (.string yp))) (by kernel_rfl) HS.out (fun hT => ?_)
                          clear hT
                          refine held_take (i := 0) (v := .agg #[.slice (some ⟨b, off, none⟩) l.length ca]) rfl rfl (by kernel_rfl) (by kernel_rfl) (by kernel_rfl) (by kernel_rfl) (fun W hS => by obtain ⟨r4, r0⟩ := hS; go_simp) HS.out ?_
                          simp only [Act.put, List.setIfInBounds_toArray, List.set_cons_zero, List.set_cons_succ]
                          refine held_take (i := 1) (v := .pointer (some ⟨wr.heap.size, 0, none⟩)) rfl rfl (by kernel_rfl) (by kernel_rfl) (by kernel_rfl) (by kernel_rfl) (fun W hS => by go_simp) HS.out ?_
                          simp only [Act.put, List.setIfInBounds_toArray, List.set_cons_zero, List.set_cons_succ]
                          refine held_take (i := 2) (v := .string yp) rfl rfl (by kernel_rfl) (by kernel_rfl) (by kernel_rfl) (by kernel_rfl) (fun W hS => by obtain ⟨r4, r0⟩ := hS; go_simp) HS.out ?_
                          simp only [Act.put, List.setIfInBounds_toArray, List.set_cons_zero, List.set_cons_succ]
                          refine wpAnyH_ready (rs := [3, 8]) (by kernel_rfl) (by simp) (AllReadyH.cons rfl (fun K hK => ?_) (AllReadyH.cons rfl (fun K hK => ?_) AllReadyH.nil))
                          · skip
                            go_simp
                            refine (HAB.out _).mono ?_
                            rintro e w4 ⟨rfl, hb4⟩
                            have q4 : Below w2.heap.size w2 w4 := ((Below.refl w2.heap.size w2).drew).trans (hb4.mono ((Below.refl w2.heap.size w2).drew).size)
                            clear HS
                            have HS : Hid (w4.cell? ⟨w.heap.size, 0, none⟩ = some (.slice (some ⟨b, off, none⟩) l.length ca) ∧ w4.cell? ⟨wr.heap.size, 0, none⟩ = some (.string yp)) := ⟨((q4).cell (p := ⟨w.heap.size, 0, none⟩) (by show w.heap.size < w2.heap.size; omega)).trans s4, ((q4).cell (p := ⟨wr.heap.size, 0, none⟩) (by show wr.heap.size < w2.heap.size; omega)).trans s0⟩
                            clear hb4
                            refine hK.out _ _ HS.out (fun hT => ?_)
                            clear hK K hT
                            try simp only [Act.put, List.setIfInBounds_toArray, List.set_cons_zero, List.set_cons_succ]
                            refine wpAnyH_ready (rs := [4, 8]) (by kernel_rfl) (by simp) (AllReadyH.cons rfl (fun K hK => ?_) (AllReadyH.cons rfl (fun K hK => ?_) AllReadyH.nil))
                            · skip
                              go_simp
                              refine (HTG2.out _ (q4)).mono ?_
                              rintro e w5 ⟨rfl, hb5⟩
                              have q5 : Below w2.heap.size w2 w5 := (q4).trans (hb5.mono (q4).size)
                              clear HS
                              have HS : Hid (w5.cell? ⟨w.heap.size, 0, none⟩ = some (.slice (some ⟨b, off, none⟩) l.length ca) ∧ w5.cell? ⟨wr.heap.size, 0, none⟩ = some (.string yp)) := ⟨((q5).cell (p := ⟨w.heap.size, 0, none⟩) (by show w.heap.size < w2.heap.size; omega)).trans s4, ((q5).cell (p := ⟨wr.heap.size, 0, none⟩) (by show wr.heap.size < w2.heap.size; omega)).trans s0⟩
                              clear hb5
                              refine hK.out _ _ HS.out (fun hT => ?_)
                              clear hK K hT
                              try simp only [Act.put, List.setIfInBounds_toArray, List.set_cons_zero, List.set_cons_succ]
                              refine held_take (i := 5) (v := .tuple #[.agg #[.string z.p, .int .i64 z.k, .string z.d, .int .i64 z.t], .bool zq]) rfl rfl (by kernel_rfl) (by kernel_rfl) (by kernel_rfl) (by kernel_rfl) (fun W hS => by go_simp) HS.out ?_
                              simp only [Act.put, List.setIfInBounds_toArray, List.set_cons_zero, List.set_cons_succ]
                              refine held_take (i := 6) (v := .agg #[.string z.p, .int .i64 z.k, .string z.d, .int .i64 z.t]) rfl rfl (by kernel_rfl) (by kernel_rfl) (by kernel_rfl) (by kernel_rfl) (fun W hS => by go_simp) HS.out ?_
                              simp only [Act.put, List.setIfInBounds_toArray, List.set_cons_zero, List.set_cons_succ]
                              refine held_take (i := 7) (v := .bool zq) rfl rfl (by kernel_rfl) (by kernel_rfl) (by kernel_rfl) (by kernel_rfl) (fun W hS => by go_simp) HS.out ?_
                              simp only [Act.put, List.setIfInBounds_toArray, List.set_cons_zero, List.set_cons_succ]
                              refine wpAnyH_ready (rs := [8]) (by kernel_rfl) (by simp) (AllReadyH.cons rfl (fun K hK => ?_) AllReadyH.nil)
                              go_simp
                              clear HS
                              have HS : Hid ((w5.alloc (.cells #[.string ⟨#[]⟩, .int .i64 0, .string ⟨#[]⟩, .int .i64 0] 34)).cell? ⟨w.heap.size, 0, none⟩ = some (.slice (some ⟨b, off, none⟩) l.length ca) ∧ (w5.alloc (.cells #[.string ⟨#[]⟩, .int .i64 0, .string ⟨#[]⟩, .int .i64 0] 34)).cell? ⟨wr.heap.size, 0, none⟩ = some (.string yp)) := ⟨(((q5.alloc q5.size (.cells #[.string ⟨#[]⟩, .int .i64 0, .string ⟨#[]⟩, .int .i64 0] 34))).cell (p := ⟨w.heap.size, 0, none⟩) (by show w.heap.size < w2.heap.size; omega)).trans s4, (((q5.alloc q5.size (.cells #[.string ⟨#[]⟩, .int .i64 0, .string ⟨#[]⟩, .int .i64 0] 34))).cell (p := ⟨wr.heap.size, 0, none⟩) (by show wr.heap.size < w2.heap.size; omega)).trans s0⟩
                              refine hK.out _ _ HS.out (fun hT => ?_)
                              clear hK K hT
                              try simp only [Act.put, List.setIfInBounds_toArray, List.set_cons_zero, List.set_cons_succ]
                              have HUL : Hid (w2.heap.size ≤ w5.heap.size) := q5.size
                              have hVU : Var (w5.alloc (.cells #[.string ⟨#[]⟩, .int .i64 0, .string ⟨#[]⟩, .int .i64 0] 34)) w5.heap.size #[.string ⟨#[]⟩, .int .i64 0, .string ⟨#[]⟩, .int .i64 0] 34 := Var.made w5 _ _
                              have v0 : (w5.alloc (.cells #[.string ⟨#[]⟩, .int .i64 0, .string ⟨#[]⟩, .int .i64 0] 34)).cell? ⟨w5.heap.size, 0, none⟩ = some (.string ⟨#[]⟩) := hVU.cell 0
                              have f0 : (w5.alloc (.cells #[.string ⟨#[]⟩, .int .i64 0, .string ⟨#[]⟩, .int .i64 0] 34)).frozen? ⟨w5.heap.size, 0, none⟩ = false := hVU.frozen 0
                              have v1 : (w5.alloc (.cells #[.string ⟨#[]⟩, .int .i64 0, .string ⟨#[]⟩, .int .i64 0] 34)).cell? ⟨w5.heap.size, 1, none⟩ = some (.int .i64 0) := hVU.cell 1
                              have f1 : (w5.alloc (.cells #[.string ⟨#[]⟩, .int .i64 0, .string ⟨#[]⟩, .int .i64 0] 34)).frozen? ⟨w5.heap.size, 1, none⟩ = false := hVU.frozen 1
                              have v2 : (w5.alloc (.cells #[.string ⟨#[]⟩, .int .i64 0, .string ⟨#[]⟩, .int .i64 0] 34)).cell? ⟨w5.heap.size, 2, none⟩ = some (.string ⟨#[]⟩) := hVU.cell 2
                              have f2 : (w5.alloc (.cells #[.string ⟨#[]⟩, .int .i64 0, .string ⟨#[]⟩, .int .i64 0] 34)).frozen? ⟨w5.heap.size, 2, none⟩ = false := hVU.frozen 2
                              have v3 : (w5.alloc (.cells #[.string ⟨#[]⟩, .int .i64 0, .string ⟨#[]⟩, .int .i64 0] 34)).cell? ⟨w5.heap.size, 3, none⟩ = some (.int .i64 0) := hVU.cell 3
                              have f3 : (w5.alloc (.cells #[.string ⟨#[]⟩, .int .i64 0, .string ⟨#[]⟩, .int .i64 0] 34)).frozen? ⟨w5.heap.size, 3, none⟩ = false := hVU.frozen 3
                              have q6 : Below w2.heap.size w2 (w5.alloc (.cells #[.string z.p, .int .i64 z.k, .string z.d, .int .i64 z.t] 34)) := q5.alloc q5.size _
                              have hVS := Var.made w5 #[.string z.p, .int .i64 z.k, .string z.d, .int .i64 z.t] 34
                              try simp only [List.setIfInBounds_toArray, List.set_cons_zero, List.set_cons_succ] at hVS
                              have vk : (w5.alloc (.cells #[.string z.p, .int .i64 z.k, .string z.d, .int .i64 z.t] 34)).cell? ⟨w5.heap.size, 1, none⟩ = some (.int .i64 z.k) := hVS.cell 1
                              refine wpAnyH_ready (rs := [9]) (by kernel_rfl) (by simp) (AllReadyH.cons rfl (fun K hK => ?_) AllReadyH.nil)
                              go_simp
                              clear HS
                              have HS : Hid ((w5.alloc (.cells #[.string z.p, .int .i64 z.k, .string z.d, .int .i64 z.t] 34)).cell? ⟨w.heap.size, 0, none⟩ = some (.slice (some ⟨b, off, none⟩) l.length ca) ∧ (w5.alloc (.cells #[.string z.p, .int .i64 z.k, .string z.d, .int .i64 z.t] 34)).cell? ⟨wr.heap.size, 0, none⟩ = some (.string yp)) := ⟨((q6).cell (p := ⟨w.heap.size, 0, none⟩) (by show w.heap.size < w2.heap.size; omega)).trans s4, ((q6).cell (p := ⟨wr.heap.size, 0, none⟩) (by show wr.heap.size < w2.heap.size; omega)).trans s0⟩
                              try clear hst
                              refine hK.out _ _ HS.out (fun hT => ?_)
                              clear hK K hT
                              try simp only [Act.put, List.setIfInBounds_toArray, List.set_cons_zero, List.set_cons_succ]
                              refine held_take (i := 10) (v := .bool zq) rfl rfl (by kernel_rfl) (by kernel_rfl) (by kernel_rfl) (by kernel_rfl) (fun W hS => by go_simp) HS.out ?_
                              simp only [Act.put, List.setIfInBounds_toArray, List.set_cons_zero, List.set_cons_succ]
                              refine wpAnyH_done (by kernel_rfl) ?_ _
                              simp only [NoPanic]
                              have r4 := HS.out.1
                              have q7 : Below w.heap.size w (w5.alloc (.cells #[.string z.p, .int .i64 z.k, .string z.d, .int .i64 z.t] 34)) := hBW2.trans (q6.mono hBW2.size)
                              have q8 : w.heap.size + 1 ≤ (w5.alloc (.cells #[.string z.p, .int .i64 z.k, .string z.d, .int .i64 z.t] 34)).heap.size := by have := q6.size; omega
                              clear v0 v1 v2 v3 f0 f1 f2 f3 hVU hVS HS q6
                              generalize (w5.alloc (.cells #[.string z.p, .int .i64 z.k, .string z.d, .int .i64 z.t] 34)) = W6 at *
                              cases zq with
                              | false =>
                                have HNE : Hid (treeB l = false) := HNB.out fun h => by have h4 := h.2.2.2; rw [HU1.out, HU2.out rfl] at h4; cases h4
                                clear HNB HGO
                                go_wp2
                                go_ret
                                exact ⟨by rw [HNE.out]; rfl, q7⟩
                              | true =>
                                by_cases hzk : z.k = 2
                                · have HNX := HGO.out HOK.out HN2.out HL0.out (by rw [HU1.out]; exact decide_eq_true hzk)
                                  have hzb : (z.k != 2) = false := by simpa using hzk
                                  clear HNB HGO hzk
                                  go_wp2
                                  go_roundw
                                  case rel => exact ⟨k + 1, by omega, by go_num, q7, q8, r4, HNX⟩
                                  case measure => simp [intOf]; omega
                                · have HNE : Hid (treeB l = false) := HNB.out fun h => by have h4 := h.2.2.2; rw [HU1.out] at h4; exact hzk (of_decide_eq_true h4)
                                  have hzb : (z.k != 2) = true := by simpa using hzk
                                  clear HNB HGO hzk
                                  go_wp2
                                  go_ret
                                  exact ⟨by rw [HNE.out]; rfl, q7⟩
                            · skip
                              go_simp
                              clear HS
                              have HS : Hid ((w4.alloc (.cells #[.string ⟨#[]⟩, .int .i64 0, .string ⟨#[]⟩, .int .i64 0] 34)).cell? ⟨w.heap.size, 0, none⟩ = some (.slice (some ⟨b, off, none⟩) l.length ca) ∧ (w4.alloc (.cells #[.string ⟨#[]⟩, .int .i64 0, .string ⟨#[]⟩, .int .i64 0] 34)).cell? ⟨wr.heap.size, 0, none⟩ = some (.string yp)) := ⟨(((q4.alloc q4.size (.cells #[.string ⟨#[]⟩, .int .i64 0, .string ⟨#[]⟩, .int .i64 0] 34))).cell (p := ⟨w.heap.size, 0, none⟩) (by show w.heap.size < w2.heap.size; omega)).trans s4, (((q4.alloc q4.size (.cells #[.string ⟨#[]⟩, .int .i64 0, .string ⟨#[]⟩, .int .i64 0] 34))).cell (p := ⟨wr.heap.size, 0, none⟩) (by show wr.heap.size < w2.heap.size; omega)).trans s0⟩
                              refine hK.out _ _ HS.out (fun hT => ?_)
                              clear hK K hT
                              try simp only [Act.put, List.setIfInBounds_toArray, List.set_cons_zero, List.set_cons_succ]
                              refine wpAnyH_ready (rs := [4]) (by kernel_rfl) (by simp) (AllReadyH.cons rfl (fun K hK => ?_) AllReadyH.nil)
                              go_simp
                              refine (HTG2.out _ ((q4.alloc q4.size (.cells #[.string ⟨#[]⟩, .int .i64 0, .string ⟨#[]⟩, .int .i64 0] 34)))).mono ?_
                              rintro e w5 ⟨rfl, hb5⟩
                              have q5 : Below w2.heap.size w2 w5 := ((q4.alloc q4.size (.cells #[.string ⟨#[]⟩, .int .i64 0, .string ⟨#[]⟩, .int .i64 0] 34))).trans (hb5.mono ((q4.alloc q4.size (.cells #[.string ⟨#[]⟩, .int .i64 0, .string ⟨#[]⟩, .int .i64 0] 34))).size)
                              clear HS
                              have HS : Hid (w5.cell? ⟨w.heap.size, 0, none⟩ = some (.slice (some ⟨b, off, none⟩) l.length ca) ∧ w5.cell? ⟨wr.heap.size, 0, none⟩ = some (.string yp)) := ⟨((q5).cell (p := ⟨w.heap.size, 0, none⟩) (by show w.heap.size < w2.heap.size; omega)).trans s4, ((q5).cell (p := ⟨wr.heap.size, 0, none⟩) (by show wr.heap.size < w2.heap.size; omega)).trans s0⟩
                              have hVM : Var w5 w4.heap.size #[.string ⟨#[]⟩, .int .i64 0, .string ⟨#[]⟩, .int .i64 0] 34 := (Var.made w4 _ _).new hb5
                              clear hb5
                              refine hK.out _ _ HS.out (fun hT => ?_)
                              clear hK K hT
                              try simp only [Act.put, List.setIfInBounds_toArray, List.set_cons_zero, List.set_cons_succ]
                              have HUL : Hid (w2.heap.size ≤ w4.heap.size) := q4.size
                              refine held_take (i := 5) (v := .tuple #[.agg #[.string z.p, .int .i64 z.k, .string z.d, .int .i64 z.t], .bool zq]) rfl rfl (by kernel_rfl) (by kernel_rfl) (by kernel_rfl) (by kernel_rfl) (fun W hS => by go_simp) HS.out ?_
                              simp only [Act.put, List.setIfInBounds_toArray, List.set_cons_zero, List.set_cons_succ]
                              refine held_take (i := 6) (v := .agg #[.string z.p, .int .i64 z.k, .string z.d, .int .i64 z.t]) rfl rfl (by kernel_rfl) (by kernel_rfl) (by kernel_rfl) (by kernel_rfl) (fun W hS => by go_simp) HS.out ?_
                              simp only [Act.put, List.setIfInBounds_toArray, List.set_cons_zero, List.set_cons_succ]
                              refine held_take (i := 7) (v := .bool zq) rfl rfl (by kernel_rfl) (by kernel_rfl) (by kernel_rfl) (by kernel_rfl) (fun W hS => by go_simp) HS.out ?_
                              simp only [Act.put, List.setIfInBounds_toArray, List.set_cons_zero, List.set_cons_succ]
                              have hVU : Var w5 w4.heap.size #[.string ⟨#[]⟩, .int .i64 0, .string ⟨#[]⟩, .int .i64 0] 34 := hVM
                              have v0 : w5.cell? ⟨w4.heap.size, 0, none⟩ = some (.string ⟨#[]⟩) := hVU.cell 0
                              have f0 : w5.frozen? ⟨w4.heap.size, 0, none⟩ = false := hVU.frozen 0
                              have v1 : w5.cell? ⟨w4.heap.size, 1, none⟩ = some (.int .i64 0) := hVU.cell 1
                              have f1 : w5.frozen? ⟨w4.heap.size, 1, none⟩ = false := hVU.frozen 1
                              have v2 : w5.cell? ⟨w4.heap.size, 2, none⟩ = some (.string ⟨#[]⟩) := hVU.cell 2
                              have f2 : w5.frozen? ⟨w4.heap.size, 2, none⟩ = false := hVU.frozen 2
                              have v3 : w5.cell? ⟨w4.heap.size, 3, none⟩ = some (.int .i64 0) := hVU.cell 3
                              have f3 : w5.frozen? ⟨w4.heap.size, 3, none⟩ = false := hVU.frozen 3
                              have hst : Only (fun j => w2.heap.size ≤ j) w5 ((((w5.setCell ⟨w4.heap.size, 0, none⟩ (.string z.p)).setCell ⟨w4.heap.size, 1, none⟩ (.int .i64 z.k)).setCell ⟨w4.heap.size, 2, none⟩ (.string z.d)).setCell ⟨w4.heap.size, 3, none⟩ (.int .i64 z.t)) := ((((Only.refl _ _).setCell (p := ⟨w4.heap.size, 0, none⟩) (HUL.out) _).setCell (p := ⟨w4.heap.size, 1, none⟩) (HUL.out) _).setCell (p := ⟨w4.heap.size, 2, none⟩) (HUL.out) _).setCell (p := ⟨w4.heap.size, 3, none⟩) (HUL.out) _
                              have q6 : Below w2.heap.size w2 ((((w5.setCell ⟨w4.heap.size, 0, none⟩ (.string z.p)).setCell ⟨w4.heap.size, 1, none⟩ (.int .i64 z.k)).setCell ⟨w4.heap.size, 2, none⟩ (.string z.d)).setCell ⟨w4.heap.size, 3, none⟩ (.int .i64 z.t)) := (q5).trans (hst.below (q5).size (fun j h => h))
                              have hVS := (((hVU.set 0 (.string z.p)).set 1 (.int .i64 z.k)).set 2 (.string z.d)).set 3 (.int .i64 z.t)
                              try simp only [List.setIfInBounds_toArray, List.set_cons_zero, List.set_cons_succ] at hVS
                              have vk : ((((w5.setCell ⟨w4.heap.size, 0, none⟩ (.string z.p)).setCell ⟨w4.heap.size, 1, none⟩ (.int .i64 z.k)).setCell ⟨w4.heap.size, 2, none⟩ (.string z.d)).setCell ⟨w4.heap.size, 3, none⟩ (.int .i64 z.t)).cell? ⟨w4.heap.size, 1, none⟩ = some (.int .i64 z.k) := hVS.cell 1
                              refine wpAnyH_ready (rs := [9]) (by kernel_rfl) (by simp) (AllReadyH.cons rfl (fun K hK => ?_) AllReadyH.nil)
                              go_simp
                              clear HS
                              have HS : Hid (((((w5.setCell ⟨w4.heap.size, 0, none⟩ (.string z.p)).setCell ⟨w4.heap.size, 1, none⟩ (.int .i64 z.k)).setCell ⟨w4.heap.size, 2, none⟩ (.string z.d)).setCell ⟨w4.heap.size, 3, none⟩ (.int .i64 z.t)).cell? ⟨w.heap.size, 0, none⟩ = some (.slice (some ⟨b, off, none⟩) l.length ca) ∧ ((((w5.setCell ⟨w4.heap.size, 0, none⟩ (.string z.p)).setCell ⟨w4.heap.size, 1, none⟩ (.int .i64 z.k)).setCell ⟨w4.heap.size, 2, none⟩ (.string z.d)).setCell ⟨w4.heap.size, 3, none⟩ (.int .i64 z.t)).cell? ⟨wr.heap.size, 0, none⟩ = some (.string yp)) := ⟨((q6).cell (p := ⟨w.heap.size, 0, none⟩) (by show w.heap.size < w2.heap.size; omega)).trans s4, ((q6).cell (p := ⟨wr.heap.size, 0, none⟩) (by show wr.heap.size < w2.heap.size; omega)).trans s0⟩
                              try clear hst
                              refine hK.out _ _ HS.out (fun hT => ?_)
                              clear hK K hT
                              try simp only [Act.put, List.setIfInBounds_toArray, List.set_cons_zero, List.set_cons_succ]
                              refine held_take (i := 10) (v := .bool zq) rfl rfl (by kernel_rfl) (by kernel_rfl) (by kernel_rfl) (by kernel_rfl) (fun W hS => by go_simp) HS.out ?_
                              simp only [Act.put, List.setIfInBounds_toArray, List.set_cons_zero, List.set_cons_succ]
                              refine wpAnyH_done (by kernel_rfl) ?_ _
                              simp only [NoPanic]
                              have r4 := HS.out.1
                              have q7 : Below w.heap.size w ((((w5.setCell ⟨w4.heap.size, 0, none⟩ (.string z.p)).setCell ⟨w4.heap.size, 1, none⟩ (.int .i64 z.k)).setCell ⟨w4.heap.size, 2, none⟩ (.string z.d)).setCell ⟨w4.heap.size, 3, none⟩ (.int .i64 z.t)) := hBW2.trans (q6.mono hBW2.size)
                              have q8 : w.heap.size + 1 ≤ ((((w5.setCell ⟨w4.heap.size, 0, none⟩ (.string z.p)).setCell ⟨w4.heap.size, 1, none⟩ (.int .i64 z.k)).setCell ⟨w4.heap.size, 2, none⟩ (.string z.d)).setCell ⟨w4.heap.size, 3, none⟩ (.int .i64 z.t)).heap.size := by have := q6.size; omega
                              clear v0 v1 v2 v3 f0 f1 f2 f3 hVU hVS HS q6
                              generalize ((((w5.setCell ⟨w4.heap.size, 0, none⟩ (.string z.p)).setCell ⟨w4.heap.size, 1, none⟩ (.int .i64 z.k)).setCell ⟨w4.heap.size, 2, none⟩ (.string z.d)).setCell ⟨w4.heap.size, 3, none⟩ (.int .i64 z.t)) = W6 at *
                              cases zq with
                              | false =>
                                have HNE : Hid (treeB l = false) := HNB.out fun h => by have h4 := h.2.2.2; rw [HU1.out, HU2.out rfl] at h4; cases h4
                                clear HNB HGO
                                go_wp2
                                go_ret
                                exact ⟨by rw [HNE.out]; rfl, q7⟩
                              | true =>
                                by_cases hzk : z.k = 2
                                · have HNX := HGO.out HOK.out HN2.out HL0.out (by rw [HU1.out]; exact decide_eq_true hzk)
                                  have hzb : (z.k != 2) = false := by simpa using hzk
                                  clear HNB HGO hzk
                                  go_wp2
                                  go_roundw
                                  case rel => exact ⟨k + 1, by omega, by go_num, q7, q8, r4, HNX⟩
                                  case measure => simp [intOf]; omega
                                · have HNE : Hid (treeB l = false) := HNB.out fun h => by have h4 := h.2.2.2; rw [HU1.out] at h4; exact hzk (of_decide_eq_true h4)
                                  have hzb : (z.k != 2) = true := by simpa using hzk
                                  clear HNB HGO hzk
                                  go_wp2
                                  go_ret
                                  exact ⟨by rw [HNE.out]; rfl, q7⟩
                          · skip
                            go_simp
                            clear HS
                            have HS : Hid ((w2.drew.alloc (.cells #[.string ⟨#[]⟩, .int .i64 0, .string ⟨#[]⟩, .int .i64 0] 34)).cell? ⟨w.heap.size, 0, none⟩ = some (.slice (some ⟨b, off, none⟩) l.length ca) ∧ (w2.drew.alloc (.cells #[.string ⟨#[]⟩, .int .i64 0, .string ⟨#[]⟩, .int .i64 0] 34)).cell? ⟨wr.heap.size, 0, none⟩ = some (.string yp)) := ⟨((((Below.refl w2.heap.size w2).drew.alloc (Nat.le_refl _) (.cells #[.string ⟨#[]⟩, .int .i64 0, .string ⟨#[]⟩, .int .i64 0] 34))).cell (p := ⟨w.heap.size, 0, none⟩) (by show w.heap.size < w2.heap.size; omega)).trans s4, ((((Below.refl w2.heap.size w2).drew.alloc (Nat.le_refl _) (.cells #[.string ⟨#[]⟩, .int .i64 0, .string ⟨#[]⟩, .int .i64 0] 34))).cell (p := ⟨wr.heap.size, 0, none⟩) (by show wr.heap.size < w2.heap.size; omega)).trans s0⟩
                            refine hK.out _ _ HS.out (fun hT => ?_)
                            clear hK K hT
                            try simp only [Act.put, List.setIfInBounds_toArray, List.set_cons_zero, List.set_cons_succ]
                            refine wpAnyH_ready (rs := [3]) (by kernel_rfl) (by simp) (AllReadyH.cons rfl (fun K hK => ?_) AllReadyH.nil)
                            go_simp
                            refine (HAB.out _).mono ?_
                            rintro e w4 ⟨rfl, hb4⟩
                            have q4 : Below w2.heap.size w2 w4 := (((Below.refl w2.heap.size w2).drew.alloc (Nat.le_refl _) (.cells #[.string ⟨#[]⟩, .int .i64 0, .string ⟨#[]⟩, .int .i64 0] 34))).trans (hb4.mono (((Below.refl w2.heap.size w2).drew.alloc (Nat.le_refl _) (.cells #[.string ⟨#[]⟩, .int .i64 0, .string ⟨#[]⟩, .int .i64 0] 34))).size)
                            clear HS
                            have HS : Hid (w4.cell? ⟨w.heap.size, 0, none⟩ = some (.slice (some ⟨b, off, none⟩) l.length ca) ∧ w4.cell? ⟨wr.heap.size, 0, none⟩ = some (.string yp)) := ⟨((q4).cell (p := ⟨w.heap.size, 0, none⟩) (by show w.heap.size < w2.heap.size; omega)).trans s4, ((q4).cell (p := ⟨wr.heap.size, 0, none⟩) (by show wr.heap.size < w2.heap.size; omega)).trans s0⟩
                            have hVN : Var w4 w2.heap.size #[.string ⟨#[]⟩, .int .i64 0, .string ⟨#[]⟩, .int .i64 0] 34 := ((Var.made w2 _ _).new (Below.refl _ _).drew).new hb4
                            clear hb4
                            refine hK.out _ _ HS.out (fun hT => ?_)
                            clear hK K hT
                            try simp only [Act.put, List.setIfInBounds_toArray, List.set_cons_zero, List.set_cons_succ]
                            refine wpAnyH_ready (rs := [4]) (by kernel_rfl) (by simp) (AllReadyH.cons rfl (fun K hK => ?_) AllReadyH.nil)
                            go_simp
                            refine (HTG2.out _ (q4)).mono ?_
                            rintro e w5 ⟨rfl, hb5⟩
                            have q5 : Below w2.heap.size w2 w5 := (q4).trans (hb5.mono (q4).size)
                            clear HS
                            have HS : Hid (w5.cell? ⟨w.heap.size, 0, none⟩ = some (.slice (some ⟨b, off, none⟩) l.length ca) ∧ w5.cell? ⟨wr.heap.size, 0, none⟩ = some (.string yp)) := ⟨((q5).cell (p := ⟨w.heap.size, 0, none⟩) (by show w.heap.size < w2.heap.size; omega)).trans s4, ((q5).cell (p := ⟨wr.heap.size, 0, none⟩) (by show wr.heap.size < w2.heap.size; omega)).trans s0⟩
                            have hVM : Var w5 w2.heap.size #[.string ⟨#[]⟩, .int .i64 0, .string ⟨#[]⟩, .int .i64 0] 34 := hVN.new hb5
                            clear hb5
                            refine hK.out _ _ HS.out (fun hT => ?_)
                            clear hK K hT
                            try simp only [Act.put, List.setIfInBounds_toArray, List.set_cons_zero, List.set_cons_succ]
                            have HUL : Hid (w2.heap.size ≤ w2.heap.size) := Nat.le_refl _
                            refine held_take (i := 5) (v := .tuple #[.agg #[.string z.p, .int .i64 z.k, .string z.d, .int .i64 z.t], .bool zq]) rfl rfl (by kernel_rfl) (by kernel_rfl) (by kernel_rfl) (by kernel_rfl) (fun W hS => by go_simp) HS.out ?_
                            simp only [Act.put, List.setIfInBounds_toArray, List.set_cons_zero, List.set_cons_succ]
                            refine held_take (i := 6) (v := .agg #[.string z.p, .int .i64 z.k, .string z.d, .int .i64 z.t]) rfl rfl (by kernel_rfl) (by kernel_rfl) (by kernel_rfl) (by kernel_rfl) (fun W hS => by go_simp) HS.out ?_
                            simp only [Act.put, List.setIfInBounds_toArray, List.set_cons_zero, List.set_cons_succ]
                            refine held_take (i := 7) (v := .bool zq) rfl rfl (by kernel_rfl) (by kernel_rfl) (by kernel_rfl) (by kernel_rfl) (fun W hS => by go_simp) HS.out ?_
                            simp only [Act.put, List.setIfInBounds_toArray, List.set_cons_zero, List.set_cons_succ]
                            have hVU : Var w5 w2.heap.size #[.string ⟨#[]⟩, .int .i64 0, .string ⟨#[]⟩, .int .i64 0] 34 := hVM
                            have v0 : w5.cell? ⟨w2.heap.size, 0, none⟩ = some (.string ⟨#[]⟩) := hVU.cell 0
                            have f0 : w5.frozen? ⟨w2.heap.size, 0, none⟩ = false := hVU.frozen 0
                            have v1 : w5.cell? ⟨w2.heap.size, 1, none⟩ = some (.int .i64 0) := hVU.cell 1
                            have f1 : w5.frozen? ⟨w2.heap.size, 1, none⟩ = false := hVU.frozen 1
                            have v2 : w5.cell? ⟨w2.heap.size, 2, none⟩ = some (.string ⟨#[]⟩) := hVU.cell 2
                            have f2 : w5.frozen? ⟨w2.heap.size, 2, none⟩ = false := hVU.frozen 2
                            have v3 : w5.cell? ⟨w2.heap.size, 3, none⟩ = some (.int .i64 0) := hVU.cell 3
                            have f3 : w5.frozen? ⟨w2.heap.size, 3, none⟩ = false := hVU.frozen 3
                            have hst : Only (fun j => w2.heap.size ≤ j) w5 ((((w5.setCell ⟨w2.heap.size, 0, none⟩ (.string z.p)).setCell ⟨w2.heap.size, 1, none⟩ (.int .i64 z.k)).setCell ⟨w2.heap.size, 2, none⟩ (.string z.d)).setCell ⟨w2.heap.size, 3, none⟩ (.int .i64 z.t)) := ((((Only.refl _ _).setCell (p := ⟨w2.heap.size, 0, none⟩) (HUL.out) _).setCell (p := ⟨w2.heap.size, 1, none⟩) (HUL.out) _).setCell (p := ⟨w2.heap.size, 2, none⟩) (HUL.out) _).setCell (p := ⟨w2.heap.size, 3, none⟩) (HUL.out) _
                            have q6 : Below w2.heap.size w2 ((((w5.setCell ⟨w2.heap.size, 0, none⟩ (.string z.p)).setCell ⟨w2.heap.size, 1, none⟩ (.int .i64 z.k)).setCell ⟨w2.heap.size, 2, none⟩ (.string z.d)).setCell ⟨w2.heap.size, 3, none⟩ (.int .i64 z.t)) := (q5).trans (hst.below (q5).size (fun j h => h))
                            have hVS := (((hVU.set 0 (.string z.p)).set 1 (.int .i64 z.k)).set 2 (.string z.d)).set 3 (.int .i64 z.t)
                            try simp only [List.setIfInBounds_toArray, List.set_cons_zero, List.set_cons_succ] at hVS
                            have vk : ((((w5.setCell ⟨w2.heap.size, 0, none⟩ (.string z.p)).setCell ⟨w2.heap.size, 1, none⟩ (.int .i64 z.k)).setCell ⟨w2.heap.size, 2, none⟩ (.string z.d)).setCell ⟨w2.heap.size, 3, none⟩ (.int .i64 z.t)).cell? ⟨w2.heap.size, 1, none⟩ = some (.int .i64 z.k) := hVS.cell 1
                            refine wpAnyH_ready (rs := [9]) (by kernel_rfl) (by simp) (AllReadyH.cons rfl (fun K hK => ?_) AllReadyH.nil)
                            go_simp
                            clear HS
                            have HS : Hid (((((w5.setCell ⟨w2.heap.size, 0, none⟩ (.string z.p)).setCell ⟨w2.heap.size, 1, none⟩ (.int .i64 z.k)).setCell ⟨w2.heap.size, 2, none⟩ (.string z.d)).setCell ⟨w2.heap.size, 3, none⟩ (.int .i64 z.t)).cell? ⟨w.heap.size, 0, none⟩ = some (.slice (some ⟨b, off, none⟩) l.length ca) ∧ ((((w5.setCell ⟨w2.heap.size, 0, none⟩ (.string z.p)).setCell ⟨w2.heap.size, 1, none⟩ (.int .i64 z.k)).setCell ⟨w2.heap.size, 2, none⟩ (.string z.d)).setCell ⟨w2.heap.size, 3, none⟩ (.int .i64 z.t)).cell? ⟨wr.heap.size, 0, none⟩ = some (.string yp)) := ⟨((q6).cell (p := ⟨w.heap.size, 0, none⟩) (by show w.heap.size < w2.heap.size; omega)).trans s4, ((q6).cell (p := ⟨wr.heap.size, 0, none⟩) (by show wr.heap.size < w2.heap.size; omega)).trans s0⟩
                            try clear hst
                            refine hK.out _ _ HS.out (fun hT => ?_)
                            clear hK K hT
                            try simp only [Act.put, List.setIfInBounds_toArray, List.set_cons_zero, List.set_cons_succ]
                            refine held_take (i := 10) (v := .bool zq) rfl rfl (by kernel_rfl) (by kernel_rfl) (by kernel_rfl) (by kernel_rfl) (fun W hS => by go_simp) HS.out ?_
                            simp only [Act.put, List.setIfInBounds_toArray, List.set_cons_zero, List.set_cons_succ]
                            refine wpAnyH_done (by kernel_rfl) ?_ _
                            simp only [NoPanic]
                            have r4 := HS.out.1
                            have q7 : Below w.heap.size w ((((w5.setCell ⟨w2.heap.size, 0, none⟩ (.string z.p)).setCell ⟨w2.heap.size, 1, none⟩ (.int .i64 z.k)).setCell ⟨w2.heap.size, 2, none⟩ (.string z.d)).setCell ⟨w2.heap.size, 3, none⟩ (.int .i64 z.t)) := hBW2.trans (q6.mono hBW2.size)
                            have q8 : w.heap.size + 1 ≤ ((((w5.setCell ⟨w2.heap.size, 0, none⟩ (.string z.p)).setCell ⟨w2.heap.size, 1, none⟩ (.int .i64 z.k)).setCell ⟨w2.heap.size, 2, none⟩ (.string z.d)).setCell ⟨w2.heap.size, 3, none⟩ (.int .i64 z.t)).heap.size := by have := q6.size; omega
                            clear v0 v1 v2 v3 f0 f1 f2 f3 hVU hVS HS q6
                            generalize ((((w5.setCell ⟨w2.heap.size, 0, none⟩ (.string z.p)).setCell ⟨w2.heap.size, 1, none⟩ (.int .i64 z.k)).setCell ⟨w2.heap.size, 2, none⟩ (.string z.d)).setCell ⟨w2.heap.size, 3, none⟩ (.int .i64 z.t)) = W6 at *
                            cases zq with
                            | false =>
                              have HNE : Hid (treeB l = false) := HNB.out fun h => by have h4 := h.2.2.2; rw [HU1.out, HU2.out rfl] at h4; cases h4
                              clear HNB HGO
                              go_wp2
                              go_ret
                              exact ⟨by rw [HNE.out]; rfl, q7⟩
                            | true =>
                              by_cases hzk : z.k = 2
                              · have HNX := HGO.out HOK.out HN2.out HL0.out (by rw [HU1.out]; exact decide_eq_true hzk)
                                have hzb : (z.k != 2) = false := by simpa using hzk
                                clear HNB HGO hzk
                                go_wp2
                                go_roundw
                                case rel => exact ⟨k + 1, by omega, by go_num, q7, q8, r4, HNX⟩
                                case measure => simp [intOf]; omega
                              · have HNE : Hid (treeB l = false) := HNB.out fun h => by have h4 := h.2.2.2; rw [HU1.out] at h4; exact hzk (of_decide_eq_true h4)
                                have hzb : (z.k != 2) = true := by simpa using hzk
                                clear HNB HGO hzk
                                go_wp2
                                go_ret
                                exact ⟨by rw [HNE.out]; rfl, q7⟩
                      · have HNE : Hid (treeB l = false) := HNB.out fun h => hd ((itOk_iff _).1 h.1).1
                        clear HNB HGO
                        have hk2 : yk = 2 := Classical.byContradiction fun h => hd fun h' => absurd h' h
                        subst hk2
                        by_cases hde : yd = ⟨#[]⟩
                        · subst hde
                          have hte : (yt != 0) = true := by
                            have : yt ≠ 0 := fun h => hd fun _ => ⟨rfl, h⟩
                            simpa using this
                          clear hd
                          go_wp2
                          go_ret
                          exact ⟨by rw [HNE.out]; rfl, hBW2⟩
                        · have hx : ¬ yd.toList = [] := by
                            intro e
                            rw [ByteArray.toList_eq] at e
                            exact hde (Go.WideShapes.bytes_inj (b := ⟨#[]⟩) e)
                          clear hd hde
                          go_wp2
                          go_ret
                          exact ⟨by rw [HNE.out]; rfl, hBW2⟩
                    · have HNT : Hid (∀ W, Calls Try.prog 25 #[.int .i64 yt, .int .i64 0, .int .i64 100000] W fun e w' => e = .returned (.bool false) ∧ w' = W) := fun W => by
                        have := inW yt 0 100000 W
                        rwa [show (decide ((0 : Int) ≤ yt) && decide (yt ≤ 100000)) = false by simp only [Bool.and_eq_false_iff, decide_eq_false_iff_not]; omega] at this
                      have HNE : Hid (treeB l = false) := HNB.out fun h => h6 ((itOk_iff _).1 h.1).2.2.2.2
                      clear HNB HGO
                      refine wp_region_noPanic ?_
                      refine wp_region_held_drew (S := (fun W => W.cell? ⟨wr.heap.size, 0, none⟩ = some (.string yp) ∧ W.cell? ⟨wr.heap.size, 1, none⟩ = some (.int .i64 yk) ∧ W.cell? ⟨wr.heap.size, 2, none⟩ = some (.string yd) ∧ W.cell? ⟨wr.heap.size, 3, none⟩ = some (.int .i64 yt) ∧ W.cell? ⟨w.heap.size, 0, none⟩ = some (.slice (some ⟨b, off, none⟩) l.length ca) ∧ W.cell? ⟨b, off + (k - 1) * 4, none⟩ = some (.string pp))) (by kernel_rfl) HSS.out (fun hT => ?_)
                      clear hT
                      refine held_take (i := 0) (v := .pointer (some ⟨wr.heap.size, 0, none⟩)) rfl rfl (by kernel_rfl) (by kernel_rfl) (by kernel_rfl) (by kernel_rfl) (fun W hS => by go_simp) HSS.out ?_
                      simp only [Act.put, List.setIfInBounds_toArray, List.set_cons_zero, List.set_cons_succ]
                      refine held_take (i := 1) (v := .string yp) rfl rfl (by kernel_rfl) (by kernel_rfl) (by kernel_rfl) (by kernel_rfl) (fun W hS => by obtain ⟨s0, s1, s2, s3, s4, s5⟩ := hS; go_simp) HSS.out ?_
                      simp only [Act.put, List.setIfInBounds_toArray, List.set_cons_zero, List.set_cons_succ]
                      refine wpAnyH_ready (rs := [2]) (by kernel_rfl) (by simp) (AllReadyH.cons rfl (fun K hK => ?_) AllReadyH.nil)
                      go_simp
                      refine (HPT.out _).mono ?_
                      rintro e w2 ⟨rfl, hb2⟩
                      have hB2 := (Below.refl _ (wr.alloc (.cells #[.string yp, .int .i64 yk, .string yd, .int .i64 yt] 34))).drew.trans hb2
                      clear HSS hb2
                      have HSS : Hid _ := HSF.out w2 hB2
                      refine hK.out _ _ HSS.out (fun hT => ?_)
                      clear hK K hT
                      try simp only [Act.put, List.setIfInBounds_toArray, List.set_cons_zero, List.set_cons_succ]
                      refine held_take (i := 3) (v := .bool false) rfl rfl (by kernel_rfl) (by kernel_rfl) (by kernel_rfl) (by kernel_rfl) (fun W hS => by go_simp) HSS.out ?_
                      simp only [Act.put, List.setIfInBounds_toArray, List.set_cons_zero, List.set_cons_succ]
                      refine held_take (i := 4) (v := .bool false) rfl rfl (by kernel_rfl) (by kernel_rfl) (by kernel_rfl) (by kernel_rfl) (fun W hS => by go_simp) HSS.out ?_
                      simp only [Act.put, List.setIfInBounds_toArray, List.set_cons_zero, List.set_cons_succ]
                      refine held_take (i := 5) (v := .pointer (some ⟨wr.heap.size, 0, none⟩)) rfl rfl (by kernel_rfl) (by kernel_rfl) (by kernel_rfl) (by kernel_rfl) (fun W hS => by go_simp) HSS.out ?_
                      simp only [Act.put, List.setIfInBounds_toArray, List.set_cons_zero, List.set_cons_succ]
                      refine held_take (i := 6) (v := .string yp) rfl rfl (by kernel_rfl) (by kernel_rfl) (by kernel_rfl) (by kernel_rfl) (fun W hS => by obtain ⟨s0, s1, s2, s3, s4, s5⟩ := hS; go_simp) HSS.out ?_
                      simp only [Act.put, List.setIfInBounds_toArray, List.set_cons_zero, List.set_cons_succ]
                      refine held_take (i := 7) (v := .bool false) rfl rfl (by kernel_rfl) (by kernel_rfl) (by kernel_rfl) (by kernel_rfl) (fun W hS => by go_simp) HSS.out ?_
                      simp only [Act.put, List.setIfInBounds_toArray, List.set_cons_zero, List.set_cons_succ]
                      refine held_take (i := 8) (v := .bool false) rfl rfl (by kernel_rfl) (by kernel_rfl) (by kernel_rfl) (by kernel_rfl) (fun W hS => by go_simp) HSS.out ?_
                      simp only [Act.put, List.setIfInBounds_toArray, List.set_cons_zero, List.set_cons_succ]
                      refine held_take (i := 9) (v := .bool false) rfl rfl (by kernel_rfl) (by kernel_rfl) (by kernel_rfl) (by kernel_rfl) (fun W hS => by go_simp) HSS.out ?_
                      simp only [Act.put, List.setIfInBounds_toArray, List.set_cons_zero, List.set_cons_succ]
                      refine held_take (i := 10) (v := .int .i64 (k : Nat)) rfl rfl (by kernel_rfl) (by kernel_rfl) (by kernel_rfl) (by kernel_rfl) (fun W hS => by go_simp) HSS.out ?_
                      simp only [Act.put, List.setIfInBounds_toArray, List.set_cons_zero, List.set_cons_succ]
                      refine held_take (i := 11) (v := .bool true) rfl rfl (by kernel_rfl) (by kernel_rfl) (by kernel_rfl) (by kernel_rfl) (fun W hS => by go_simp) HSS.out ?_
                      simp only [Act.put, List.setIfInBounds_toArray, List.set_cons_zero, List.set_cons_succ]
                      refine held_take (i := 12) (v := .bool true) rfl rfl (by kernel_rfl) (by kernel_rfl) (by kernel_rfl) (by kernel_rfl) (fun W hS => by go_simp) HSS.out ?_
                      simp only [Act.put, List.setIfInBounds_toArray, List.set_cons_zero, List.set_cons_succ]
                      refine held_take (i := 13) (v := .pointer (some ⟨wr.heap.size, 0, none⟩)) rfl rfl (by kernel_rfl) (by kernel_rfl) (by kernel_rfl) (by kernel_rfl) (fun W hS => by go_simp) HSS.out ?_
                      simp only [Act.put, List.setIfInBounds_toArray, List.set_cons_zero, List.set_cons_succ]
                      refine held_take (i := 14) (v := .string yp) rfl rfl (by kernel_rfl) (by kernel_rfl) (by kernel_rfl) (by kernel_rfl) (fun W hS => by obtain ⟨s0, s1, s2, s3, s4, s5⟩ := hS; go_simp) HSS.out ?_
                      simp only [Act.put, List.setIfInBounds_toArray, List.set_cons_zero, List.set_cons_succ]
                      refine held_take (i := 15) (v := .pointer (some ⟨w.heap.size, 0, none⟩)) rfl rfl (by kernel_rfl) (by kernel_rfl) (by kernel_rfl) (by kernel_rfl) (fun W hS => by go_simp) HSS.out ?_
                      simp only [Act.put, List.setIfInBounds_toArray, List.set_cons_zero, List.set_cons_succ]
                      refine held_take (i := 16) (v := .slice (some ⟨b, off, none⟩) l.length ca) rfl rfl (by kernel_rfl) (by kernel_rfl) (by kernel_rfl) (by kernel_rfl) (fun W hS => by obtain ⟨s0, s1, s2, s3, s4, s5⟩ := hS; go_simp) HSS.out ?_
                      simp only [Act.put, List.setIfInBounds_toArray, List.set_cons_zero, List.set_cons_succ]
                      refine held_take (i := 17) (v := .int .i64 (k : Nat)) rfl rfl (by kernel_rfl) (by kernel_rfl) (by kernel_rfl) (by kernel_rfl) (fun W hS => by go_simp) HSS.out ?_
                      simp only [Act.put, List.setIfInBounds_toArray, List.set_cons_zero, List.set_cons_succ]
                      refine held_take (i := 18) (v := .int .i64 ((k : Int) - 1)) rfl rfl (by kernel_rfl) (by kernel_rfl) (by kernel_rfl) (by kernel_rfl) (fun W hS => by go_simp) HSS.out ?_
                      simp only [Act.put, List.setIfInBounds_toArray, List.set_cons_zero, List.set_cons_succ]
                      refine held_take (i := 19) (v := .pointer (some ⟨b, off + (k - 1) * 4, none⟩)) rfl rfl (by kernel_rfl) (by kernel_rfl) (by kernel_rfl) (by kernel_rfl) (fun W hS => by go_simp) HSS.out ?_
                      simp only [Act.put, List.setIfInBounds_toArray, List.set_cons_zero, List.set_cons_succ]
                      refine held_take (i := 20) (v := .pointer (some ⟨b, off + (k - 1) * 4, none⟩)) rfl rfl (by kernel_rfl) (by kernel_rfl) (by kernel_rfl) (by kernel_rfl) (fun W hS => by go_simp) HSS.out ?_
                      simp only [Act.put, List.setIfInBounds_toArray, List.set_cons_zero, List.set_cons_succ]
                      refine held_take (i := 21) (v := .string pp) rfl rfl (by kernel_rfl) (by kernel_rfl) (by kernel_rfl) (by kernel_rfl) (fun W hS => by obtain ⟨s0, s1, s2, s3, s4, s5⟩ := hS; go_simp) HSS.out ?_
                      simp only [Act.put, List.setIfInBounds_toArray, List.set_cons_zero, List.set_cons_succ]
                      refine held_take (i := 22) (v := .bool false) rfl rfl (by kernel_rfl) (by kernel_rfl) (by kernel_rfl) (by kernel_rfl) (fun W hS => by go_simp) HSS.out ?_
                      simp only [Act.put, List.setIfInBounds_toArray, List.set_cons_zero, List.set_cons_succ]
                      refine held_take (i := 23) (v := .bool false) rfl rfl (by kernel_rfl) (by kernel_rfl) (by kernel_rfl) (by kernel_rfl) (fun W hS => by go_simp) HSS.out ?_
                      simp only [Act.put, List.setIfInBounds_toArray, List.set_cons_zero, List.set_cons_succ]
                      refine held_take (i := 24) (v := .bool false) rfl rfl (by kernel_rfl) (by kernel_rfl) (by kernel_rfl) (by kernel_rfl) (fun W hS => by go_simp) HSS.out ?_
                      simp only [Act.put, List.setIfInBounds_toArray, List.set_cons_zero, List.set_cons_succ]
                      refine held_take (i := 25) (v := .bool false) rfl rfl (by kernel_rfl) (by kernel_rfl) (by kernel_rfl) (by kernel_rfl) (fun W hS => by go_simp) HSS.out ?_
                      simp only [Act.put, List.setIfInBounds_toArray, List.set_cons_zero, List.set_cons_succ]
                      refine held_take (i := 26) (v := .pointer (some ⟨wr.heap.size, 1, none⟩)) rfl rfl (by kernel_rfl) (by kernel_rfl) (by kernel_rfl) (by kernel_rfl) (fun W hS => by go_simp) HSS.out ?_
                      simp only [Act.put, List.setIfInBounds_toArray, List.set_cons_zero, List.set_cons_succ]
                      refine held_take (i := 27) (v := .int .i64 yk) rfl rfl (by kernel_rfl) (by kernel_rfl) (by kernel_rfl) (by kernel_rfl) (fun W hS => by obtain ⟨s0, s1, s2, s3, s4, s5⟩ := hS; go_simp) HSS.out ?_
                      simp only [Act.put, List.setIfInBounds_toArray, List.set_cons_zero, List.set_cons_succ]
                      refine wpAnyH_ready (rs := [28]) (by kernel_rfl) (by simp) (AllReadyH.cons rfl (fun K hK => ?_) AllReadyH.nil)
                      go_simp
                      refine (HNK.out _).mono ?_
                      rintro e w3 ⟨rfl, hw3⟩
                      subst w3
                      refine hK.out _ _ HSS.out (fun hT => ?_)
                      clear hK K hT
                      try simp only [Act.put, List.setIfInBounds_toArray, List.set_cons_zero, List.set_cons_succ]
                      refine held_take (i := 29) (v := .bool false) rfl rfl (by kernel_rfl) (by kernel_rfl) (by kernel_rfl) (by kernel_rfl) (fun W hS => by go_simp) HSS.out ?_
                      simp only [Act.put, List.setIfInBounds_toArray, List.set_cons_zero, List.set_cons_succ]
                      refine held_take (i := 30) (v := .bool false) rfl rfl (by kernel_rfl) (by kernel_rfl) (by kernel_rfl) (by kernel_rfl) (fun W hS => by go_simp) HSS.out ?_
                      simp only [Act.put, List.setIfInBounds_toArray, List.set_cons_zero, List.set_cons_succ]
                      refine held_take (i := 31) (v := .bool false) rfl rfl (by kernel_rfl) (by kernel_rfl) (by kernel_rfl) (by kernel_rfl) (fun W hS => by go_simp) HSS.out ?_
                      simp only [Act.put, List.setIfInBounds_toArray, List.set_cons_zero, List.set_cons_succ]
                      refine held_take (i := 32) (v := .pointer (some ⟨wr.heap.size, 2, none⟩)) rfl rfl (by kernel_rfl) (by kernel_rfl) (by kernel_rfl) (by kernel_rfl) (fun W hS => by go_simp) HSS.out ?_
                      simp only [Act.put, List.setIfInBounds_toArray, List.set_cons_zero, List.set_cons_succ]
                      refine held_take (i := 33) (v := .string yd) rfl rfl (by kernel_rfl) (by kernel_rfl) (by kernel_rfl) (by kernel_rfl) (fun W hS => by obtain ⟨s0, s1, s2, s3, s4, s5⟩ := hS; go_simp) HSS.out ?_
                      simp only [Act.put, List.setIfInBounds_toArray, List.set_cons_zero, List.set_cons_succ]
                      refine held_take (i := 34) (v := .int .i64 (yd.size : Nat)) rfl rfl (by kernel_rfl) (by kernel_rfl) (by kernel_rfl) (by kernel_rfl) (fun W hS => by go_simp) HSS.out ?_
                      simp only [Act.put, List.setIfInBounds_toArray, List.set_cons_zero, List.set_cons_succ]
                      refine held_take (i := 35) (v := .bool false) rfl rfl (by kernel_rfl) (by kernel_rfl) (by kernel_rfl) (by kernel_rfl) (fun W hS => by go_simp) HSS.out ?_
                      simp only [Act.put, List.setIfInBounds_toArray, List.set_cons_zero, List.set_cons_succ]
                      refine held_take (i := 36) (v := .bool false) rfl rfl (by kernel_rfl) (by kernel_rfl) (by kernel_rfl) (by kernel_rfl) (fun W hS => by go_simp) HSS.out ?_
                      simp only [Act.put, List.setIfInBounds_toArray, List.set_cons_zero, List.set_cons_succ]
                      refine held_take (i := 37) (v := .bool false) rfl rfl (by kernel_rfl) (by kernel_rfl) (by kernel_rfl) (by kernel_rfl) (fun W hS => by go_simp) HSS.out ?_
                      simp only [Act.put, List.setIfInBounds_toArray, List.set_cons_zero, List.set_cons_succ]
                      refine held_take (i := 38) (v := .pointer (some ⟨wr.heap.size, 3, none⟩)) rfl rfl (by kernel_rfl) (by kernel_rfl) (by kernel_rfl) (by kernel_rfl) (fun W hS => by go_simp) HSS.out ?_
                      simp only [Act.put, List.setIfInBounds_toArray, List.set_cons_zero, List.set_cons_succ]
                      refine held_take (i := 39) (v := .int .i64 yt) rfl rfl (by kernel_rfl) (by kernel_rfl) (by kernel_rfl) (by kernel_rfl) (fun W hS => by obtain ⟨s0, s1, s2, s3, s4, s5⟩ := hS; go_simp) HSS.out ?_
                      simp only [Act.put, List.setIfInBounds_toArray, List.set_cons_zero, List.set_cons_succ]
                      refine wpAnyH_ready (rs := [40]) (by kernel_rfl) (by simp) (AllReadyH.cons rfl (fun K hK => ?_) AllReadyH.nil)
                      go_simp
                      refine (HNT.out _).mono ?_
                      rintro e w3 ⟨rfl, hw3⟩
                      subst w3
                      refine hK.out _ _ HSS.out (fun hT => ?_)
                      clear hK K hT
                      try simp only [Act.put, List.setIfInBounds_toArray, List.set_cons_zero, List.set_cons_succ]
                      refine held_take (i := 41) (v := .bool true) rfl rfl (by kernel_rfl) (by kernel_rfl) (by kernel_rfl) (by kernel_rfl) (fun W hS => by go_simp) HSS.out ?_
                      simp only [Act.put, List.setIfInBounds_toArray, List.set_cons_zero, List.set_cons_succ]
                      refine held_take (i := 42) (v := .bool true) rfl rfl (by kernel_rfl) (by kernel_rfl) (by kernel_rfl) (by kernel_rfl) (fun W hS => by go_simp) HSS.out ?_
                      simp only [Act.put, List.setIfInBounds_toArray, List.set_cons_zero, List.set_cons_succ]
                      refine wpAnyH_done (by kernel_rfl) ?_ _
                      simp only [NoPanic]
                      have hB3 := HBW.out.trans (hB2.mono HBW.out.size)
                      go_wp2
                      go_ret
                      exact ⟨by rw [HNE.out]; rfl, hB3⟩
                  · have h5i : (80 : Int) < (yd.size : Int) := by omega
                    have HNE : Hid (treeB l = false) := HNB.out fun h => h5 ((itOk_iff _).1 h.1).2.2.2.1
                    clear HNB HGO
                    refine wp_region_noPanic ?_
                    refine wp_region_held_drew (S := (fun W => W.cell? ⟨wr.heap.size, 0, none⟩ = some (.string yp) ∧ W.cell? ⟨wr.heap.size, 1, none⟩ = some (.int .i64 yk) ∧ W.cell? ⟨wr.heap.size, 2, none⟩ = some (.string yd) ∧ W.cell? ⟨wr.heap.size, 3, none⟩ = some (.int .i64 yt) ∧ W.cell? ⟨w.heap.size, 0, none⟩ = some (.slice (some ⟨b, off, none⟩) l.length ca) ∧ W.cell? ⟨b, off + (k - 1) * 4, none⟩ = some (.string pp))) (by kernel_rfl) HSS.out (fun hT => ?_)
                    clear hT
                    refine held_take (i := 0) (v := .pointer (some ⟨wr.heap.size, 0, none⟩)) rfl rfl (by kernel_rfl) (by kernel_rfl) (by kernel_rfl) (by kernel_rfl) (fun W hS => by go_simp) HSS.out ?_
                    simp only [Act.put, List.setIfInBounds_toArray, List.set_cons_zero, List.set_cons_succ]
                    refine held_take (i := 1) (v := .string yp) rfl rfl (by kernel_rfl) (by kernel_rfl) (by kernel_rfl) (by kernel_rfl) (fun W hS => by obtain ⟨s0, s1, s2, s3, s4, s5⟩ := hS; go_simp) HSS.out ?_
                    simp only [Act.put, List.setIfInBounds_toArray, List.set_cons_zero, List.set_cons_succ]
                    refine wpAnyH_ready (rs := [2]) (by kernel_rfl) (by simp) (AllReadyH.cons rfl (fun K hK => ?_) AllReadyH.nil)
                    go_simp
                    refine (HPT.out _).mono ?_
                    rintro e w2 ⟨rfl, hb2⟩
                    have hB2 := (Below.refl _ (wr.alloc (.cells #[.string yp, .int .i64 yk, .string yd, .int .i64 yt] 34))).drew.trans hb2
                    clear HSS hb2
                    have HSS : Hid _ := HSF.out w2 hB2
                    refine hK.out _ _ HSS.out (fun hT => ?_)
                    clear hK K hT
                    try simp only [Act.put, List.setIfInBounds_toArray, List.set_cons_zero, List.set_cons_succ]
                    refine held_take (i := 3) (v := .bool false) rfl rfl (by kernel_rfl) (by kernel_rfl) (by kernel_rfl) (by kernel_rfl) (fun W hS => by go_simp) HSS.out ?_
                    simp only [Act.put, List.setIfInBounds_toArray, List.set_cons_zero, List.set_cons_succ]
                    refine held_take (i := 4) (v := .bool false) rfl rfl (by kernel_rfl) (by kernel_rfl) (by kernel_rfl) (by kernel_rfl) (fun W hS => by go_simp) HSS.out ?_
                    simp only [Act.put, List.setIfInBounds_toArray, List.set_cons_zero, List.set_cons_succ]
                    refine held_take (i := 5) (v := .pointer (some ⟨wr.heap.size, 0, none⟩)) rfl rfl (by kernel_rfl) (by kernel_rfl) (by kernel_rfl) (by kernel_rfl) (fun W hS => by go_simp) HSS.out ?_
                    simp only [Act.put, List.setIfInBounds_toArray, List.set_cons_zero, List.set_cons_succ]
                    refine held_take (i := 6) (v := .string yp) rfl rfl (by kernel_rfl) (by kernel_rfl) (by kernel_rfl) (by kernel_rfl) (fun W hS => by obtain ⟨s0, s1, s2, s3, s4, s5⟩ := hS; go_simp) HSS.out ?_
                    simp only [Act.put, List.setIfInBounds_toArray, List.set_cons_zero, List.set_cons_succ]
                    refine held_take (i := 7) (v := .bool false) rfl rfl (by kernel_rfl) (by kernel_rfl) (by kernel_rfl) (by kernel_rfl) (fun W hS => by go_simp) HSS.out ?_
                    simp only [Act.put, List.setIfInBounds_toArray, List.set_cons_zero, List.set_cons_succ]
                    refine held_take (i := 8) (v := .bool false) rfl rfl (by kernel_rfl) (by kernel_rfl) (by kernel_rfl) (by kernel_rfl) (fun W hS => by go_simp) HSS.out ?_
                    simp only [Act.put, List.setIfInBounds_toArray, List.set_cons_zero, List.set_cons_succ]
                    refine held_take (i := 9) (v := .bool false) rfl rfl (by kernel_rfl) (by kernel_rfl) (by kernel_rfl) (by kernel_rfl) (fun W hS => by go_simp) HSS.out ?_
                    simp only [Act.put, List.setIfInBounds_toArray, List.set_cons_zero, List.set_cons_succ]
                    refine held_take (i := 10) (v := .int .i64 (k : Nat)) rfl rfl (by kernel_rfl) (by kernel_rfl) (by kernel_rfl) (by kernel_rfl) (fun W hS => by go_simp) HSS.out ?_
                    simp only [Act.put, List.setIfInBounds_toArray, List.set_cons_zero, List.set_cons_succ]
                    refine held_take (i := 11) (v := .bool true) rfl rfl (by kernel_rfl) (by kernel_rfl) (by kernel_rfl) (by kernel_rfl) (fun W hS => by go_simp) HSS.out ?_
                    simp only [Act.put, List.setIfInBounds_toArray, List.set_cons_zero, List.set_cons_succ]
                    refine held_take (i := 12) (v := .bool true) rfl rfl (by kernel_rfl) (by kernel_rfl) (by kernel_rfl) (by kernel_rfl) (fun W hS => by go_simp) HSS.out ?_
                    simp only [Act.put, List.setIfInBounds_toArray, List.set_cons_zero, List.set_cons_succ]
                    refine held_take (i := 13) (v := .pointer (some ⟨wr.heap.size, 0, none⟩)) rfl rfl (by kernel_rfl) (by kernel_rfl) (by kernel_rfl) (by kernel_rfl) (fun W hS => by go_simp) HSS.out ?_
                    simp only [Act.put, List.setIfInBounds_toArray, List.set_cons_zero, List.set_cons_succ]
                    refine held_take (i := 14) (v := .string yp) rfl rfl (by kernel_rfl) (by kernel_rfl) (by kernel_rfl) (by kernel_rfl) (fun W hS => by obtain ⟨s0, s1, s2, s3, s4, s5⟩ := hS; go_simp) HSS.out ?_
                    simp only [Act.put, List.setIfInBounds_toArray, List.set_cons_zero, List.set_cons_succ]
                    refine held_take (i := 15) (v := .pointer (some ⟨w.heap.size, 0, none⟩)) rfl rfl (by kernel_rfl) (by kernel_rfl) (by kernel_rfl) (by kernel_rfl) (fun W hS => by go_simp) HSS.out ?_
                    simp only [Act.put, List.setIfInBounds_toArray, List.set_cons_zero, List.set_cons_succ]
                    refine held_take (i := 16) (v := .slice (some ⟨b, off, none⟩) l.length ca) rfl rfl (by kernel_rfl) (by kernel_rfl) (by kernel_rfl) (by kernel_rfl) (fun W hS => by obtain ⟨s0, s1, s2, s3, s4, s5⟩ := hS; go_simp) HSS.out ?_
                    simp only [Act.put, List.setIfInBounds_toArray, List.set_cons_zero, List.set_cons_succ]
                    refine held_take (i := 17) (v := .int .i64 (k : Nat)) rfl rfl (by kernel_rfl) (by kernel_rfl) (by kernel_rfl) (by kernel_rfl) (fun W hS => by go_simp) HSS.out ?_
                    simp only [Act.put, List.setIfInBounds_toArray, List.set_cons_zero, List.set_cons_succ]
                    refine held_take (i := 18) (v := .int .i64 ((k : Int) - 1)) rfl rfl (by kernel_rfl) (by kernel_rfl) (by kernel_rfl) (by kernel_rfl) (fun W hS => by go_simp) HSS.out ?_
                    simp only [Act.put, List.setIfInBounds_toArray, List.set_cons_zero, List.set_cons_succ]
                    refine held_take (i := 19) (v := .pointer (some ⟨b, off + (k - 1) * 4, none⟩)) rfl rfl (by kernel_rfl) (by kernel_rfl) (by kernel_rfl) (by kernel_rfl) (fun W hS => by go_simp) HSS.out ?_
                    simp only [Act.put, List.setIfInBounds_toArray, List.set_cons_zero, List.set_cons_succ]
                    refine held_take (i := 20) (v := .pointer (some ⟨b, off + (k - 1) * 4, none⟩)) rfl rfl (by kernel_rfl) (by kernel_rfl) (by kernel_rfl) (by kernel_rfl) (fun W hS => by go_simp) HSS.out ?_
                    simp only [Act.put, List.setIfInBounds_toArray, List.set_cons_zero, List.set_cons_succ]
                    refine held_take (i := 21) (v := .string pp) rfl rfl (by kernel_rfl) (by kernel_rfl) (by kernel_rfl) (by kernel_rfl) (fun W hS => by obtain ⟨s0, s1, s2, s3, s4, s5⟩ := hS; go_simp) HSS.out ?_
                    simp only [Act.put, List.setIfInBounds_toArray, List.set_cons_zero, List.set_cons_succ]
                    refine held_take (i := 22) (v := .bool false) rfl rfl (by kernel_rfl) (by kernel_rfl) (by kernel_rfl) (by kernel_rfl) (fun W hS => by go_simp) HSS.out ?_
                    simp only [Act.put, List.setIfInBounds_toArray, List.set_cons_zero, List.set_cons_succ]
                    refine held_take (i := 23) (v := .bool false) rfl rfl (by kernel_rfl) (by kernel_rfl) (by kernel_rfl) (by kernel_rfl) (fun W hS => by go_simp) HSS.out ?_
                    simp only [Act.put, List.setIfInBounds_toArray, List.set_cons_zero, List.set_cons_succ]
                    refine held_take (i := 24) (v := .bool false) rfl rfl (by kernel_rfl) (by kernel_rfl) (by kernel_rfl) (by kernel_rfl) (fun W hS => by go_simp) HSS.out ?_
                    simp only [Act.put, List.setIfInBounds_toArray, List.set_cons_zero, List.set_cons_succ]
                    refine held_take (i := 25) (v := .bool false) rfl rfl (by kernel_rfl) (by kernel_rfl) (by kernel_rfl) (by kernel_rfl) (fun W hS => by go_simp) HSS.out ?_
                    simp only [Act.put, List.setIfInBounds_toArray, List.set_cons_zero, List.set_cons_succ]
                    refine held_take (i := 26) (v := .pointer (some ⟨wr.heap.size, 1, none⟩)) rfl rfl (by kernel_rfl) (by kernel_rfl) (by kernel_rfl) (by kernel_rfl) (fun W hS => by go_simp) HSS.out ?_
                    simp only [Act.put, List.setIfInBounds_toArray, List.set_cons_zero, List.set_cons_succ]
                    refine held_take (i := 27) (v := .int .i64 yk) rfl rfl (by kernel_rfl) (by kernel_rfl) (by kernel_rfl) (by kernel_rfl) (fun W hS => by obtain ⟨s0, s1, s2, s3, s4, s5⟩ := hS; go_simp) HSS.out ?_
                    simp only [Act.put, List.setIfInBounds_toArray, List.set_cons_zero, List.set_cons_succ]
                    refine wpAnyH_ready (rs := [28]) (by kernel_rfl) (by simp) (AllReadyH.cons rfl (fun K hK => ?_) AllReadyH.nil)
                    go_simp
                    refine (HNK.out _).mono ?_
                    rintro e w3 ⟨rfl, hw3⟩
                    subst w3
                    refine hK.out _ _ HSS.out (fun hT => ?_)
                    clear hK K hT
                    try simp only [Act.put, List.setIfInBounds_toArray, List.set_cons_zero, List.set_cons_succ]
                    refine held_take (i := 29) (v := .bool false) rfl rfl (by kernel_rfl) (by kernel_rfl) (by kernel_rfl) (by kernel_rfl) (fun W hS => by go_simp) HSS.out ?_
                    simp only [Act.put, List.setIfInBounds_toArray, List.set_cons_zero, List.set_cons_succ]
                    refine held_take (i := 30) (v := .bool false) rfl rfl (by kernel_rfl) (by kernel_rfl) (by kernel_rfl) (by kernel_rfl) (fun W hS => by go_simp) HSS.out ?_
                    simp only [Act.put, List.setIfInBounds_toArray, List.set_cons_zero, List.set_cons_succ]
                    refine held_take (i := 31) (v := .bool false) rfl rfl (by kernel_rfl) (by kernel_rfl) (by kernel_rfl) (by kernel_rfl) (fun W hS => by go_simp) HSS.out ?_
                    simp only [Act.put, List.setIfInBounds_toArray, List.set_cons_zero, List.set_cons_succ]
                    refine held_take (i := 32) (v := .pointer (some ⟨wr.heap.size, 2, none⟩)) rfl rfl (by kernel_rfl) (by kernel_rfl) (by kernel_rfl) (by kernel_rfl) (fun W hS => by go_simp) HSS.out ?_
                    simp only [Act.put, List.setIfInBounds_toArray, List.set_cons_zero, List.set_cons_succ]
                    refine held_take (i := 33) (v := .string yd) rfl rfl (by kernel_rfl) (by kernel_rfl) (by kernel_rfl) (by kernel_rfl) (fun W hS => by obtain ⟨s0, s1, s2, s3, s4, s5⟩ := hS; go_simp) HSS.out ?_
                    simp only [Act.put, List.setIfInBounds_toArray, List.set_cons_zero, List.set_cons_succ]
                    refine held_take (i := 34) (v := .int .i64 (yd.size : Nat)) rfl rfl (by kernel_rfl) (by kernel_rfl) (by kernel_rfl) (by kernel_rfl) (fun W hS => by go_simp) HSS.out ?_
                    simp only [Act.put, List.setIfInBounds_toArray, List.set_cons_zero, List.set_cons_succ]
                    refine held_take (i := 35) (v := .bool true) rfl rfl (by kernel_rfl) (by kernel_rfl) (by kernel_rfl) (by kernel_rfl) (fun W hS => by go_simp) HSS.out ?_
                    simp only [Act.put, List.setIfInBounds_toArray, List.set_cons_zero, List.set_cons_succ]
                    refine held_take (i := 36) (v := .bool true) rfl rfl (by kernel_rfl) (by kernel_rfl) (by kernel_rfl) (by kernel_rfl) (fun W hS => by go_simp) HSS.out ?_
                    simp only [Act.put, List.setIfInBounds_toArray, List.set_cons_zero, List.set_cons_succ]
                    refine held_take (i := 37) (v := .bool true) rfl rfl (by kernel_rfl) (by kernel_rfl) (by kernel_rfl) (by kernel_rfl) (fun W hS => by go_simp) HSS.out ?_
                    simp only [Act.put, List.setIfInBounds_toArray, List.set_cons_zero, List.set_cons_succ]
                    refine held_skip (i := 38) rfl rfl (by kernel_rfl) (by kernel_rfl) (by kernel_rfl) (by kernel_rfl) HSS.out ?_
                    simp only [Act.put, List.setIfInBounds_toArray, List.set_cons_zero, List.set_cons_succ]
                    refine held_skip (i := 39) rfl rfl (by kernel_rfl) (by kernel_rfl) (by kernel_rfl) (by kernel_rfl) HSS.out ?_
                    simp only [Act.put, List.setIfInBounds_toArray, List.set_cons_zero, List.set_cons_succ]
                    refine held_skip (i := 40) rfl rfl (by kernel_rfl) (by kernel_rfl) (by kernel_rfl) (by kernel_rfl) HSS.out ?_
                    simp only [Act.put, List.setIfInBounds_toArray, List.set_cons_zero, List.set_cons_succ]
                    refine held_skip (i := 41) rfl rfl (by kernel_rfl) (by kernel_rfl) (by kernel_rfl) (by kernel_rfl) HSS.out ?_
                    simp only [Act.put, List.setIfInBounds_toArray, List.set_cons_zero, List.set_cons_succ]
                    refine held_take (i := 42) (v := .bool true) rfl rfl (by kernel_rfl) (by kernel_rfl) (by kernel_rfl) (by kernel_rfl) (fun W hS => by go_simp) HSS.out ?_
                    simp only [Act.put, List.setIfInBounds_toArray, List.set_cons_zero, List.set_cons_succ]
                    refine wpAnyH_done (by kernel_rfl) ?_ _
                    simp only [NoPanic]
                    have hB3 := HBW.out.trans (hB2.mono HBW.out.size)
                    go_wp2
                    go_ret
                    exact ⟨by rw [HNE.out]; rfl, hB3⟩
                · have HNK : Hid (∀ W, Calls Try.prog 25 #[.int .i64 yk, .int .i64 1, .int .i64 3] W fun e w' => e = .returned (.bool false) ∧ w' = W) := fun W => by
                    have := inW yk 1 3 W
                    rwa [show (decide ((1 : Int) ≤ yk) && decide (yk ≤ 3)) = false by simp only [Bool.and_eq_false_iff, decide_eq_false_iff_not]; omega] at this
                  have HNE : Hid (treeB l = false) := HNB.out fun h => h4 ((itOk_iff _).1 h.1).2.2.1
                  clear HNB HGO
                  refine wp_region_noPanic ?_
                  refine wp_region_held_drew (S := (fun W => W.cell? ⟨wr.heap.size, 0, none⟩ = some (.string yp) ∧ W.cell? ⟨wr.heap.size, 1, none⟩ = some (.int .i64 yk) ∧ W.cell? ⟨wr.heap.size, 2, none⟩ = some (.string yd) ∧ W.cell? ⟨wr.heap.size, 3, none⟩ = some (.int .i64 yt) ∧ W.cell? ⟨w.heap.size, 0, none⟩ = some (.slice (some ⟨b, off, none⟩) l.length ca) ∧ W.cell? ⟨b, off + (k - 1) * 4, none⟩ = some (.string pp))) (by kernel_rfl) HSS.out (fun hT => ?_)
                  clear hT
                  refine held_take (i := 0) (v := .pointer (some ⟨wr.heap.size, 0, none⟩)) rfl rfl (by kernel_rfl) (by kernel_rfl) (by kernel_rfl) (by kernel_rfl) (fun W hS => by go_simp) HSS.out ?_
                  simp only [Act.put, List.setIfInBounds_toArray, List.set_cons_zero, List.set_cons_succ]
                  refine held_take (i := 1) (v := .string yp) rfl rfl (by kernel_rfl) (by kernel_rfl) (by kernel_rfl) (by kernel_rfl) (fun W hS => by obtain ⟨s0, s1, s2, s3, s4, s5⟩ := hS; go_simp) HSS.out ?_
                  simp only [Act.put, List.setIfInBounds_toArray, List.set_cons_zero, List.set_cons_succ]
                  refine wpAnyH_ready (rs := [2]) (by kernel_rfl) (by simp) (AllReadyH.cons rfl (fun K hK => ?_) AllReadyH.nil)
                  go_simp
                  refine (HPT.out _).mono ?_
                  rintro e w2 ⟨rfl, hb2⟩
                  have hB2 := (Below.refl _ (wr.alloc (.cells #[.string yp, .int .i64 yk, .string yd, .int .i64 yt] 34))).drew.trans hb2
                  clear HSS hb2
                  have HSS : Hid _ := HSF.out w2 hB2
                  refine hK.out _ _ HSS.out (fun hT => ?_)
                  clear hK K hT
                  try simp only [Act.put, List.setIfInBounds_toArray, List.set_cons_zero, List.set_cons_succ]
                  refine held_take (i := 3) (v := .bool false) rfl rfl (by kernel_rfl) (by kernel_rfl) (by kernel_rfl) (by kernel_rfl) (fun W hS => by go_simp) HSS.out ?_
                  simp only [Act.put, List.setIfInBounds_toArray, List.set_cons_zero, List.set_cons_succ]
                  refine held_take (i := 4) (v := .bool false) rfl rfl (by kernel_rfl) (by kernel_rfl) (by kernel_rfl) (by kernel_rfl) (fun W hS => by go_simp) HSS.out ?_
                  simp only [Act.put, List.setIfInBounds_toArray, List.set_cons_zero, List.set_cons_succ]
                  refine held_take (i := 5) (v := .pointer (some ⟨wr.heap.size, 0, none⟩)) rfl rfl (by kernel_rfl) (by kernel_rfl) (by kernel_rfl) (by kernel_rfl) (fun W hS => by go_simp) HSS.out ?_
                  simp only [Act.put, List.setIfInBounds_toArray, List.set_cons_zero, List.set_cons_succ]
                  refine held_take (i := 6) (v := .string yp) rfl rfl (by kernel_rfl) (by kernel_rfl) (by kernel_rfl) (by kernel_rfl) (fun W hS => by obtain ⟨s0, s1, s2, s3, s4, s5⟩ := hS; go_simp) HSS.out ?_
                  simp only [Act.put, List.setIfInBounds_toArray, List.set_cons_zero, List.set_cons_succ]
                  refine held_take (i := 7) (v := .bool false) rfl rfl (by kernel_rfl) (by kernel_rfl) (by kernel_rfl) (by kernel_rfl) (fun W hS => by go_simp) HSS.out ?_
                  simp only [Act.put, List.setIfInBounds_toArray, List.set_cons_zero, List.set_cons_succ]
                  refine held_take (i := 8) (v := .bool false) rfl rfl (by kernel_rfl) (by kernel_rfl) (by kernel_rfl) (by kernel_rfl) (fun W hS => by go_simp) HSS.out ?_
                  simp only [Act.put, List.setIfInBounds_toArray, List.set_cons_zero, List.set_cons_succ]
                  refine held_take (i := 9) (v := .bool false) rfl rfl (by kernel_rfl) (by kernel_rfl) (by kernel_rfl) (by kernel_rfl) (fun W hS => by go_simp) HSS.out ?_
                  simp only [Act.put, List.setIfInBounds_toArray, List.set_cons_zero, List.set_cons_succ]
                  refine held_take (i := 10) (v := .int .i64 (k : Nat)) rfl rfl (by kernel_rfl) (by kernel_rfl) (by kernel_rfl) (by kernel_rfl) (fun W hS => by go_simp) HSS.out ?_
                  simp only [Act.put, List.setIfInBounds_toArray, List.set_cons_zero, List.set_cons_succ]
                  refine held_take (i := 11) (v := .bool true) rfl rfl (by kernel_rfl) (by kernel_rfl) (by kernel_rfl) (by kernel_rfl) (fun W hS => by go_simp) HSS.out ?_
                  simp only [Act.put, List.setIfInBounds_toArray, List.set_cons_zero, List.set_cons_succ]
                  refine held_take (i := 12) (v := .bool true) rfl rfl (by kernel_rfl) (by kernel_rfl) (by kernel_rfl) (by kernel_rfl) (fun W hS => by go_simp) HSS.out ?_
                  simp only [Act.put, List.setIfInBounds_toArray, List.set_cons_zero, List.set_cons_succ]
                  refine held_take (i := 13) (v := .pointer (some ⟨wr.heap.size, 0, none⟩)) rfl rfl (by kernel_rfl) (by kernel_rfl) (by kernel_rfl) (by kernel_rfl) (fun W hS => by go_simp) HSS.out ?_
                  simp only [Act.put, List.setIfInBounds_toArray, List.set_cons_zero, List.set_cons_succ]
                  refine held_take (i := 14) (v := .string yp) rfl rfl (by kernel_rfl) (by kernel_rfl) (by kernel_rfl) (by kernel_rfl) (fun W hS => by obtain ⟨s0, s1, s2, s3, s4, s5⟩ := hS; go_simp) HSS.out ?_
                  simp only [Act.put, List.setIfInBounds_toArray, List.set_cons_zero, List.set_cons_succ]
                  refine held_take (i := 15) (v := .pointer (some ⟨w.heap.size, 0, none⟩)) rfl rfl (by kernel_rfl) (by kernel_rfl) (by kernel_rfl) (by kernel_rfl) (fun W hS => by go_simp) HSS.out ?_
                  simp only [Act.put, List.setIfInBounds_toArray, List.set_cons_zero, List.set_cons_succ]
                  refine held_take (i := 16) (v := .slice (some ⟨b, off, none⟩) l.length ca) rfl rfl (by kernel_rfl) (by kernel_rfl) (by kernel_rfl) (by kernel_rfl) (fun W hS => by obtain ⟨s0, s1, s2, s3, s4, s5⟩ := hS; go_simp) HSS.out ?_
                  simp only [Act.put, List.setIfInBounds_toArray, List.set_cons_zero, List.set_cons_succ]
                  refine held_take (i := 17) (v := .int .i64 (k : Nat)) rfl rfl (by kernel_rfl) (by kernel_rfl) (by kernel_rfl) (by kernel_rfl) (fun W hS => by go_simp) HSS.out ?_
                  simp only [Act.put, List.setIfInBounds_toArray, List.set_cons_zero, List.set_cons_succ]
                  refine held_take (i := 18) (v := .int .i64 ((k : Int) - 1)) rfl rfl (by kernel_rfl) (by kernel_rfl) (by kernel_rfl) (by kernel_rfl) (fun W hS => by go_simp) HSS.out ?_
                  simp only [Act.put, List.setIfInBounds_toArray, List.set_cons_zero, List.set_cons_succ]
                  refine held_take (i := 19) (v := .pointer (some ⟨b, off + (k - 1) * 4, none⟩)) rfl rfl (by kernel_rfl) (by kernel_rfl) (by kernel_rfl) (by kernel_rfl) (fun W hS => by go_simp) HSS.out ?_
                  simp only [Act.put, List.setIfInBounds_toArray, List.set_cons_zero, List.set_cons_succ]
                  refine held_take (i := 20) (v := .pointer (some ⟨b, off + (k - 1) * 4, none⟩)) rfl rfl (by kernel_rfl) (by kernel_rfl) (by kernel_rfl) (by kernel_rfl) (fun W hS => by go_simp) HSS.out ?_
                  simp only [Act.put, List.setIfInBounds_toArray, List.set_cons_zero, List.set_cons_succ]
                  refine held_take (i := 21) (v := .string pp) rfl rfl (by kernel_rfl) (by kernel_rfl) (by kernel_rfl) (by kernel_rfl) (fun W hS => by obtain ⟨s0, s1, s2, s3, s4, s5⟩ := hS; go_simp) HSS.out ?_
                  simp only [Act.put, List.setIfInBounds_toArray, List.set_cons_zero, List.set_cons_succ]
                  refine held_take (i := 22) (v := .bool false) rfl rfl (by kernel_rfl) (by kernel_rfl) (by kernel_rfl) (by kernel_rfl) (fun W hS => by go_simp) HSS.out ?_
                  simp only [Act.put, List.setIfInBounds_toArray, List.set_cons_zero, List.set_cons_succ]
                  refine held_take (i := 23) (v := .bool false) rfl rfl (by kernel_rfl) (by kernel_rfl) (by kernel_rfl) (by kernel_rfl) (fun W hS => by go_simp) HSS.out ?_
                  simp only [Act.put, List.setIfInBounds_toArray, List.set_cons_zero, List.set_cons_succ]
                  refine held_take (i := 24) (v := .bool false) rfl rfl (by kernel_rfl) (by kernel_rfl) (by kernel_rfl) (by kernel_rfl) (fun W hS => by go_simp) HSS.out ?_
                  simp only [Act.put, List.setIfInBounds_toArray, List.set_cons_zero, List.set_cons_succ]
                  refine held_take (i := 25) (v := .bool false) rfl rfl (by kernel_rfl) (by kernel_rfl) (by kernel_rfl) (by kernel_rfl) (fun W hS => by go_simp) HSS.out ?_
                  simp only [Act.put, List.setIfInBounds_toArray, List.set_cons_zero, List.set_cons_succ]
                  refine held_take (i := 26) (v := .pointer (some ⟨wr.heap.size, 1, none⟩)) rfl rfl (by kernel_rfl) (by kernel_rfl) (by kernel_rfl) (by kernel_rfl) (fun W hS => by go_simp) HSS.out ?_
                  simp only [Act.put, List.setIfInBounds_toArray, List.set_cons_zero, List.set_cons_succ]
                  refine held_take (i := 27) (v := .int .i64 yk) rfl rfl (by kernel_rfl) (by kernel_rfl) (by kernel_rfl) (by kernel_rfl) (fun W hS => by obtain ⟨s0, s1, s2, s3, s4, s5⟩ := hS; go_simp) HSS.out ?_
                  simp only [Act.put, List.setIfInBounds_toArray, List.set_cons_zero, List.set_cons_succ]
                  refine wpAnyH_ready (rs := [28]) (by kernel_rfl) (by simp) (AllReadyH.cons rfl (fun K hK => ?_) AllReadyH.nil)
                  go_simp
                  refine (HNK.out _).mono ?_
                  rintro e w3 ⟨rfl, hw3⟩
                  subst w3
                  refine hK.out _ _ HSS.out (fun hT => ?_)
                  clear hK K hT
                  try simp only [Act.put, List.setIfInBounds_toArray, List.set_cons_zero, List.set_cons_succ]
                  refine held_take (i := 29) (v := .bool true) rfl rfl (by kernel_rfl) (by kernel_rfl) (by kernel_rfl) (by kernel_rfl) (fun W hS => by go_simp) HSS.out ?_
                  simp only [Act.put, List.setIfInBounds_toArray, List.set_cons_zero, List.set_cons_succ]
                  refine held_take (i := 30) (v := .bool true) rfl rfl (by kernel_rfl) (by kernel_rfl) (by kernel_rfl) (by kernel_rfl) (fun W hS => by go_simp) HSS.out ?_
                  simp only [Act.put, List.setIfInBounds_toArray, List.set_cons_zero, List.set_cons_succ]
                  refine held_take (i := 31) (v := .bool true) rfl rfl (by kernel_rfl) (by kernel_rfl) (by kernel_rfl) (by kernel_rfl) (fun W hS => by go_simp) HSS.out ?_
                  simp only [Act.put, List.setIfInBounds_toArray, List.set_cons_zero, List.set_cons_succ]
                  refine held_skip (i := 32) rfl rfl (by kernel_rfl) (by kernel_rfl) (by kernel_rfl) (by kernel_rfl) HSS.out ?_
                  simp only [Act.put, List.setIfInBounds_toArray, List.set_cons_zero, List.set_cons_succ]
                  refine held_skip (i := 33) rfl rfl (by kernel_rfl) (by kernel_rfl) (by kernel_rfl) (by kernel_rfl) HSS.out ?_
                  simp only [Act.put, List.setIfInBounds_toArray, List.set_cons_zero, List.set_cons_succ]
                  refine held_skip (i := 34) rfl rfl (by kernel_rfl) (by kernel_rfl) (by kernel_rfl) (by kernel_rfl) HSS.out ?_
                  simp only [Act.put, List.setIfInBounds_toArray, List.set_cons_zero, List.set_cons_succ]
                  refine held_skip (i := 35) rfl rfl (by kernel_rfl) (by kernel_rfl) (by kernel_rfl) (by kernel_rfl) HSS.out ?_
                  simp only [Act.put, List.setIfInBounds_toArray, List.set_cons_zero, List.set_cons_succ]
                  refine held_take (i := 36) (v := .bool true) rfl rfl (by kernel_rfl) (by kernel_rfl) (by kernel_rfl) (by kernel_rfl) (fun W hS => by go_simp) HSS.out ?_
                  simp only [Act.put, List.setIfInBounds_toArray, List.set_cons_zero, List.set_cons_succ]
                  refine held_take (i := 37) (v := .bool true) rfl rfl (by kernel_rfl) (by kernel_rfl) (by kernel_rfl) (by kernel_rfl) (fun W hS => by go_simp) HSS.out ?_
                  simp only [Act.put, List.setIfInBounds_toArray, List.set_cons_zero, List.set_cons_succ]
                  refine held_skip (i := 38) rfl rfl (by kernel_rfl) (by kernel_rfl) (by kernel_rfl) (by kernel_rfl) HSS.out ?_
                  simp only [Act.put, List.setIfInBounds_toArray, List.set_cons_zero, List.set_cons_succ]
                  refine held_skip (i := 39) rfl rfl (by kernel_rfl) (by kernel_rfl) (by kernel_rfl) (by kernel_rfl) HSS.out ?_
                  simp only [Act.put, List.setIfInBounds_toArray, List.set_cons_zero, List.set_cons_succ]
                  refine held_skip (i := 40) rfl rfl (by kernel_rfl) (by kernel_rfl) (by kernel_rfl) (by kernel_rfl) HSS.out ?_
                  simp only [Act.put, List.setIfInBounds_toArray, List.set_cons_zero, List.set_cons_succ]
                  refine held_skip (i := 41) rfl rfl (by kernel_rfl) (by kernel_rfl) (by kernel_rfl) (by kernel_rfl) HSS.out ?_
                  simp only [Act.put, List.setIfInBounds_toArray, List.set_cons_zero, List.set_cons_succ]
                  refine held_take (i := 42) (v := .bool true) rfl rfl (by kernel_rfl) (by kernel_rfl) (by kernel_rfl) (by kernel_rfl) (fun W hS => by go_simp) HSS.out ?_
                  simp only [Act.put, List.setIfInBounds_toArray, List.set_cons_zero, List.set_cons_succ]
                  refine wpAnyH_done (by kernel_rfl) ?_ _
                  simp only [NoPanic]
                  have hB3 := HBW.out.trans (hB2.mono HBW.out.size)
                  go_wp2
                  go_ret
                  exact ⟨by rw [HNE.out]; rfl, hB3⟩
              · have hle : (Op.bytesLess yp.toList pp.toList || yp.toList == pp.toList) = true := by
                  rcases lessS_total yp pp with h | h | h
                  · rw [show Op.bytesLess yp.toList pp.toList = true from h]; rfl
                  · subst h; simp
                  · exact absurd h hlt2
                have hlt3 : lessS pp yp = false := by simpa using hlt2
                go_upto_region 7 with fail
                have HNE : Hid (treeB l = false) := HNB.out fun h => (by have := h.2.2.1 hk0; rw [HPP.out, hlt3] at this; cases this)
                clear HNB HGO
                refine wp_region_noPanic ?_
                refine wp_region_held_drew (S := (fun W => W.cell? ⟨wr.heap.size, 0, none⟩ = some (.string yp) ∧ W.cell? ⟨wr.heap.size, 1, none⟩ = some (.int .i64 yk) ∧ W.cell? ⟨wr.heap.size, 2, none⟩ = some (.string yd) ∧ W.cell? ⟨wr.heap.size, 3, none⟩ = some (.int .i64 yt) ∧ W.cell? ⟨w.heap.size, 0, none⟩ = some (.slice (some ⟨b, off, none⟩) l.length ca) ∧ W.cell? ⟨b, off + (k - 1) * 4, none⟩ = some (.string pp))) (by kernel_rfl) HSS.out (fun hT => ?_)
                clear hT
                refine held_take (i := 0) (v := .pointer (some ⟨wr.heap.size, 0, none⟩)) rfl rfl (by kernel_rfl) (by kernel_rfl) (by kernel_rfl) (by kernel_rfl) (fun W hS => by go_simp) HSS.out ?_
                simp only [Act.put, List.setIfInBounds_toArray, List.set_cons_zero, List.set_cons_succ]
                refine held_take (i := 1) (v := .string yp) rfl rfl (by kernel_rfl) (by kernel_rfl) (by kernel_rfl) (by kernel_rfl) (fun W hS => by obtain ⟨s0, s1, s2, s3, s4, s5⟩ := hS; go_simp) HSS.out ?_
                simp only [Act.put, List.setIfInBounds_toArray, List.set_cons_zero, List.set_cons_succ]
                refine wpAnyH_ready (rs := [2]) (by kernel_rfl) (by simp) (AllReadyH.cons rfl (fun K hK => ?_) AllReadyH.nil)
                go_simp
                refine (HPT.out _).mono ?_
                rintro e w2 ⟨rfl, hb2⟩
                have hB2 := (Below.refl _ (wr.alloc (.cells #[.string yp, .int .i64 yk, .string yd, .int .i64 yt] 34))).drew.trans hb2
                clear HSS hb2
                have HSS : Hid _ := HSF.out w2 hB2
                refine hK.out _ _ HSS.out (fun hT => ?_)
                clear hK K hT
                try simp only [Act.put, List.setIfInBounds_toArray, List.set_cons_zero, List.set_cons_succ]
                refine held_take (i := 3) (v := .bool false) rfl rfl (by kernel_rfl) (by kernel_rfl) (by kernel_rfl) (by kernel_rfl) (fun W hS => by go_simp) HSS.out ?_
                simp only [Act.put, List.setIfInBounds_toArray, List.set_cons_zero, List.set_cons_succ]
                refine held_take (i := 4) (v := .bool false) rfl rfl (by kernel_rfl) (by kernel_rfl) (by kernel_rfl) (by kernel_rfl) (fun W hS => by go_simp) HSS.out ?_
                simp only [Act.put, List.setIfInBounds_toArray, List.set_cons_zero, List.set_cons_succ]
                refine held_take (i := 5) (v := .pointer (some ⟨wr.heap.size, 0, none⟩)) rfl rfl (by kernel_rfl) (by kernel_rfl) (by kernel_rfl) (by kernel_rfl) (fun W hS => by go_simp) HSS.out ?_
                simp only [Act.put, List.setIfInBounds_toArray, List.set_cons_zero, List.set_cons_succ]
                refine held_take (i := 6) (v := .string yp) rfl rfl (by kernel_rfl) (by kernel_rfl) (by kernel_rfl) (by kernel_rfl) (fun W hS => by obtain ⟨s0, s1, s2, s3, s4, s5⟩ := hS; go_simp) HSS.out ?_
                simp only [Act.put, List.setIfInBounds_toArray, List.set_cons_zero, List.set_cons_succ]
                refine held_take (i := 7) (v := .bool false) rfl rfl (by kernel_rfl) (by kernel_rfl) (by kernel_rfl) (by kernel_rfl) (fun W hS => by go_simp) HSS.out ?_
                simp only [Act.put, List.setIfInBounds_toArray, List.set_cons_zero, List.set_cons_succ]
                refine held_take (i := 8) (v := .bool false) rfl rfl (by kernel_rfl) (by kernel_rfl) (by kernel_rfl) (by kernel_rfl) (fun W hS => by go_simp) HSS.out ?_
                simp only [Act.put, List.setIfInBounds_toArray, List.set_cons_zero, List.set_cons_succ]
                refine held_take (i := 9) (v := .bool false) rfl rfl (by kernel_rfl) (by kernel_rfl) (by kernel_rfl) (by kernel_rfl) (fun W hS => by go_simp) HSS.out ?_
                simp only [Act.put, List.setIfInBounds_toArray, List.set_cons_zero, List.set_cons_succ]
                refine held_take (i := 10) (v := .int .i64 (k : Nat)) rfl rfl (by kernel_rfl) (by kernel_rfl) (by kernel_rfl) (by kernel_rfl) (fun W hS => by go_simp) HSS.out ?_
                simp only [Act.put, List.setIfInBounds_toArray, List.set_cons_zero, List.set_cons_succ]
                refine held_take (i := 11) (v := .bool true) rfl rfl (by kernel_rfl) (by kernel_rfl) (by kernel_rfl) (by kernel_rfl) (fun W hS => by go_simp) HSS.out ?_
                simp only [Act.put, List.setIfInBounds_toArray, List.set_cons_zero, List.set_cons_succ]
                refine held_take (i := 12) (v := .bool true) rfl rfl (by kernel_rfl) (by kernel_rfl) (by kernel_rfl) (by kernel_rfl) (fun W hS => by go_simp) HSS.out ?_
                simp only [Act.put, List.setIfInBounds_toArray, List.set_cons_zero, List.set_cons_succ]
                refine held_take (i := 13) (v := .pointer (some ⟨wr.heap.size, 0, none⟩)) rfl rfl (by kernel_rfl) (by kernel_rfl) (by kernel_rfl) (by kernel_rfl) (fun W hS => by go_simp) HSS.out ?_
                simp only [Act.put, List.setIfInBounds_toArray, List.set_cons_zero, List.set_cons_succ]
                refine held_take (i := 14) (v := .string yp) rfl rfl (by kernel_rfl) (by kernel_rfl) (by kernel_rfl) (by kernel_rfl) (fun W hS => by obtain ⟨s0, s1, s2, s3, s4, s5⟩ := hS; go_simp) HSS.out ?_
                simp only [Act.put, List.setIfInBounds_toArray, List.set_cons_zero, List.set_cons_succ]
                refine held_take (i := 15) (v := .pointer (some ⟨w.heap.size, 0, none⟩)) rfl rfl (by kernel_rfl) (by kernel_rfl) (by kernel_rfl) (by kernel_rfl) (fun W hS => by go_simp) HSS.out ?_
                simp only [Act.put, List.setIfInBounds_toArray, List.set_cons_zero, List.set_cons_succ]
                refine held_take (i := 16) (v := .slice (some ⟨b, off, none⟩) l.length ca) rfl rfl (by kernel_rfl) (by kernel_rfl) (by kernel_rfl) (by kernel_rfl) (fun W hS => by obtain ⟨s0, s1, s2, s3, s4, s5⟩ := hS; go_simp) HSS.out ?_
                simp only [Act.put, List.setIfInBounds_toArray, List.set_cons_zero, List.set_cons_succ]
                refine held_take (i := 17) (v := .int .i64 (k : Nat)) rfl rfl (by kernel_rfl) (by kernel_rfl) (by kernel_rfl) (by kernel_rfl) (fun W hS => by go_simp) HSS.out ?_
                simp only [Act.put, List.setIfInBounds_toArray, List.set_cons_zero, List.set_cons_succ]
                refine held_take (i := 18) (v := .int .i64 ((k : Int) - 1)) rfl rfl (by kernel_rfl) (by kernel_rfl) (by kernel_rfl) (by kernel_rfl) (fun W hS => by go_simp) HSS.out ?_
                simp only [Act.put, List.setIfInBounds_toArray, List.set_cons_zero, List.set_cons_succ]
                refine held_take (i := 19) (v := .pointer (some ⟨b, off + (k - 1) * 4, none⟩)) rfl rfl (by kernel_rfl) (by kernel_rfl) (by kernel_rfl) (by kernel_rfl) (fun W hS => by go_simp) HSS.out ?_
                simp only [Act.put, List.setIfInBounds_toArray, List.set_cons_zero, List.set_cons_succ]
                refine held_take (i := 20) (v := .pointer (some ⟨b, off + (k - 1) * 4, none⟩)) rfl rfl (by kernel_rfl) (by kernel_rfl) (by kernel_rfl) (by kernel_rfl) (fun W hS => by go_simp) HSS.out ?_
                simp only [Act.put, List.setIfInBounds_toArray, List.set_cons_zero, List.set_cons_succ]
                refine held_take (i := 21) (v := .string pp) rfl rfl (by kernel_rfl) (by kernel_rfl) (by kernel_rfl) (by kernel_rfl) (fun W hS => by obtain ⟨s0, s1, s2, s3, s4, s5⟩ := hS; go_simp) HSS.out ?_
                simp only [Act.put, List.setIfInBounds_toArray, List.set_cons_zero, List.set_cons_succ]
                refine held_take (i := 22) (v := .bool true) rfl rfl (by kernel_rfl) (by kernel_rfl) (by kernel_rfl) (by kernel_rfl) (fun W hS => by go_simp) HSS.out ?_
                simp only [Act.put, List.setIfInBounds_toArray, List.set_cons_zero, List.set_cons_succ]
                refine held_take (i := 23) (v := .bool true) rfl rfl (by kernel_rfl) (by kernel_rfl) (by kernel_rfl) (by kernel_rfl) (fun W hS => by go_simp) HSS.out ?_
                simp only [Act.put, List.setIfInBounds_toArray, List.set_cons_zero, List.set_cons_succ]
                refine held_take (i := 24) (v := .bool true) rfl rfl (by kernel_rfl) (by kernel_rfl) (by kernel_rfl) (by kernel_rfl) (fun W hS => by go_simp) HSS.out ?_
                simp only [Act.put, List.setIfInBounds_toArray, List.set_cons_zero, List.set_cons_succ]
                refine held_take (i := 25) (v := .bool true) rfl rfl (by kernel_rfl) (by kernel_rfl) (by kernel_rfl) (by kernel_rfl) (fun W hS => by go_simp) HSS.out ?_
                simp only [Act.put, List.setIfInBounds_toArray, List.set_cons_zero, List.set_cons_succ]
                refine held_skip (i := 26) rfl rfl (by kernel_rfl) (by kernel_rfl) (by kernel_rfl) (by kernel_rfl) HSS.out ?_
                simp only [Act.put, List.setIfInBounds_toArray, List.set_cons_zero, List.set_cons_succ]
                refine held_skip (i := 27) rfl rfl (by kernel_rfl) (by kernel_rfl) (by kernel_rfl) (by kernel_rfl) HSS.out ?_
                simp only [Act.put, List.setIfInBounds_toArray, List.set_cons_zero, List.set_cons_succ]
                refine held_skip (i := 28) rfl rfl (by kernel_rfl) (by kernel_rfl) (by kernel_rfl) (by kernel_rfl) HSS.out ?_
                simp only [Act.put, List.setIfInBounds_toArray, List.set_cons_zero, List.set_cons_succ]
                refine held_skip (i := 29) rfl rfl (by kernel_rfl) (by kernel_rfl) (by kernel_rfl) (by kernel_rfl) HSS.out ?_
                simp only [Act.put, List.setIfInBounds_toArray, List.set_cons_zero, List.set_cons_succ]
                refine held_take (i := 30) (v := .bool true) rfl rfl (by kernel_rfl) (by kernel_rfl) (by kernel_rfl) (by kernel_rfl) (fun W hS => by go_simp) HSS.out ?_
                simp only [Act.put, List.setIfInBounds_toArray, List.set_cons_zero, List.set_cons_succ]
                refine held_take (i := 31) (v := .bool true) rfl rfl (by kernel_rfl) (by kernel_rfl) (by kernel_rfl) (by kernel_rfl) (fun W hS => by go_simp) HSS.out ?_
                simp only [Act.put, List.setIfInBounds_toArray, List.set_cons_zero, List.set_cons_succ]
                refine held_skip (i := 32) rfl rfl (by kernel_rfl) (by kernel_rfl) (by kernel_rfl) (by kernel_rfl) HSS.out ?_
                simp only [Act.put, List.setIfInBounds_toArray, List.set_cons_zero, List.set_cons_succ]
                refine held_skip (i := 33) rfl rfl (by kernel_rfl) (by kernel_rfl) (by kernel_rfl) (by kernel_rfl) HSS.out ?_
                simp only [Act.put, List.setIfInBounds_toArray, List.set_cons_zero, List.set_cons_succ]
                refine held_skip (i := 34) rfl rfl (by kernel_rfl) (by kernel_rfl) (by kernel_rfl) (by kernel_rfl) HSS.out ?_
                simp only [Act.put, List.setIfInBounds_toArray, List.set_cons_zero, List.set_cons_succ]
                refine held_skip (i := 35) rfl rfl (by kernel_rfl) (by kernel_rfl) (by kernel_rfl) (by kernel_rfl) HSS.out ?_
                simp only [Act.put, List.setIfInBounds_toArray, List.set_cons_zero, List.set_cons_succ]
                refine held_take (i := 36) (v := .bool true) rfl rfl (by kernel_rfl) (by kernel_rfl) (by kernel_rfl) (by kernel_rfl) (fun W hS => by go_simp) HSS.out ?_
                simp only [Act.put, List.setIfInBounds_toArray, List.set_cons_zero, List.set_cons_succ]
                refine held_take (i := 37) (v := .bool true) rfl rfl (by kernel_rfl) (by kernel_rfl) (by kernel_rfl) (by kernel_rfl) (fun W hS => by go_simp) HSS.out ?_
                simp only [Act.put, List.setIfInBounds_toArray, List.set_cons_zero, List.set_cons_succ]
                refine held_skip (i := 38) rfl rfl (by kernel_rfl) (by kernel_rfl) (by kernel_rfl) (by kernel_rfl) HSS.out ?_
                simp only [Act.put, List.setIfInBounds_toArray, List.set_cons_zero, List.set_cons_succ]
                refine held_skip (i := 39) rfl rfl (by kernel_rfl) (by kernel_rfl) (by kernel_rfl) (by kernel_rfl) HSS.out ?_
                simp only [Act.put, List.setIfInBounds_toArray, List.set_cons_zero, List.set_cons_succ]
                refine held_skip (i := 40) rfl rfl (by kernel_rfl) (by kernel_rfl) (by kernel_rfl) (by kernel_rfl) HSS.out ?_
                simp only [Act.put, List.setIfInBounds_toArray, List.set_cons_zero, List.set_cons_succ]
                refine held_skip (i := 41) rfl rfl (by kernel_rfl) (by kernel_rfl) (by kernel_rfl) (by kernel_rfl) HSS.out ?_
                simp only [Act.put, List.setIfInBounds_toArray, List.set_cons_zero, List.set_cons_succ]
                refine held_take (i := 42) (v := .bool true) rfl rfl (by kernel_rfl) (by kernel_rfl) (by kernel_rfl) (by kernel_rfl) (fun W hS => by go_simp) HSS.out ?_
                simp only [Act.put, List.setIfInBounds_toArray, List.set_cons_zero, List.set_cons_succ]
                refine wpAnyH_done (by kernel_rfl) ?_ _
                simp only [NoPanic]
                have hB3 := HBW.out.trans (hB2.mono HBW.out.size)
                go_wp2
                go_ret
                exact ⟨by rw [HNE.out]; rfl, hB3⟩
            · have hkI : ¬ (0 : Int) < (k : Int) := by omega
              have HK0 : Hid (¬ 0 < k) := hk0
              have HK00 : Hid (k = 0) := by show k = 0; omega
              clear hk0
              have HSF := HVX
              have HSS : Hid _ := HSF.out _ (Below.refl _ _)
              clear HPV
              go_upto_region 7 with fail
              by_cases h4 : 1 ≤ yk ∧ yk ≤ 3
              · have HNK : Hid (∀ W, Calls Try.prog 25 #[.int .i64 yk, .int .i64 1, .int .i64 3] W fun e w' => e = .returned (.bool true) ∧ w' = W) := fun W => by
                  have := inW yk 1 3 W
                  rwa [decide_eq_true h4.1, decide_eq_true h4.2] at this
                by_cases h5 : yd.size ≤ 80
                · have h5i : ¬ (80 : Int) < (yd.size : Int) := by omega
                  by_cases h6 : 0 ≤ yt ∧ yt ≤ 100000
                  · have HNT : Hid (∀ W, Calls Try.prog 25 #[.int .i64 yt, .int .i64 0, .int .i64 100000] W fun e w' => e = .returned (.bool true) ∧ w' = W) := fun W => by
                      have := inW yt 0 100000 W
                      rwa [decide_eq_true h6.1, decide_eq_true h6.2] at this
                    refine wp_region_noPanic ?_
                    refine wp_region_held_drew (S := (fun W => W.cell? ⟨wr.heap.size, 0, none⟩ = some (.string yp) ∧ W.cell? ⟨wr.heap.size, 1, none⟩ = some (.int .i64 yk) ∧ W.cell? ⟨wr.heap.size, 2, none⟩ = some (.string yd) ∧ W.cell? ⟨wr.heap.size, 3, none⟩ = some (.int .i64 yt) ∧ W.cell? ⟨w.heap.size, 0, none⟩ = some (.slice (some ⟨b, off, none⟩) l.length ca))) (by kernel_rfl) HSS.out (fun hT => ?_)
                    clear hT
                    refine held_take (i := 0) (v := .pointer (some ⟨wr.heap.size, 0, none⟩)) rfl rfl (by kernel_rfl) (by kernel_rfl) (by kernel_rfl) (by kernel_rfl) (fun W hS => by go_simp) HSS.out ?_
                    simp only [Act.put, List.setIfInBounds_toArray, List.set_cons_zero, List.set_cons_succ]
                    refine held_take (i := 1) (v := .string yp) rfl rfl (by kernel_rfl) (by kernel_rfl) (by kernel_rfl) (by kernel_rfl) (fun W hS => by obtain ⟨s0, s1, s2, s3, s4⟩ := hS; go_simp) HSS.out ?_
                    simp only [Act.put, List.setIfInBounds_toArray, List.set_cons_zero, List.set_cons_succ]
                    refine wpAnyH_ready (rs := [2]) (by kernel_rfl) (by simp) (AllReadyH.cons rfl (fun K hK => ?_) AllReadyH.nil)
                    go_simp
                    refine (HPT.out _).mono ?_
                    rintro e w2 ⟨rfl, hb2⟩
                    have hB2 := (Below.refl _ (wr.alloc (.cells #[.string yp, .int .i64 yk, .string yd, .int .i64 yt] 34))).drew.trans hb2
                    clear HSS hb2
                    have HSS : Hid _ := HSF.out w2 hB2
                    refine hK.out _ _ HSS.out (fun hT => ?_)
                    clear hK K hT
                    try simp only [Act.put, List.setIfInBounds_toArray, List.set_cons_zero, List.set_cons_succ]
                    refine held_take (i := 3) (v := .bool false) rfl rfl (by kernel_rfl) (by kernel_rfl) (by kernel_rfl) (by kernel_rfl) (fun W hS => by go_simp) HSS.out ?_
                    simp only [Act.put, List.setIfInBounds_toArray, List.set_cons_zero, List.set_cons_succ]
                    refine held_take (i := 4) (v := .bool false) rfl rfl (by kernel_rfl) (by kernel_rfl) (by kernel_rfl) (by kernel_rfl) (fun W hS => by go_simp) HSS.out ?_
                    simp only [Act.put, List.setIfInBounds_toArray, List.set_cons_zero, List.set_cons_succ]
                    refine held_take (i := 5) (v := .pointer (some ⟨wr.heap.size, 0, none⟩)) rfl rfl (by kernel_rfl) (by kernel_rfl) (by kernel_rfl) (by kernel_rfl) (fun W hS => by go_simp) HSS.out ?_
                    simp only [Act.put, List.setIfInBounds_toArray, List.set_cons_zero, List.set_cons_succ]
                    refine held_take (i := 6) (v := .string yp) rfl rfl (by kernel_rfl) (by kernel_rfl) (by kernel_rfl) (by kernel_rfl) (fun W hS => by obtain ⟨s0, s1, s2, s3, s4⟩ := hS; go_simp) HSS.out ?_
                    simp only [Act.put, List.setIfInBounds_toArray, List.set_cons_zero, List.set_cons_succ]
                    refine held_take (i := 7) (v := .bool false) rfl rfl (by kernel_rfl) (by kernel_rfl) (by kernel_rfl) (by kernel_rfl) (fun W hS => by go_simp) HSS.out ?_
                    simp only [Act.put, List.setIfInBounds_toArray, List.set_cons_zero, List.set_cons_succ]
                    refine held_take (i := 8) (v := .bool false) rfl rfl (by kernel_rfl) (by kernel_rfl) (by kernel_rfl) (by kernel_rfl) (fun W hS => by go_simp) HSS.out ?_
                    simp only [Act.put, List.setIfInBounds_toArray, List.set_cons_zero, List.set_cons_succ]
                    refine held_take (i := 9) (v := .bool false) rfl rfl (by kernel_rfl) (by kernel_rfl) (by kernel_rfl) (by kernel_rfl) (fun W hS => by go_simp) HSS.out ?_
                    simp only [Act.put, List.setIfInBounds_toArray, List.set_cons_zero, List.set_cons_succ]
                    refine held_take (i := 10) (v := .int .i64 (k : Nat)) rfl rfl (by kernel_rfl) (by kernel_rfl) (by kernel_rfl) (by kernel_rfl) (fun W hS => by go_simp) HSS.out ?_
                    simp only [Act.put, List.setIfInBounds_toArray, List.set_cons_zero, List.set_cons_succ]
                    refine held_take (i := 11) (v := .bool false) rfl rfl (by kernel_rfl) (by kernel_rfl) (by kernel_rfl) (by kernel_rfl) (fun W hS => by go_simp; exact HK00.out) HSS.out ?_
                    simp only [Act.put, List.setIfInBounds_toArray, List.set_cons_zero, List.set_cons_succ]
                    refine held_take (i := 12) (v := .bool false) rfl rfl (by kernel_rfl) (by kernel_rfl) (by kernel_rfl) (by kernel_rfl) (fun W hS => by go_simp) HSS.out ?_
                    simp only [Act.put, List.setIfInBounds_toArray, List.set_cons_zero, List.set_cons_succ]
                    refine held_skip (i := 13) rfl rfl (by kernel_rfl) (by kernel_rfl) (by kernel_rfl) (by kernel_rfl) HSS.out ?_
                    simp only [Act.put, List.setIfInBounds_toArray, List.set_cons_zero, List.set_cons_succ]
                    refine held_skip (i := 14) rfl rfl (by kernel_rfl) (by kernel_rfl) (by kernel_rfl) (by kernel_rfl) HSS.out ?_
                    simp only [Act.put, List.setIfInBounds_toArray, List.set_cons_zero, List.set_cons_succ]
                    refine held_skip (i := 15) rfl rfl (by kernel_rfl) (by kernel_rfl) (by kernel_rfl) (by kernel_rfl) HSS.out ?_
                    simp only [Act.put, List.setIfInBounds_toArray, List.set_cons_zero, List.set_cons_succ]
                    refine held_skip (i := 16) rfl rfl (by kernel_rfl) (by kernel_rfl) (by kernel_rfl) (by kernel_rfl) HSS.out ?_
                    simp only [Act.put, List.setIfInBounds_toArray, List.set_cons_zero, List.set_cons_succ]
                    refine held_skip (i := 17) rfl rfl (by kernel_rfl) (by kernel_rfl) (by kernel_rfl) (by kernel_rfl) HSS.out ?_
                    simp only [Act.put, List.setIfInBounds_toArray, List.set_cons_zero, List.set_cons_succ]
                    refine held_skip (i := 18) rfl rfl (by kernel_rfl) (by kernel_rfl) (by kernel_rfl) (by kernel_rfl) HSS.out ?_
                    simp only [Act.put, List.setIfInBounds_toArray, List.set_cons_zero, List.set_cons_succ]
                    refine held_skip (i := 19) rfl rfl (by kernel_rfl) (by kernel_rfl) (by kernel_rfl) (by kernel_rfl) HSS.out ?_
                    simp only [Act.put, List.setIfInBounds_toArray, List.set_cons_zero, List.set_cons_succ]
                    refine held_skip (i := 20) rfl rfl (by kernel_rfl) (by kernel_rfl) (by kernel_rfl) (by kernel_rfl) HSS.out ?_
                    simp only [Act.put, List.setIfInBounds_toArray, List.set_cons_zero, List.set_cons_succ]
                    refine held_skip (i := 21) rfl rfl (by kernel_rfl) (by kernel_rfl) (by kernel_rfl) (by kernel_rfl) HSS.out ?_
                    simp only [Act.put, List.setIfInBounds_toArray, List.set_cons_zero, List.set_cons_succ]
                    refine held_skip (i := 22) rfl rfl (by kernel_rfl) (by kernel_rfl) (by kernel_rfl) (by kernel_rfl) HSS.out ?_
                    simp only [Act.put, List.setIfInBounds_toArray, List.set_cons_zero, List.set_cons_succ]
                    refine held_take (i := 23) (v := .bool false) rfl rfl (by kernel_rfl) (by kernel_rfl) (by kernel_rfl) (by kernel_rfl) (fun W hS => by go_simp) HSS.out ?_
                    simp only [Act.put, List.setIfInBounds_toArray, List.set_cons_zero, List.set_cons_succ]
                    refine held_take (i := 24) (v := .bool false) rfl rfl (by kernel_rfl) (by kernel_rfl) (by kernel_rfl) (by kernel_rfl) (fun W hS => by go_simp) HSS.out ?_
                    simp only [Act.put, List.setIfInBounds_toArray, List.set_cons_zero, List.set_cons_succ]
                    refine held_take (i := 25) (v := .bool false) rfl rfl (by kernel_rfl) (by kernel_rfl) (by kernel_rfl) (by kernel_rfl) (fun W hS => by go_simp) HSS.out ?_
                    simp only [Act.put, List.setIfInBounds_toArray, List.set_cons_zero, List.set_cons_succ]
                    refine held_take (i := 26) (v := .pointer (some ⟨wr.heap.size, 1, none⟩)) rfl rfl (by kernel_rfl) (by kernel_rfl) (by kernel_rfl) (by kernel_rfl) (fun W hS => by go_simp) HSS.out ?_
                    simp only [Act.put, List.setIfInBounds_toArray, List.set_cons_zero, List.set_cons_succ]
                    refine held_take (i := 27) (v := .int .i64 yk) rfl rfl (by kernel_rfl) (by kernel_rfl) (by kernel_rfl) (by kernel_rfl) (fun W hS => by obtain ⟨s0, s1, s2, s3, s4⟩ := hS; go_simp) HSS.out ?_
                    simp only [Act.put, List.setIfInBounds_toArray, List.set_cons_zero, List.set_cons_succ]
                    refine wpAnyH_ready (rs := [28]) (by kernel_rfl) (by simp) (AllReadyH.cons rfl (fun K hK => ?_) AllReadyH.nil)
                    go_simp
                    refine (HNK.out _).mono ?_
                    rintro e w3 ⟨rfl, hw3⟩
                    subst w3
                    refine hK.out _ _ HSS.out (fun hT => ?_)
                    clear hK K hT
                    try simp only [Act.put, List.setIfInBounds_toArray, List.set_cons_zero, List.set_cons_succ]
                    refine held_take (i := 29) (v := .bool false) rfl rfl (by kernel_rfl) (by kernel_rfl) (by kernel_rfl) (by kernel_rfl) (fun W hS => by go_simp) HSS.out ?_
                    simp only [Act.put, List.setIfInBounds_toArray, List.set_cons_zero, List.set_cons_succ]
                    refine held_take (i := 30) (v := .bool false) rfl rfl (by kernel_rfl) (by kernel_rfl) (by kernel_rfl) (by kernel_rfl) (fun W hS => by go_simp) HSS.out ?_
                    simp only [Act.put, List.setIfInBounds_toArray, List.set_cons_zero, List.set_cons_succ]
                    refine held_take (i := 31) (v := .bool false) rfl rfl (by kernel_rfl) (by kernel_rfl) (by kernel_rfl) (by kernel_rfl) (fun W hS => by go_simp) HSS.out ?_
                    simp only [Act.put, List.setIfInBounds_toArray, List.set_cons_zero, List.set_cons_succ]
                    refine held_take (i := 32) (v := .pointer (some ⟨wr.heap.size, 2, none⟩)) rfl rfl (by kernel_rfl) (by kernel_rfl) (by kernel_rfl) (by kernel_rfl) (fun W hS => by go_simp) HSS.out ?_
                    simp only [Act.put, List.setIfInBounds_toArray, List.set_cons_zero, List.set_cons_succ]
                    refine held_take (i := 33) (v := .string yd) rfl rfl (by kernel_rfl) (by kernel_rfl) (by kernel_rfl) (by kernel_rfl) (fun W hS => by obtain ⟨s0, s1, s2, s3, s4⟩ := hS; go_simp) HSS.out ?_
                    simp only [Act.put, List.setIfInBounds_toArray, List.set_cons_zero, List.set_cons_succ]
                    refine held_take (i := 34) (v := .int .i64 (yd.size : Nat)) rfl rfl (by kernel_rfl) (by kernel_rfl) (by kernel_rfl) (by kernel_rfl) (fun W hS => by go_simp) HSS.out ?_
                    simp only [Act.put, List.setIfInBounds_toArray, List.set_cons_zero, List.set_cons_succ]
                    refine held_take (i := 35) (v := .bool false) rfl rfl (by kernel_rfl) (by kernel_rfl) (by kernel_rfl) (by kernel_rfl) (fun W hS => by go_simp) HSS.out ?_
                    simp only [Act.put, List.setIfInBounds_toArray, List.set_cons_zero, List.set_cons_succ]
                    refine held_take (i := 36) (v := .bool false) rfl rfl (by kernel_rfl) (by kernel_rfl) (by kernel_rfl) (by kernel_rfl) (fun W hS => by go_simp) HSS.out ?_
                    simp only [Act.put, List.setIfInBounds_toArray, List.set_cons_zero, List.set_cons_succ]
                    refine held_take (i := 37) (v := .bool false) rfl rfl (by kernel_rfl) (by kernel_rfl) (by kernel_rfl) (by kernel_rfl) (fun W hS => by go_simp) HSS.out ?_
                    simp only [Act.put, List.setIfInBounds_toArray, List.set_cons_zero, List.set_cons_succ]
                    refine held_take (i := 38) (v := .pointer (some ⟨wr.heap.size, 3, none⟩)) rfl rfl (by kernel_rfl) (by kernel_rfl) (by kernel_rfl) (by kernel_rfl) (fun W hS => by go_simp) HSS.out ?_
                    simp only [Act.put, List.setIfInBounds_toArray, List.set_cons_zero, List.set_cons_succ]
                    refine held_take (i := 39) (v := .int .i64 yt) rfl rfl (by kernel_rfl) (by kernel_rfl) (by kernel_rfl) (by kernel_rfl) (fun W hS => by obtain ⟨s0, s1, s2, s3, s4⟩ := hS; go_simp) HSS.out ?_
                    simp only [Act.put, List.setIfInBounds_toArray, List.set_cons_zero, List.set_cons_succ]
                    refine wpAnyH_ready (rs := [40]) (by kernel_rfl) (by simp) (AllReadyH.cons rfl (fun K hK => ?_) AllReadyH.nil)
                    go_simp
                    refine (HNT.out _).mono ?_
                    rintro e w3 ⟨rfl, hw3⟩
                    subst w3
                    refine hK.out _ _ HSS.out (fun hT => ?_)
                    clear hK K hT
                    try simp only [Act.put, List.setIfInBounds_toArray, List.set_cons_zero, List.set_cons_succ]
                    refine held_take (i := 41) (v := .bool false) rfl rfl (by kernel_rfl) (by kernel_rfl) (by kernel_rfl) (by kernel_rfl) (fun W hS => by go_simp) HSS.out ?_
                    simp only [Act.put, List.setIfInBounds_toArray, List.set_cons_zero, List.set_cons_succ]
                    refine held_take (i := 42) (v := .bool false) rfl rfl (by kernel_rfl) (by kernel_rfl) (by kernel_rfl) (by kernel_rfl) (fun W hS => by go_simp) HSS.out ?_
                    simp only [Act.put, List.setIfInBounds_toArray, List.set_cons_zero, List.set_cons_succ]
                    refine wpAnyH_done (by kernel_rfl) ?_ _
                    simp only [NoPanic]
                    have s0 := HSS.out.1
                    have s1 := HSS.out.2.1
                    have s2 := HSS.out.2.2.1
                    have s3 := HSS.out.2.2.2.1
                    have s4 := HSS.out.2.2.2.2
                    have hBW2 := HBW.out.trans (hB2.mono HBW.out.size)
                    have hwz : wr.heap.size + 1 ≤ w2.heap.size := by have := hB2.size; simpa using this
                    clear HSF HSS HPQ HPT HNK HNT hB2 HBW
                    by_cases hd : yk = 2 → yd = ⟨#[]⟩ ∧ yt = 0
                    · have HOK : Hid (itOk ⟨yp, yk, yd, yt⟩ = true) := (itOk_iff _).2 ⟨hd, h1, h4, h5, h6⟩
                      have HN2 : Hid (yp ≠ rootS) := h2
                      by_cases hk2 : yk = 2
                      · obtain ⟨rfl, rfl⟩ := hd hk2
                        subst hk2
                        clear hd
                        go_upto_region 11 with fail
                        obtain ⟨hup1, hup2, hup3⟩ := HUP.out
                        have HU1 : Hid _ := hup1
                        have HU2 : Hid _ := hup2
                        have HTG2 : Hid (∀ W, Below w2.heap.size w2 W → Calls Try.prog 12 #[.agg #[.slice (some ⟨b, off, none⟩) l.length ca], .string (tx (abv (bt yp)))] W fun e w' => e = .returned (.tuple #[.agg #[.string (itAt l (tx (abv (bt yp)))).p, .int .i64 (itAt l (tx (abv (bt yp)))).k, .string (itAt l (tx (abv (bt yp)))).d, .int .i64 (itAt l (tx (abv (bt yp)))).t], .bool (itIs l (tx (abv (bt yp))))]) ∧ Below W.heap.size W w') := fun W h => HTG.out _ W (hBW2.trans (h.mono hBW2.size)) hup3
                        clear hup1 hup2 hup3 HTG HUP
                        generalize itAt l (tx (abv (bt yp))) = z at *
                        generalize itIs l (tx (abv (bt yp))) = zq at *
                        generalize tx (abv (bt yp)) = up at *
                        refine wp_region_noPanic ?_
                        have HS : Hid (w2.cell? ⟨w.heap.size, 0, none⟩ = some (.slice (some ⟨b, off, none⟩) l.length ca) ∧ w2.cell? ⟨wr.heap.size, 0, none⟩ = some (.string yp)) := ⟨s4, s0⟩
                        refine wp_region_held_drew (S := (fun W => W.cell? ⟨w.heap.size, 0, none⟩ = some (.slice (some ⟨b, off, none⟩) l.length ca) ∧ W.cell? ⟨wr.heap.size, 0, none⟩ = some (.string yp))) (by kernel_rfl) HS.out (fun hT => ?_)
                        clear hT
                        refine held_take (i := 0) (v := .agg #[.slice (some ⟨b, off, none⟩) l.length ca]) rfl rfl (by kernel_rfl) (by kernel_rfl) (by kernel_rfl) (by kernel_rfl) (fun W hS => by obtain ⟨r4, r0⟩ := hS; go_simp) HS.out ?_
                        simp only [Act.put, List.setIfInBounds_toArray, List.set_cons_zero, List.set_cons_succ]
                        refine held_take (i := 1) (v := .pointer (some ⟨wr.heap.size, 0, none⟩)) rfl rfl (by kernel_rfl) (by kernel_rfl) (by kernel_rfl) (by kernel_rfl) (fun W hS => by go_simp) HS.out ?_
                        simp only [Act.put, List.setIfInBounds_toArray, List.set_cons_zero, List.set_cons_succ]
                        refine held_take (i := 2) (v := .string yp) rfl rfl (by kernel_rfl) (by kernel_rfl) (by kernel_rfl) (by kernel_rfl) (fun W hS => by obtain ⟨r4, r0⟩ := hS; go_simp) HS.out ?_
                        simp only [Act.put, List.setIfInBounds_toArray, List.set_cons_zero, List.set_cons_succ]
                        refine wpAnyH_ready (rs := [3, 8]) (by kernel_rfl) (by simp) (AllReadyH.cons rfl (fun K hK => ?_) (AllReadyH.cons rfl (fun K hK => ?_) AllReadyH.nil))
                        · skip
                          go_simp
                          refine (HAB.out _).mono ?_
                          rintro e w4 ⟨rfl, hb4⟩
                          have q4 : Below w2.heap.size w2 w4 := ((Below.refl w2.heap.size w2).drew).trans (hb4.mono ((Below.refl w2.heap.size w2).drew).size)
                          clear HS
                          have HS : Hid (w4.cell? ⟨w.heap.size, 0, none⟩ = some (.slice (some ⟨b, off, none⟩) l.length ca) ∧ w4.cell? ⟨wr.heap.size, 0, none⟩ = some (.string yp)) := ⟨((q4).cell (p := ⟨w.heap.size, 0, none⟩) (by show w.heap.size < w2.heap.size; omega)).trans s4, ((q4).cell (p := ⟨wr.heap.size, 0, none⟩) (by show wr.heap.size < w2.heap.size; omega)).trans s0⟩
                          clear hb4
                          refine hK.out _ _ HS.out (fun hT => ?_)
                          clear hK K hT
                          try simp only [Act.put, List.setIfInBounds_toArray, List.set_cons_zero, List.set_cons_succ]
                          refine wpAnyH_ready (rs := [4, 8]) (by kernel_rfl) (by simp) (AllReadyH.cons rfl (fun K hK => ?_) (AllReadyH.cons rfl (fun K hK => ?_) AllReadyH.nil))
                          · skip
                            go_simp
                            refine (HTG2.out _ (q4)).mono ?_
                            rintro e w5 ⟨rfl, hb5⟩
                            have q5 : Below w2.heap.size w2 w5 := (q4).trans (hb5.mono (q4).size)
                            clear HS
                            have HS : Hid (w5.cell? ⟨w.heap.size, 0, none⟩ = some (.slice (some ⟨b, off, none⟩) l.length ca) ∧ w5.cell? ⟨wr.heap.size, 0, none⟩ = some (.string yp)) := ⟨((q5).cell (p := ⟨w.heap.size, 0, none⟩) (by show w.heap.size < w2.heap.size; omega)).trans s4, ((q5).cell (p := ⟨wr.heap.size, 0, none⟩) (by show wr.heap.size < w2.heap.size; omega)).trans s0⟩
                            clear hb5
                            refine hK.out _ _ HS.out (fun hT => ?_)
                            clear hK K hT
                            try simp only [Act.put, List.setIfInBounds_toArray, List.set_cons_zero, List.set_cons_succ]
                            refine held_take (i := 5) (v := .tuple #[.agg #[.string z.p, .int .i64 z.k, .string z.d, .int .i64 z.t], .bool zq]) rfl rfl (by kernel_rfl) (by kernel_rfl) (by kernel_rfl) (by kernel_rfl) (fun W hS => by go_simp) HS.out ?_
                            simp only [Act.put, List.setIfInBounds_toArray, List.set_cons_zero, List.set_cons_succ]
                            refine held_take (i := 6) (v := .agg #[.string z.p, .int .i64 z.k, .string z.d, .int .i64 z.t]) rfl rfl (by kernel_rfl) (by kernel_rfl) (by kernel_rfl) (by kernel_rfl) (fun W hS => by go_simp) HS.out ?_
                            simp only [Act.put, List.setIfInBounds_toArray, List.set_cons_zero, List.set_cons_succ]
                            refine held_take (i := 7) (v := .bool zq) rfl rfl (by kernel_rfl) (by kernel_rfl) (by kernel_rfl) (by kernel_rfl) (fun W hS => by go_simp) HS.out ?_
                            simp only [Act.put, List.setIfInBounds_toArray, List.set_cons_zero, List.set_cons_succ]
                            refine wpAnyH_ready (rs := [8]) (by kernel_rfl) (by simp) (AllReadyH.cons rfl (fun K hK => ?_) AllReadyH.nil)
                            go_simp
                            clear HS
                            have HS : Hid ((w5.alloc (.cells #[.string ⟨#[]⟩, .int .i64 0, .string ⟨#[]⟩, .int .i64 0] 34)).cell? ⟨w.heap.size, 0, none⟩ = some (.slice (some ⟨b, off, none⟩) l.length ca) ∧ (w5.alloc (.cells #[.string ⟨#[]⟩, .int .i64 0, .string ⟨#[]⟩, .int .i64 0] 34)).cell? ⟨wr.heap.size, 0, none⟩ = some (.string yp)) := ⟨(((q5.alloc q5.size (.cells #[.string ⟨#[]⟩, .int .i64 0, .string ⟨#[]⟩, .int .i64 0] 34))).cell (p := ⟨w.heap.size, 0, none⟩) (by show w.heap.size < w2.heap.size; omega)).trans s4, (((q5.alloc q5.size (.cells #[.string ⟨#[]⟩, .int .i64 0, .string ⟨#[]⟩, .int .i64 0] 34))).cell (p := ⟨wr.heap.size, 0, none⟩) (by show wr.heap.size < w2.heap.size; omega)).trans s0⟩
                            refine hK.out _ _ HS.out (fun hT => ?_)
                            clear hK K hT
                            try simp only [Act.put, List.setIfInBounds_toArray, List.set_cons_zero, List.set_cons_succ]
                            have HUL : Hid (w2.heap.size ≤ w5.heap.size) := q5.size
                            have hVU : Var (w5.alloc (.cells #[.string ⟨#[]⟩, .int .i64 0, .string ⟨#[]⟩, .int .i64 0] 34)) w5.heap.size #[.string ⟨#[]⟩, .int .i64 0, .string ⟨#[]⟩, .int .i64 0] 34 := Var.made w5 _ _
                            have v0 : (w5.alloc (.cells #[.string ⟨#[]⟩, .int .i64 0, .string ⟨#[]⟩, .int .i64 0] 34)).cell? ⟨w5.heap.size, 0, none⟩ = some (.string ⟨#[]⟩) := hVU.cell 0
                            have f0 : (w5.alloc (.cells #[.string ⟨#[]⟩, .int .i64 0, .string ⟨#[]⟩, .int .i64 0] 34)).frozen? ⟨w5.heap.size, 0, none⟩ = false := hVU.frozen 0
                            have v1 : (w5.alloc (.cells #[.string ⟨#[]⟩, .int .i64 0, .string ⟨#[]⟩, .int .i64 0] 34)).cell? ⟨w5.heap.size, 1, none⟩ = some (.int .i64 0) := hVU.cell 1
                            have f1 : (w5.alloc (.cells #[.string ⟨#[]⟩, .int .i64 0, .string ⟨#[]⟩, .int .i64 0] 34)).frozen? ⟨w5.heap.size, 1, none⟩ = false := hVU.frozen 1
                            have v2 : (w5.alloc (.cells #[.string ⟨#[]⟩, .int .i64 0, .string ⟨#[]⟩, .int .i64 0] 34)).cell? ⟨w5.heap.size, 2, none⟩ = some (.string ⟨#[]⟩) := hVU.cell 2
                            have f2 : (w5.alloc (.cells #[.string ⟨#[]⟩, .int .i64 0, .string ⟨#[]⟩, .int .i64 0] 34)).frozen? ⟨w5.heap.size, 2, none⟩ = false := hVU.frozen 2
                            have v3 : (w5.alloc (.cells #[.string ⟨#[]⟩, .int .i64 0, .string ⟨#[]⟩, .int .i64 0] 34)).cell? ⟨w5.heap.size, 3, none⟩ = some (.int .i64 0) := hVU.cell 3
                            have f3 : (w5.alloc (.cells #[.string ⟨#[]⟩, .int .i64 0, .string ⟨#[]⟩, .int .i64 0] 34)).frozen? ⟨w5.heap.size, 3, none⟩ = false := hVU.frozen 3
                            have q6 : Below w2.heap.size w2 (w5.alloc (.cells #[.string z.p, .int .i64 z.k, .string z.d, .int .i64 z.t] 34)) := q5.alloc q5.size _
                            have hVS := Var.made w5 #[.string z.p, .int .i64 z.k, .string z.d, .int .i64 z.t] 34
                            try simp only [List.setIfInBounds_toArray, List.set_cons_zero, List.set_cons_succ] at hVS
                            have vk : (w5.alloc (.cells #[.string z.p, .int .i64 z.k, .string z.d, .int .i64 z.t] 34)).cell? ⟨w5.heap.size, 1, none⟩ = some (.int .i64 z.k) := hVS.cell 1
                            refine wpAnyH_ready (rs := [9]) (by kernel_rfl) (by simp) (AllReadyH.cons rfl (fun K hK => ?_) AllReadyH.nil)
                            go_simp
                            clear HS
                            have HS : Hid ((w5.alloc (.cells #[.string z.p, .int .i64 z.k, .string z.d, .int .i64 z.t] 34)).cell? ⟨w.heap.size, 0, none⟩ = some (.slice (some ⟨b, off, none⟩) l.length ca) ∧ (w5.alloc (.cells #[.string z.p, .int .i64 z.k, .string z.d, .int .i64 z.t] 34)).cell? ⟨wr.heap.size, 0, none⟩ = some (.string yp)) := ⟨((q6).cell (p := ⟨w.heap.size, 0, none⟩) (by show w.heap.size < w2.heap.size; omega)).trans s4, ((q6).cell (p := ⟨wr.heap.size, 0, none⟩) (by show wr.heap.size < w2.heap.size; omega)).trans s0⟩
                            try clear hst
                            refine hK.out _ _ HS.out (fun hT => ?_)
                            clear hK K hT
                            try simp only [Act.put, List.setIfInBounds_toArray, List.set_cons_zero, List.set_cons_succ]
                            refine held_take (i := 10) (v := .bool zq) rfl rfl (by kernel_rfl) (by kernel_rfl) (by kernel_rfl) (by kernel_rfl) (fun W hS => by go_simp) HS.out ?_
                            simp only [Act.put, List.setIfInBounds_toArray, List.set_cons_zero, List.set_cons_succ]
                            refine wpAnyH_done (by kernel_rfl) ?_ _
                            simp only [NoPanic]
                            have r4 := HS.out.1
                            have q7 : Below w.heap.size w (w5.alloc (.cells #[.string z.p, .int .i64 z.k, .string z.d, .int .i64 z.t] 34)) := hBW2.trans (q6.mono hBW2.size)
                            have q8 : w.heap.size + 1 ≤ (w5.alloc (.cells #[.string z.p, .int .i64 z.k, .string z.d, .int .i64 z.t] 34)).heap.size := by have := q6.size; omega
                            clear v0 v1 v2 v3 f0 f1 f2 f3 hVU hVS HS q6
                            generalize (w5.alloc (.cells #[.string z.p, .int .i64 z.k, .string z.d, .int .i64 z.t] 34)) = W6 at *
                            cases zq with
                            | false =>
                              have HNE : Hid (treeB l = false) := HNB.out fun h => by have h4 := h.2.2.2; rw [HU1.out, HU2.out rfl] at h4; cases h4
                              clear HNB HGO
                              go_wp2
                              go_ret
                              exact ⟨by rw [HNE.out]; rfl, q7⟩
                            | true =>
                              by_cases hzk : z.k = 2
                              · have HNX := HGO.out HOK.out HN2.out (fun h0 => absurd h0 HK0.out) (by rw [HU1.out]; exact decide_eq_true hzk)
                                have hzb : (z.k != 2) = false := by simpa using hzk
                                clear HNB HGO hzk
                                go_wp2
                                go_roundw
                                case rel => exact ⟨k + 1, by omega, by go_num, q7, q8, r4, HNX⟩
                                case measure => simp [intOf]; omega
                              · have HNE : Hid (treeB l = false) := HNB.out fun h => by have h4 := h.2.2.2; rw [HU1.out] at h4; exact hzk (of_decide_eq_true h4)
                                have hzb : (z.k != 2) = true := by simpa using hzk
                                clear HNB HGO hzk
                                go_wp2
                                go_ret
                                exact ⟨by rw [HNE.out]; rfl, q7⟩
                          · skip
                            go_simp
                            clear HS
                            have HS : Hid ((w4.alloc (.cells #[.string ⟨#[]⟩, .int .i64 0, .string ⟨#[]⟩, .int .i64 0] 34)).cell? ⟨w.heap.size, 0, none⟩ = some (.slice (some ⟨b, off, none⟩) l.length ca) ∧ (w4.alloc (.cells #[.string ⟨#[]⟩, .int .i64 0, .string ⟨#[]⟩, .int .i64 0] 34)).cell? ⟨wr.heap.size, 0, none⟩ = some (.string yp)) := ⟨(((q4.alloc q4.size (.cells #[.string ⟨#[]⟩, .int .i64 0, .string ⟨#[]⟩, .int .i64 0] 34))).cell (p := ⟨w.heap.size, 0, none⟩) (by show w.heap.size < w2.heap.size; omega)).trans s4, (((q4.alloc q4.size (.cells #[.string ⟨#[]⟩, .int .i64 0, .string ⟨#[]⟩, .int .i64 0] 34))).cell (p := ⟨wr.heap.size, 0, none⟩) (by show wr.heap.size < w2.heap.size; omega)).trans s0⟩
                            refine hK.out _ _ HS.out (fun hT => ?_)
                            clear hK K hT
                            try simp only [Act.put, List.setIfInBounds_toArray, List.set_cons_zero, List.set_cons_succ]
                            refine wpAnyH_ready (rs := [4]) (by kernel_rfl) (by simp) (AllReadyH.cons rfl (fun K hK => ?_) AllReadyH.nil)
                            go_simp
                            refine (HTG2.out _ ((q4.alloc q4.size (.cells #[.string ⟨#[]⟩, .int .i64 0, .string ⟨#[]⟩, .int .i64 0] 34)))).mono ?_
                            rintro e w5 ⟨rfl, hb5⟩
                            have q5 : Below w2.heap.size w2 w5 := ((q4.alloc q4.size (.cells #[.string ⟨#[]⟩, .int .i64 0, .string ⟨#[]⟩, .int .i64 0] 34))).trans (hb5.mono ((q4.alloc q4.size (.cells #[.string ⟨#[]⟩, .int .i64 0, .string ⟨#[]⟩, .int .i64 0] 34))).size)
                            clear HS
                            have HS : Hid (w5.cell? ⟨w.heap.size, 0, none⟩ = some (.slice (some ⟨b, off, none⟩) l.length ca) ∧ w5.cell? ⟨wr.heap.size, 0, none⟩ = some (.string yp)) := ⟨((q5).cell (p := ⟨w.heap.size, 0, none⟩) (by show w.heap.size < w2.heap.size; omega)).trans s4, ((q5).cell (p := ⟨wr.heap.size, 0, none⟩) (by show wr.heap.size < w2.heap.size; omega)).trans s0⟩
                            have hVM : Var w5 w4.heap.size #[.string ⟨#[]⟩, .int .i64 0, .string ⟨#[]⟩, .int .i64 0] 34 := (Var.made w4 _ _).new hb5
                            clear hb5
                            refine hK.out _ _ HS.out (fun hT => ?_)
                            clear hK K hT
                            try simp only [Act.put, List.setIfInBounds_toArray, List.set_cons_zero, List.set_cons_succ]
                            have HUL : Hid (w2.heap.size ≤ w4.heap.size) := q4.size
                            refine held_take (i := 5) (v := .tuple #[.agg #[.string z.p, .int .i64 z.k, .string z.d, .int .i64 z.t], .bool zq]) rfl rfl (by kernel_rfl) (by kernel_rfl) (by kernel_rfl) (by kernel_rfl) (fun W hS => by go_simp) HS.out ?_
                            simp only [Act.put, List.setIfInBounds_toArray, List.set_cons_zero, List.set_cons_succ]
                            refine held_take (i := 6) (v := .agg #[.string z.p, .int .i64 z.k, .string z.d, .int .i64 z.t]) rfl rfl (by kernel_rfl) (by kernel_rfl) (by kernel_rfl) (by kernel_rfl) (fun W hS => by go_simp) HS.out ?_
                            simp only [Act.put, List.setIfInBounds_toArray, List.set_cons_zero, List.set_cons_succ]
                            refine held_take (i := 7) (v := .bool zq) rfl rfl (by kernel_rfl) (by kernel_rfl) (by kernel_rfl) (by kernel_rfl) (fun W hS => by go_simp) HS.out ?_
                            simp only [Act.put, List.setIfInBounds_toArray, List.set_cons_zero, List.set_cons_succ]
                            have hVU : Var w5 w4.heap.size #[.string ⟨#[]⟩, .int .i64 0, .string ⟨#[]⟩, .int .i64 0] 34 := hVM
                            have v0 : w5.cell? ⟨w4.heap.size, 0, none⟩ = some (.string ⟨#[]⟩) := hVU.cell 0
                            have f0 : w5.frozen? ⟨w4.heap.size, 0, none⟩ = false := hVU.frozen 0
                            have v1 : w5.cell? ⟨w4.heap.size, 1, none⟩ = some (.int .i64 0) := hVU.cell 1
                            have f1 : w5.frozen? ⟨w4.heap.size, 1, none⟩ = false := hVU.frozen 1
                            have v2 : w5.cell? ⟨w4.heap.size, 2, none⟩ = some (.string ⟨#[]⟩) := hVU.cell 2
                            have f2 : w5.frozen? ⟨w4.heap.size, 2, none⟩ = false := hVU.frozen 2
                            have v3 : w5.cell? ⟨w4.heap.size, 3, none⟩ = some (.int .i64 0) := hVU.cell 3
                            have f3 : w5.frozen? ⟨w4.heap.size, 3, none⟩ = false := hVU.frozen 3
                            have hst : Only (fun j => w2.heap.size ≤ j) w5 ((((w5.setCell ⟨w4.heap.size, 0, none⟩ (.string z.p)).setCell ⟨w4.heap.size, 1, none⟩ (.int .i64 z.k)).setCell ⟨w4.heap.size, 2, none⟩ (.string z.d)).setCell ⟨w4.heap.size, 3, none⟩ (.int .i64 z.t)) := ((((Only.refl _ _).setCell (p := ⟨w4.heap.size, 0, none⟩) (HUL.out) _).setCell (p := ⟨w4.heap.size, 1, none⟩) (HUL.out) _).setCell (p := ⟨w4.heap.size, 2, none⟩) (HUL.out) _).setCell (p := ⟨w4.heap.size, 3, none⟩) (HUL.out) _
                            have q6 : Below w2.heap.size w2 ((((w5.setCell ⟨w4.heap.size, 0, none⟩ (.string z.p)).setCell ⟨w4.heap.size, 1, none⟩ (.int .i64 z.k)).setCell ⟨w4.heap.size, 2, none⟩ (.string z.d)).setCell ⟨w4.heap.size, 3, none⟩ (.int .i64 z.t)) := (q5).trans (hst.below (q5).size (fun j h => h))
                            have hVS := (((hVU.set 0 (.string z.p)).set 1 (.int .i64 z.k)).set 2 (.string z.d)).set 3 (.int .i64 z.t)
                            try simp only [List.setIfInBounds_toArray, List.set_cons_zero, List.set_cons_succ] at hVS
                            have vk : ((((w5.setCell ⟨w4.heap.size, 0, none⟩ (.string z.p)).setCell ⟨w4.heap.size, 1, none⟩ (.int .i64 z.k)).setCell ⟨w4.heap.size, 2, none⟩ (.string z.d)).setCell ⟨w4.heap.size, 3, none⟩ (.int .i64 z.t)).cell? ⟨w4.heap.size, 1, none⟩ = some (.int .i64 z.k) := hVS.cell 1
                            refine wpAnyH_ready (rs := [9]) (by kernel_rfl) (by simp) (AllReadyH.cons rfl (fun K hK => ?_) AllReadyH.nil)
                            go_simp
                            clear HS
                            have HS : Hid (((((w5.setCell ⟨w4.heap.size, 0, none⟩ (.string z.p)).setCell ⟨w4.heap.size, 1, none⟩ (.int .i64 z.k)).setCell ⟨w4.heap.size, 2, none⟩ (.string z.d)).setCell ⟨w4.heap.size, 3, none⟩ (.int .i64 z.t)).cell? ⟨w.heap.size, 0, none⟩ = some (.slice (some ⟨b, off, none⟩) l.length ca) ∧ ((((w5.setCell ⟨w4.heap.size, 0, none⟩ (.string z.p)).setCell ⟨w4.heap.size, 1, none⟩ (.int .i64 z.k)).setCell ⟨w4.heap.size, 2, none⟩ (.string z.d)).setCell ⟨w4.heap.size, 3, none⟩ (.int .i64 z.t)).cell? ⟨wr.heap.size, 0, none⟩ = some (.string yp)) := ⟨((q6).cell (p := ⟨w.heap.size, 0, none⟩) (by show w.heap.size < w2.heap.size; omega)).trans s4, ((q6).cell (p := ⟨wr.heap.size, 0, none⟩) (by show wr.heap.size < w2.heap.size; omega)).trans s0⟩
                            try clear hst
                            refine hK.out _ _ HS.out (fun hT => ?_)
                            clear hK K hT
                            try simp only [Act.put, List.setIfInBounds_toArray, List.set_cons_zero, List.set_cons_succ]
                            refine held_take (i := 10) (v := .bool zq) rfl rfl (by kernel_rfl) (by kernel_rfl) (by kernel_rfl) (by kernel_rfl) (fun W hS => by go_simp) HS.out ?_
                            simp only [Act.put, List.setIfInBounds_toArray, List.set_cons_zero, List.set_cons_succ]
                            refine wpAnyH_done (by kernel_rfl) ?_ _
                            simp only [NoPanic]
                            have r4 := HS.out.1
                            have q7 : Below w.heap.size w ((((w5.setCell ⟨w4.heap.size, 0, none⟩ (.string z.p)).setCell ⟨w4.heap.size, 1, none⟩ (.int .i64 z.k)).setCell ⟨w4.heap.size, 2, none⟩ (.string z.d)).setCell ⟨w4.heap.size, 3, none⟩ (.int .i64 z.t)) := hBW2.trans (q6.mono hBW2.size)
                            have q8 : w.heap.size + 1 ≤ ((((w5.setCell ⟨w4.heap.size, 0, none⟩ (.string z.p)).setCell ⟨w4.heap.size, 1, none⟩ (.int .i64 z.k)).setCell ⟨w4.heap.size, 2, none⟩ (.string z.d)).setCell ⟨w4.heap.size, 3, none⟩ (.int .i64 z.t)).heap.size := by have := q6.size; omega
                            clear v0 v1 v2 v3 f0 f1 f2 f3 hVU hVS HS q6
                            generalize ((((w5.setCell ⟨w4.heap.size, 0, none⟩ (.string z.p)).setCell ⟨w4.heap.size, 1, none⟩ (.int .i64 z.k)).setCell ⟨w4.heap.size, 2, none⟩ (.string z.d)).setCell ⟨w4.heap.size, 3, none⟩ (.int .i64 z.t)) = W6 at *
                            cases zq with
                            | false =>
                              have HNE : Hid (treeB l = false) := HNB.out fun h => by have h4 := h.2.2.2; rw [HU1.out, HU2.out rfl] at h4; cases h4
                              clear HNB HGO
                              go_wp2
                              go_ret
                              exact ⟨by rw [HNE.out]; rfl, q7⟩
                            | true =>
                              by_cases hzk : z.k = 2
                              · have HNX := HGO.out HOK.out HN2.out (fun h0 => absurd h0 HK0.out) (by rw [HU1.out]; exact decide_eq_true hzk)
                                have hzb : (z.k != 2) = false := by simpa using hzk
                                clear HNB HGO hzk
                                go_wp2
                                go_roundw
                                case rel => exact ⟨k + 1, by omega, by go_num, q7, q8, r4, HNX⟩
                                case measure => simp [intOf]; omega
                              · have HNE : Hid (treeB l = false) := HNB.out fun h => by have h4 := h.2.2.2; rw [HU1.out] at h4; exact hzk (of_decide_eq_true h4)
                                have hzb : (z.k != 2) = true := by simpa using hzk
                                clear HNB HGO hzk
                                go_wp2
                                go_ret
                                exact ⟨by rw [HNE.out]; rfl, q7⟩
                        · skip
                          go_simp
                          clear HS
                          have HS : Hid ((w2.drew.alloc (.cells #[.string ⟨#[]⟩, .int .i64 0, .string ⟨#[]⟩, .int .i64 0] 34)).cell? ⟨w.heap.size, 0, none⟩ = some (.slice (some ⟨b, off, none⟩) l.length ca) ∧ (w2.drew.alloc (.cells #[.string ⟨#[]⟩, .int .i64 0, .string ⟨#[]⟩, .int .i64 0] 34)).cell? ⟨wr.heap.size, 0, none⟩ = some (.string yp)) := ⟨((((Below.refl w2.heap.size w2).drew.alloc (Nat.le_refl _) (.cells #[.string ⟨#[]⟩, .int .i64 0, .string ⟨#[]⟩, .int .i64 0] 34))).cell (p := ⟨w.heap.size, 0, none⟩) (by show w.heap.size < w2.heap.size; omega)).trans s4, ((((Below.refl w2.heap.size w2).drew.alloc (Nat.le_refl _) (.cells #[.string ⟨#[]⟩, .int .i64 0, .string ⟨#[]⟩, .int .i64 0] 34))).cell (p := ⟨wr.heap.size, 0, none⟩) (by show wr.heap.size < w2.heap.size; omega)).trans s0⟩
                          refine hK.out _ _ HS.out (fun hT => ?_)
                          clear hK K hT
                          try simp only [Act.put, List.setIfInBounds_toArray, List.set_cons_zero, List.set_cons_succ]
                          refine wpAnyH_ready (rs := [3]) (by kernel_rfl) (by simp) (AllReadyH.cons rfl (fun K hK => ?_) AllReadyH.nil)
                          go_simp
                          refine (HAB.out _).mono ?_
                          rintro e w4 ⟨rfl, hb4⟩
                          have q4 : Below w2.heap.size w2 w4 := (((Below.refl w2.heap.size w2).drew.alloc (Nat.le_refl _) (.cells #[.string ⟨#[]⟩, .int .i64 0, .string ⟨#[]⟩, .int .i64 0] 34))).trans (hb4.mono (((Below.refl w2.heap.size w2).drew.alloc (Nat.le_refl _) (.cells #[.string ⟨#[]⟩, .int .i64 0, .string ⟨#[]⟩, .int .i64 0] 34))).size)
                          clear HS
                          have HS : Hid (w4.cell? ⟨w.heap.size, 0, none⟩ = some (.slice (some ⟨b, off, none⟩) l.length ca) ∧ w4.cell? ⟨wr.heap.size, 0, none⟩ = some (.string yp)) := ⟨((q4).cell (p := ⟨w.heap.size, 0, none⟩) (by show w.heap.size < w2.heap.size; omega)).trans s4, ((q4).cell (p := ⟨wr.heap.size, 0, none⟩) (by show wr.heap.size < w2.heap.size; omega)).trans s0⟩
                          have hVN : Var w4 w2.heap.size #[.string ⟨#[]⟩, .int .i64 0, .string ⟨#[]⟩, .int .i64 0] 34 := ((Var.made w2 _ _).new (Below.refl _ _).drew).new hb4
                          clear hb4
                          refine hK.out _ _ HS.out (fun hT => ?_)
                          clear hK K hT
                          try simp only [Act.put, List.setIfInBounds_toArray, List.set_cons_zero, List.set_cons_succ]
                          refine wpAnyH_ready (rs := [4]) (by kernel_rfl) (by simp) (AllReadyH.cons rfl (fun K hK => ?_) AllReadyH.nil)
                          go_simp
                          refine (HTG2.out _ (q4)).mono ?_
                          rintro e w5 ⟨rfl, hb5⟩
                          have q5 : Below w2.heap.size w2 w5 := (q4).trans (hb5.mono (q4).size)
                          clear HS
                          have HS : Hid (w5.cell? ⟨w.heap.size, 0, none⟩ = some (.slice (some ⟨b, off, none⟩) l.length ca) ∧ w5.cell? ⟨wr.heap.size, 0, none⟩ = some (.string yp)) := ⟨((q5).cell (p := ⟨w.heap.size, 0, none⟩) (by show w.heap.size < w2.heap.size; omega)).trans s4, ((q5).cell (p := ⟨wr.heap.size, 0, none⟩) (by show wr.heap.size < w2.heap.size; omega)).trans s0⟩
                          have hVM : Var w5 w2.heap.size #[.string ⟨#[]⟩, .int .i64 0, .string ⟨#[]⟩, .int .i64 0] 34 := hVN.new hb5
                          clear hb5
                          refine hK.out _ _ HS.out (fun hT => ?_)
                          clear hK K hT
                          try simp only [Act.put, List.setIfInBounds_toArray, List.set_cons_zero, List.set_cons_succ]
                          have HUL : Hid (w2.heap.size ≤ w2.heap.size) := Nat.le_refl _
                          refine held_take (i := 5) (v := .tuple #[.agg #[.string z.p, .int .i64 z.k, .string z.d, .int .i64 z.t], .bool zq]) rfl rfl (by kernel_rfl) (by kernel_rfl) (by kernel_rfl) (by kernel_rfl) (fun W hS => by go_simp) HS.out ?_
                          simp only [Act.put, List.setIfInBounds_toArray, List.set_cons_zero, List.set_cons_succ]
                          refine held_take (i := 6) (v := .agg #[.string z.p, .int .i64 z.k, .string z.d, .int .i64 z.t]) rfl rfl (by kernel_rfl) (by kernel_rfl) (by kernel_rfl) (by kernel_rfl) (fun W hS => by go_simp) HS.out ?_
                          simp only [Act.put, List.setIfInBounds_toArray, List.set_cons_zero, List.set_cons_succ]
                          refine held_take (i := 7) (v := .bool zq) rfl rfl (by kernel_rfl) (by kernel_rfl) (by kernel_rfl) (by kernel_rfl) (fun W hS => by go_simp) HS.out ?_
                          simp only [Act.put, List.setIfInBounds_toArray, List.set_cons_zero, List.set_cons_succ]
                          have hVU : Var w5 w2.heap.size #[.string ⟨#[]⟩, .int .i64 0, .string ⟨#[]⟩, .int .i64 0] 34 := hVM
                          have v0 : w5.cell? ⟨w2.heap.size, 0, none⟩ = some (.string ⟨#[]⟩) := hVU.cell 0
                          have f0 : w5.frozen? ⟨w2.heap.size, 0, none⟩ = false := hVU.frozen 0
                          have v1 : w5.cell? ⟨w2.heap.size, 1, none⟩ = some (.int .i64 0) := hVU.cell 1
                          have f1 : w5.frozen? ⟨w2.heap.size, 1, none⟩ = false := hVU.frozen 1
                          have v2 : w5.cell? ⟨w2.heap.size, 2, none⟩ = some (.string ⟨#[]⟩) := hVU.cell 2
                          have f2 : w5.frozen? ⟨w2.heap.size, 2, none⟩ = false := hVU.frozen 2
                          have v3 : w5.cell? ⟨w2.heap.size, 3, none⟩ = some (.int .i64 0) := hVU.cell 3
                          have f3 : w5.frozen? ⟨w2.heap.size, 3, none⟩ = false := hVU.frozen 3
                          have hst : Only (fun j => w2.heap.size ≤ j) w5 ((((w5.setCell ⟨w2.heap.size, 0, none⟩ (.string z.p)).setCell ⟨w2.heap.size, 1, none⟩ (.int .i64 z.k)).setCell ⟨w2.heap.size, 2, none⟩ (.string z.d)).setCell ⟨w2.heap.size, 3, none⟩ (.int .i64 z.t)) := ((((Only.refl _ _).setCell (p := ⟨w2.heap.size, 0, none⟩) (HUL.out) _).setCell (p := ⟨w2.heap.size, 1, none⟩) (HUL.out) _).setCell (p := ⟨w2.heap.size, 2, none⟩) (HUL.out) _).setCell (p := ⟨w2.heap.size, 3, none⟩) (HUL.out) _
                          have q6 : Below w2.heap.size w2 ((((w5.setCell ⟨w2.heap.size, 0, none⟩ (.string z.p)).setCell ⟨w2.heap.size, 1, none⟩ (.int .i64 z.k)).setCell ⟨w2.heap.size, 2, none⟩ (.string z.d)).setCell ⟨w2.heap.size, 3, none⟩ (.int .i64 z.t)) := (q5).trans (hst.below (q5).size (fun j h => h))
                          have hVS := (((hVU.set 0 (.string z.p)).set 1 (.int .i64 z.k)).set 2 (.string z.d)).set 3 (.int .i64 z.t)
                          try simp only [List.setIfInBounds_toArray, List.set_cons_zero, List.set_cons_succ] at hVS
                          have vk : ((((w5.setCell ⟨w2.heap.size, 0, none⟩ (.string z.p)).setCell ⟨w2.heap.size, 1, none⟩ (.int .i64 z.k)).setCell ⟨w2.heap.size, 2, none⟩ (.string z.d)).setCell ⟨w2.heap.size, 3, none⟩ (.int .i64 z.t)).cell? ⟨w2.heap.size, 1, none⟩ = some (.int .i64 z.k) := hVS.cell 1
                          refine wpAnyH_ready (rs := [9]) (by kernel_rfl) (by simp) (AllReadyH.cons rfl (fun K hK => ?_) AllReadyH.nil)
                          go_simp
                          clear HS
                          have HS : Hid (((((w5.setCell ⟨w2.heap.size, 0, none⟩ (.string z.p)).setCell ⟨w2.heap.size, 1, none⟩ (.int .i64 z.k)).setCell ⟨w2.heap.size, 2, none⟩ (.string z.d)).setCell ⟨w2.heap.size, 3, none⟩ (.int .i64 z.t)).cell? ⟨w.heap.size, 0, none⟩ = some (.slice (some ⟨b, off, none⟩) l.length ca) ∧ ((((w5.setCell ⟨w2.heap.size, 0, none⟩ (.string z.p)).setCell ⟨w2.heap.size, 1, none⟩ (.int .i64 z.k)).setCell ⟨w2.heap.size, 2, none⟩ (.string z.d)).setCell ⟨w2.heap.size, 3, none⟩ (.int .i64 z.t)).cell? ⟨wr.heap.size, 0, none⟩ = some (.string yp)) := ⟨((q6).cell (p := ⟨w.heap.size, 0, none⟩) (by show w.heap.size < w2.heap.size; omega)).trans s4, ((q6).cell (p := ⟨wr.heap.size, 0, none⟩) (by show wr.heap.size < w2.heap.size; omega)).trans s0⟩
                          try clear hst
                          refine hK.out _ _ HS.out (fun hT => ?_)
                          clear hK K hT
                          try simp only [Act.put, List.setIfInBounds_toArray, List.set_cons_zero, List.set_cons_succ]
                          refine held_take (i := 10) (v := .bool zq) rfl rfl (by kernel_rfl) (by kernel_rfl) (by kernel_rfl) (by kernel_rfl) (fun W hS => by go_simp) HS.out ?_
                          simp only [Act.put, List.setIfInBounds_toArray, List.set_cons_zero, List.set_cons_succ]
                          refine wpAnyH_done (by kernel_rfl) ?_ _
                          simp only [NoPanic]
                          have r4 := HS.out.1
                          have q7 : Below w.heap.size w ((((w5.setCell ⟨w2.heap.size, 0, none⟩ (.string z.p)).setCell ⟨w2.heap.size, 1, none⟩ (.int .i64 z.k)).setCell ⟨w2.heap.size, 2, none⟩ (.string z.d)).setCell ⟨w2.heap.size, 3, none⟩ (.int .i64 z.t)) := hBW2.trans (q6.mono hBW2.size)
                          have q8 : w.heap.size + 1 ≤ ((((w5.setCell ⟨w2.heap.size, 0, none⟩ (.string z.p)).setCell ⟨w2.heap.size, 1, none⟩ (.int .i64 z.k)).setCell ⟨w2.heap.size, 2, none⟩ (.string z.d)).setCell ⟨w2.heap.size, 3, none⟩ (.int .i64 z.t)).heap.size := by have := q6.size; omega
                          clear v0 v1 v2 v3 f0 f1 f2 f3 hVU hVS HS q6
                          generalize ((((w5.setCell ⟨w2.heap.size, 0, none⟩ (.string z.p)).setCell ⟨w2.heap.size, 1, none⟩ (.int .i64 z.k)).setCell ⟨w2.heap.size, 2, none⟩ (.string z.d)).setCell ⟨w2.heap.size, 3, none⟩ (.int .i64 z.t)) = W6 at *
                          cases zq with
                          | false =>
                            have HNE : Hid (treeB l = false) := HNB.out fun h => by have h4 := h.2.2.2; rw [HU1.out, HU2.out rfl] at h4; cases h4
                            clear HNB HGO
                            go_wp2
                            go_ret
                            exact ⟨by rw [HNE.out]; rfl, q7⟩
                          | true =>
                            by_cases hzk : z.k = 2
                            · have HNX := HGO.out HOK.out HN2.out (fun h0 => absurd h0 HK0.out) (by rw [HU1.out]; exact decide_eq_true hzk)
                              have hzb : (z.k != 2) = false := by simpa using hzk
                              clear HNB HGO hzk
                              go_wp2
                              go_roundw
                              case rel => exact ⟨k + 1, by omega, by go_num, q7, q8, r4, HNX⟩
                              case measure => simp [intOf]; omega
                            · have HNE : Hid (treeB l = false) := HNB.out fun h => by have h4 := h.2.2.2; rw [HU1.out] at h4; exact hzk (of_decide_eq_true h4)
                              have hzb : (z.k != 2) = true := by simpa using hzk
                              clear HNB HGO hzk
                              go_wp2
                              go_ret
                              exact ⟨by rw [HNE.out]; rfl, q7⟩
                      · have hk2b : (yk == 2) = false := by simpa using hk2
                        clear hd
                        go_upto_region 11 with fail
                        obtain ⟨hup1, hup2, hup3⟩ := HUP.out
                        have HU1 : Hid _ := hup1
                        have HU2 : Hid _ := hup2
                        have HTG2 : Hid (∀ W, Below w2.heap.size w2 W → Calls Try.prog 12 #[.agg #[.slice (some ⟨b, off, none⟩) l.length ca], .string (tx (abv (bt yp)))] W fun e w' => e = .returned (.tuple #[.agg #[.string (itAt l (tx (abv (bt yp)))).p, .int .i64 (itAt l (tx (abv (bt yp)))).k, .string (itAt l (tx (abv (bt yp)))).d, .int .i64 (itAt l (tx (abv (bt yp)))).t], .bool (itIs l (tx (abv (bt yp))))]) ∧ Below W.heap.size W w') := fun W h => HTG.out _ W (hBW2.trans (h.mono hBW2.size)) hup3
                        clear hup1 hup2 hup3 HTG HUP
                        generalize itAt l (tx (abv (bt yp))) = z at *
                        generalize itIs l (tx (abv (bt yp))) = zq at *
                        generalize tx (abv (bt yp)) = up at *
                        refine wp_region_noPanic ?_
                        have HS : Hid (w2.cell? ⟨w.heap.size, 0, none⟩ = some (.slice (some ⟨b, off, none⟩) l.length ca) ∧ w2.cell? ⟨wr.heap.size, 0, none⟩ = some (.string yp)) := ⟨s4, s0⟩
                        refine wp_region_held_drew (S := (fun W => W.cell? ⟨w.heap.size, 0, none⟩ = some (.slice (some ⟨b, off, none⟩) l.length ca) ∧ W.cell? ⟨wr.heap.size, 0, none⟩ = some (.string yp))) (by kernel_rfl) HS.out (fun hT => ?_)
                        clear hT
                        refine held_take (i := 0) (v := .agg #[.slice (some ⟨b, off, none⟩) l.length ca]) rfl rfl (by kernel_rfl) (by kernel_rfl) (by kernel_rfl) (by kernel_rfl) (fun W hS => by obtain ⟨r4, r0⟩ := hS; go_simp) HS.out ?_
                        simp only [Act.put, List.setIfInBounds_toArray, List.set_cons_zero, List.set_cons_succ]
                        refine held_take (i := 1) (v := .pointer (some ⟨wr.heap.size, 0, none⟩)) rfl rfl (by kernel_rfl) (by kernel_rfl) (by kernel_rfl) (by kernel_rfl) (fun W hS => by go_simp) HS.out ?_
                        simp only [Act.put, List.setIfInBounds_toArray, List.set_cons_zero, List.set_cons_succ]
                        refine held_take (i := 2) (v := .string yp) rfl rfl (by kernel_rfl) (by kernel_rfl) (by kernel_rfl) (by kernel_rfl) (fun W hS => by obtain ⟨r4, r0⟩ := hS; go_simp) HS.out ?_
                        simp only [Act.put, List.setIfInBounds_toArray, List.set_cons_zero, List.set_cons_succ]
                        refine wpAnyH_ready (rs := [3, 8]) (by kernel_rfl) (by simp) (AllReadyH.cons rfl (fun K hK => ?_) (AllReadyH.cons rfl (fun K hK => ?_) AllReadyH.nil))
                        · skip
                          go_simp
                          refine (HAB.out _).mono ?_
                          rintro e w4 ⟨rfl, hb4⟩
                          have q4 : Below w2.heap.size w2 w4 := ((Below.refl w2.heap.size w2).drew).trans (hb4.mono ((Below.refl w2.heap.size w2).drew).size)
                          clear HS
                          have HS : Hid (w4.cell? ⟨w.heap.size, 0, none⟩ = some (.slice (some ⟨b, off, none⟩) l.length ca) ∧ w4.cell? ⟨wr.heap.size, 0, none⟩ = some (.string yp)) := ⟨((q4).cell (p := ⟨w.heap.size, 0, none⟩) (by show w.heap.size < w2.heap.size; omega)).trans s4, ((q4).cell (p := ⟨wr.heap.size, 0, none⟩) (by show wr.heap.size < w2.heap.size; omega)).trans s0⟩
                          clear hb4
                          refine hK.out _ _ HS.out (fun hT => ?_)
                          clear hK K hT
                          try simp only [Act.put, List.setIfInBounds_toArray, List.set_cons_zero, List.set_cons_succ]
                          refine wpAnyH_ready (rs := [4, 8]) (by kernel_rfl) (by simp) (AllReadyH.cons rfl (fun K hK => ?_) (AllReadyH.cons rfl (fun K hK => ?_) AllReadyH.nil))
                          · skip
                            go_simp
                            refine (HTG2.out _ (q4)).mono ?_
                            rintro e w5 ⟨rfl, hb5⟩
                            have q5 : Below w2.heap.size w2 w5 := (q4).trans (hb5.mono (q4).size)
                            clear HS
                            have HS : Hid (w5.cell? ⟨w.heap.size, 0, none⟩ = some (.slice (some ⟨b, off, none⟩) l.length ca) ∧ w5.cell? ⟨wr.heap.size, 0, none⟩ = some (.string yp)) := ⟨((q5).cell (p := ⟨w.heap.size, 0, none⟩) (by show w.heap.size < w2.heap.size; omega)).trans s4, ((q5).cell (p := ⟨wr.heap.size, 0, none⟩) (by show wr.heap.size < w2.heap.size; omega)).trans s0⟩
                            clear hb5
                            refine hK.out _ _ HS.out (fun hT => ?_)
                            clear hK K hT
                            try simp only [Act.put, List.setIfInBounds_toArray, List.set_cons_zero, List.set_cons_succ]
                            refine held_take (i := 5) (v := .tuple #[.agg #[.string z.p, .int .i64 z.k, .string z.d, .int .i64 z.t], .bool zq]) rfl rfl (by kernel_rfl) (by kernel_rfl) (by kernel_rfl) (by kernel_rfl) (fun W hS => by go_simp) HS.out ?_
                            simp only [Act.put, List.setIfInBounds_toArray, List.set_cons_zero, List.set_cons_succ]
                            refine held_take (i := 6) (v := .agg #[.string z.p, .int .i64 z.k, .string z.d, .int .i64 z.t]) rfl rfl (by kernel_rfl) (by kernel_rfl) (by kernel_rfl) (by kernel_rfl) (fun W hS => by go_simp) HS.out ?_
                            simp only [Act.put, List.setIfInBounds_toArray, List.set_cons_zero, List.set_cons_succ]
                            refine held_take (i := 7) (v := .bool zq) rfl rfl (by kernel_rfl) (by kernel_rfl) (by kernel_rfl) (by kernel_rfl) (fun W hS => by go_simp) HS.out ?_
                            simp only [Act.put, List.setIfInBounds_toArray, List.set_cons_zero, List.set_cons_succ]
                            refine wpAnyH_ready (rs := [8]) (by kernel_rfl) (by simp) (AllReadyH.cons rfl (fun K hK => ?_) AllReadyH.nil)
                            go_simp
                            clear HS
                            have HS : Hid ((w5.alloc (.cells #[.string ⟨#[]⟩, .int .i64 0, .string ⟨#[]⟩, .int .i64 0] 34)).cell? ⟨w.heap.size, 0, none⟩ = some (.slice (some ⟨b, off, none⟩) l.length ca) ∧ (w5.alloc (.cells #[.string ⟨#[]⟩, .int .i64 0, .string ⟨#[]⟩, .int .i64 0] 34)).cell? ⟨wr.heap.size, 0, none⟩ = some (.string yp)) := ⟨(((q5.alloc q5.size (.cells #[.string ⟨#[]⟩, .int .i64 0, .string ⟨#[]⟩, .int .i64 0] 34))).cell (p := ⟨w.heap.size, 0, none⟩) (by show w.heap.size < w2.heap.size; omega)).trans s4, (((q5.alloc q5.size (.cells #[.string ⟨#[]⟩, .int .i64 0, .string ⟨#[]⟩, .int .i64 0] 34))).cell (p := ⟨wr.heap.size, 0, none⟩) (by show wr.heap.size < w2.heap.size; omega)).trans s0⟩
                            refine hK.out _ _ HS.out (fun hT => ?_)
                            clear hK K hT
                            try simp only [Act.put, List.setIfInBounds_toArray, List.set_cons_zero, List.set_cons_succ]
                            have HUL : Hid (w2.heap.size ≤ w5.heap.size) := q5.size
                            have hVU : Var (w5.alloc (.cells #[.string ⟨#[]⟩, .int .i64 0, .string ⟨#[]⟩, .int .i64 0] 34)) w5.heap.size #[.string ⟨#[]⟩, .int .i64 0, .string ⟨#[]⟩, .int .i64 0] 34 := Var.made w5 _ _
                            have v0 : (w5.alloc (.cells #[.string ⟨#[]⟩, .int .i64 0, .string ⟨#[]⟩, .int .i64 0] 34)).cell? ⟨w5.heap.size, 0, none⟩ = some (.string ⟨#[]⟩) := hVU.cell 0
                            have f0 : (w5.alloc (.cells #[.string ⟨#[]⟩, .int .i64 0, .string ⟨#[]⟩, .int .i64 0] 34)).frozen? ⟨w5.heap.size, 0, none⟩ = false := hVU.frozen 0
                            have v1 : (w5.alloc (.cells #[.string ⟨#[]⟩, .int .i64 0, .string ⟨#[]⟩, .int .i64 0] 34)).cell? ⟨w5.heap.size, 1, none⟩ = some (.int .i64 0) := hVU.cell 1
                            have f1 : (w5.alloc (.cells #[.string ⟨#[]⟩, .int .i64 0, .string ⟨#[]⟩, .int .i64 0] 34)).frozen? ⟨w5.heap.size, 1, none⟩ = false := hVU.frozen 1
                            have v2 : (w5.alloc (.cells #[.string ⟨#[]⟩, .int .i64 0, .string ⟨#[]⟩, .int .i64 0] 34)).cell? ⟨w5.heap.size, 2, none⟩ = some (.string ⟨#[]⟩) := hVU.cell 2
                            have f2 : (w5.alloc (.cells #[.string ⟨#[]⟩, .int .i64 0, .string ⟨#[]⟩, .int .i64 0] 34)).frozen? ⟨w5.heap.size, 2, none⟩ = false := hVU.frozen 2
                            have v3 : (w5.alloc (.cells #[.string ⟨#[]⟩, .int .i64 0, .string ⟨#[]⟩, .int .i64 0] 34)).cell? ⟨w5.heap.size, 3, none⟩ = some (.int .i64 0) := hVU.cell 3
                            have f3 : (w5.alloc (.cells #[.string ⟨#[]⟩, .int .i64 0, .string ⟨#[]⟩, .int .i64 0] 34)).frozen? ⟨w5.heap.size, 3, none⟩ = false := hVU.frozen 3
                            have q6 : Below w2.heap.size w2 (w5.alloc (.cells #[.string z.p, .int .i64 z.k, .string z.d, .int .i64 z.t] 34)) := q5.alloc q5.size _
                            have hVS := Var.made w5 #[.string z.p, .int .i64 z.k, .string z.d, .int .i64 z.t] 34
                            try simp only [List.setIfInBounds_toArray, List.set_cons_zero, List.set_cons_succ] at hVS
                            have vk : (w5.alloc (.cells #[.string z.p, .int .i64 z.k, .string z.d, .int .i64 z.t] 34)).cell? ⟨w5.heap.size, 1, none⟩ = some (.int .i64 z.k) := hVS.cell 1
                            refine wpAnyH_ready (rs := [9]) (by kernel_rfl) (by simp) (AllReadyH.cons rfl (fun K hK => ?_) AllReadyH.nil)
                            go_simp
                            clear HS
                            have HS : Hid ((w5.alloc (.cells #[.string z.p, .int .i64 z.k, .string z.d, .int .i64 z.t] 34)).cell? ⟨w.heap.size, 0, none⟩ = some (.slice (some ⟨b, off, none⟩) l.length ca) ∧ (w5.alloc (.cells #[.string z.p, .int .i64 z.k, .string z.d, .int .i64 z.t] 34)).cell? ⟨wr.heap.size, 0, none⟩ = some (.string yp)) := ⟨((q6).cell (p := ⟨w.heap.size, 0, none⟩) (by show w.heap.size < w2.heap.size; omega)).trans s4, ((q6).cell (p := ⟨wr.heap.size, 0, none⟩) (by show wr.heap.size < w2.heap.size; omega)).trans s0⟩
                            try clear hst
                            refine hK.out _ _ HS.out (fun hT => ?_)
                            clear hK K hT
                            try simp only [Act.put, List.setIfInBounds_toArray, List.set_cons_zero, List.set_cons_succ]
                            refine held_take (i := 10) (v := .bool zq) rfl rfl (by kernel_rfl) (by kernel_rfl) (by kernel_rfl) (by kernel_rfl) (fun W hS => by go_simp) HS.out ?_
                            simp only [Act.put, List.setIfInBounds_toArray, List.set_cons_zero, List.set_cons_succ]
                            refine wpAnyH_done (by kernel_rfl) ?_ _
                            simp only [NoPanic]
                            have r4 := HS.out.1
                            have q7 : Below w.heap.size w (w5.alloc (.cells #[.string z.p, .int .i64 z.k, .string z.d, .int .i64 z.t] 34)) := hBW2.trans (q6.mono hBW2.size)
                            have q8 : w.heap.size + 1 ≤ (w5.alloc (.cells #[.string z.p, .int .i64 z.k, .string z.d, .int .i64 z.t] 34)).heap.size := by have := q6.size; omega
                            clear v0 v1 v2 v3 f0 f1 f2 f3 hVU hVS HS q6
                            generalize (w5.alloc (.cells #[.string z.p, .int .i64 z.k, .string z.d, .int .i64 z.t] 34)) = W6 at *
                            cases zq with
                            | false =>
                              have HNE : Hid (treeB l = false) := HNB.out fun h => by have h4 := h.2.2.2; rw [HU1.out, HU2.out rfl] at h4; cases h4
                              clear HNB HGO
                              go_wp2
                              go_ret
                              exact ⟨by rw [HNE.out]; rfl, q7⟩
                            | true =>
                              by_cases hzk : z.k = 2
                              · have HNX := HGO.out HOK.out HN2.out (fun h0 => absurd h0 HK0.out) (by rw [HU1.out]; exact decide_eq_true hzk)
                                have hzb : (z.k != 2) = false := by simpa using hzk
                                clear HNB HGO hzk
                                go_wp2
                                go_roundw
                                case rel => exact ⟨k + 1, by omega, by go_num, q7, q8, r4, HNX⟩
                                case measure => simp [intOf]; omega
                              · have HNE : Hid (treeB l = false) := HNB.out fun h => by have h4 := h.2.2.2; rw [HU1.out] at h4; exact hzk (of_decide_eq_true h4)
                                have hzb : (z.k != 2) = true := by simpa using hzk
                                clear HNB HGO hzk
                                go_wp2
                                go_ret
                                exact ⟨by rw [HNE.out]; rfl, q7⟩
                          · skip
                            go_simp
                            clear HS
                            have HS : Hid ((w4.alloc (.cells #[.string ⟨#[]⟩, .int .i64 0, .string ⟨#[]⟩, .int .i64 0] 34)).cell? ⟨w.heap.size, 0, none⟩ = some (.slice (some ⟨b, off, none⟩) l.length ca) ∧ (w4.alloc (.cells #[.string ⟨#[]⟩, .int .i64 0, .string ⟨#[]⟩, .int .i64 0] 34)).cell? ⟨wr.heap.size, 0, none⟩ = some (.string yp)) := ⟨(((q4.alloc q4.size (.cells #[.string ⟨#[]⟩, .int .i64 0, .string ⟨#[]⟩, .int .i64 0] 34))).cell (p := ⟨w.heap.size, 0, none⟩) (by show w.heap.size < w2.heap.size; omega)).trans s4, (((q4.alloc q4.size (.cells #[.string ⟨#[]⟩, .int .i64 0, .string ⟨#[]⟩, .int .i64 0] 34))).cell (p := ⟨wr.heap.size, 0, none⟩) (by show wr.heap.size < w2.heap.size; omega)).trans s0⟩
                            refine hK.out _ _ HS.out (fun hT => ?_)
                            clear hK K hT
                            try simp only [Act.put, List.setIfInBounds_toArray, List.set_cons_zero, List.set_cons_succ]
                            refine wpAnyH_ready (rs := [4]) (by kernel_rfl) (by simp) (AllReadyH.cons rfl (fun K hK => ?_) AllReadyH.nil)
                            go_simp
                            refine (HTG2.out _ ((q4.alloc q4.size (.cells #[.string ⟨#[]⟩, .int .i64 0, .string ⟨#[]⟩, .int .i64 0] 34)))).mono ?_
                            rintro e w5 ⟨rfl, hb5⟩
                            have q5 : Below w2.heap.size w2 w5 := ((q4.alloc q4.size (.cells #[.string ⟨#[]⟩, .int .i64 0, .string ⟨#[]⟩, .int .i64 0] 34))).trans (hb5.mono ((q4.alloc q4.size (.cells #[.string ⟨#[]⟩, .int .i64 0, .string ⟨#[]⟩, .int .i64 0] 34))).size)
                            clear HS
                            have HS : Hid (w5.cell? ⟨w.heap.size, 0, none⟩ = some (.slice (some ⟨b, off, none⟩) l.length ca) ∧ w5.cell? ⟨wr.heap.size, 0, none⟩ = some (.string yp)) := ⟨((q5).cell (p := ⟨w.heap.size, 0, none⟩) (by show w.heap.size < w2.heap.size; omega)).trans s4, ((q5).cell (p := ⟨wr.heap.size, 0, none⟩) (by show wr.heap.size < w2.heap.size; omega)).trans s0⟩
                            have hVM : Var w5 w4.heap.size #[.string ⟨#[]⟩, .int .i64 0, .string ⟨#[]⟩, .int .i64 0] 34 := (Var.made w4 _ _).new hb5
                            clear hb5
                            refine hK.out _ _ HS.out (fun hT => ?_)
                            clear hK K hT
                            try simp only [Act.put, List.setIfInBounds_toArray, List.set_cons_zero, List.set_cons_succ]
                            have HUL : Hid (w2.heap.size ≤ w4.heap.size) := q4.size
                            refine held_take (i := 5) (v := .tuple #[.agg #[.string z.p, .int .i64 z.k, .string z.d, .int .i64 z.t], .bool zq]) rfl rfl (by kernel_rfl) (by kernel_rfl) (by kernel_rfl) (by kernel_rfl) (fun W hS => by go_simp) HS.out ?_
                            simp only [Act.put, List.setIfInBounds_toArray, List.set_cons_zero, List.set_cons_succ]
                            refine held_take (i := 6) (v := .agg #[.string z.p, .int .i64 z.k, .string z.d, .int .i64 z.t]) rfl rfl (by kernel_rfl) (by kernel_rfl) (by kernel_rfl) (by kernel_rfl) (fun W hS => by go_simp) HS.out ?_
                            simp only [Act.put, List.setIfInBounds_toArray, List.set_cons_zero, List.set_cons_succ]
                            refine held_take (i := 7) (v := .bool zq) rfl rfl (by kernel_rfl) (by kernel_rfl) (by kernel_rfl) (by kernel_rfl) (fun W hS => by go_simp) HS.out ?_
                            simp only [Act.put, List.setIfInBounds_toArray, List.set_cons_zero, List.set_cons_succ]
                            have hVU : Var w5 w4.heap.size #[.string ⟨#[]⟩, .int .i64 0, .string ⟨#[]⟩, .int .i64 0] 34 := hVM
                            have v0 : w5.cell? ⟨w4.heap.size, 0, none⟩ = some (.string ⟨#[]⟩) := hVU.cell 0
                            have f0 : w5.frozen? ⟨w4.heap.size, 0, none⟩ = false := hVU.frozen 0
                            have v1 : w5.cell? ⟨w4.heap.size, 1, none⟩ = some (.int .i64 0) := hVU.cell 1
                            have f1 : w5.frozen? ⟨w4.heap.size, 1, none⟩ = false := hVU.frozen 1
                            have v2 : w5.cell? ⟨w4.heap.size, 2, none⟩ = some (.string ⟨#[]⟩) := hVU.cell 2
                            have f2 : w5.frozen? ⟨w4.heap.size, 2, none⟩ = false := hVU.frozen 2
                            have v3 : w5.cell? ⟨w4.heap.size, 3, none⟩ = some (.int .i64 0) := hVU.cell 3
                            have f3 : w5.frozen? ⟨w4.heap.size, 3, none⟩ = false := hVU.frozen 3
                            have hst : Only (fun j => w2.heap.size ≤ j) w5 ((((w5.setCell ⟨w4.heap.size, 0, none⟩ (.string z.p)).setCell ⟨w4.heap.size, 1, none⟩ (.int .i64 z.k)).setCell ⟨w4.heap.size, 2, none⟩ (.string z.d)).setCell ⟨w4.heap.size, 3, none⟩ (.int .i64 z.t)) := ((((Only.refl _ _).setCell (p := ⟨w4.heap.size, 0, none⟩) (HUL.out) _).setCell (p := ⟨w4.heap.size, 1, none⟩) (HUL.out) _).setCell (p := ⟨w4.heap.size, 2, none⟩) (HUL.out) _).setCell (p := ⟨w4.heap.size, 3, none⟩) (HUL.out) _
                            have q6 : Below w2.heap.size w2 ((((w5.setCell ⟨w4.heap.size, 0, none⟩ (.string z.p)).setCell ⟨w4.heap.size, 1, none⟩ (.int .i64 z.k)).setCell ⟨w4.heap.size, 2, none⟩ (.string z.d)).setCell ⟨w4.heap.size, 3, none⟩ (.int .i64 z.t)) := (q5).trans (hst.below (q5).size (fun j h => h))
                            have hVS := (((hVU.set 0 (.string z.p)).set 1 (.int .i64 z.k)).set 2 (.string z.d)).set 3 (.int .i64 z.t)
                            try simp only [List.setIfInBounds_toArray, List.set_cons_zero, List.set_cons_succ] at hVS
                            have vk : ((((w5.setCell ⟨w4.heap.size, 0, none⟩ (.string z.p)).setCell ⟨w4.heap.size, 1, none⟩ (.int .i64 z.k)).setCell ⟨w4.heap.size, 2, none⟩ (.string z.d)).setCell ⟨w4.heap.size, 3, none⟩ (.int .i64 z.t)).cell? ⟨w4.heap.size, 1, none⟩ = some (.int .i64 z.k) := hVS.cell 1
                            refine wpAnyH_ready (rs := [9]) (by kernel_rfl) (by simp) (AllReadyH.cons rfl (fun K hK => ?_) AllReadyH.nil)
                            go_simp
                            clear HS
                            have HS : Hid (((((w5.setCell ⟨w4.heap.size, 0, none⟩ (.string z.p)).setCell ⟨w4.heap.size, 1, none⟩ (.int .i64 z.k)).setCell ⟨w4.heap.size, 2, none⟩ (.string z.d)).setCell ⟨w4.heap.size, 3, none⟩ (.int .i64 z.t)).cell? ⟨w.heap.size, 0, none⟩ = some (.slice (some ⟨b, off, none⟩) l.length ca) ∧ ((((w5.setCell ⟨w4.heap.size, 0, none⟩ (.string z.p)).setCell ⟨w4.heap.size, 1, none⟩ (.int .i64 z.k)).setCell ⟨w4.heap.size, 2, none⟩ (.string z.d)).setCell ⟨w4.heap.size, 3, none⟩ (.int .i64 z.t)).cell? ⟨wr.heap.size, 0, none⟩ = some (.string yp)) := ⟨((q6).cell (p := ⟨w.heap.size, 0, none⟩) (by show w.heap.size < w2.heap.size; omega)).trans s4, ((q6).cell (p := ⟨wr.heap.size, 0, none⟩) (by show wr.heap.size < w2.heap.size; omega)).trans s0⟩
                            try clear hst
                            refine hK.out _ _ HS.out (fun hT => ?_)
                            clear hK K hT
                            try simp only [Act.put, List.setIfInBounds_toArray, List.set_cons_zero, List.set_cons_succ]
                            refine held_take (i := 10) (v := .bool zq) rfl rfl (by kernel_rfl) (by kernel_rfl) (by kernel_rfl) (by kernel_rfl) (fun W hS => by go_simp) HS.out ?_
                            simp only [Act.put, List.setIfInBounds_toArray, List.set_cons_zero, List.set_cons_succ]
                            refine wpAnyH_done (by kernel_rfl) ?_ _
                            simp only [NoPanic]
                            have r4 := HS.out.1
                            have q7 : Below w.heap.size w ((((w5.setCell ⟨w4.heap.size, 0, none⟩ (.string z.p)).setCell ⟨w4.heap.size, 1, none⟩ (.int .i64 z.k)).setCell ⟨w4.heap.size, 2, none⟩ (.string z.d)).setCell ⟨w4.heap.size, 3, none⟩ (.int .i64 z.t)) := hBW2.trans (q6.mono hBW2.size)
                            have q8 : w.heap.size + 1 ≤ ((((w5.setCell ⟨w4.heap.size, 0, none⟩ (.string z.p)).setCell ⟨w4.heap.size, 1, none⟩ (.int .i64 z.k)).setCell ⟨w4.heap.size, 2, none⟩ (.string z.d)).setCell ⟨w4.heap.size, 3, none⟩ (.int .i64 z.t)).heap.size := by have := q6.size; omega
                            clear v0 v1 v2 v3 f0 f1 f2 f3 hVU hVS HS q6
                            generalize ((((w5.setCell ⟨w4.heap.size, 0, none⟩ (.string z.p)).setCell ⟨w4.heap.size, 1, none⟩ (.int .i64 z.k)).setCell ⟨w4.heap.size, 2, none⟩ (.string z.d)).setCell ⟨w4.heap.size, 3, none⟩ (.int .i64 z.t)) = W6 at *
                            cases zq with
                            | false =>
                              have HNE : Hid (treeB l = false) := HNB.out fun h => by have h4 := h.2.2.2; rw [HU1.out, HU2.out rfl] at h4; cases h4
                              clear HNB HGO
                              go_wp2
                              go_ret
                              exact ⟨by rw [HNE.out]; rfl, q7⟩
                            | true =>
                              by_cases hzk : z.k = 2
                              · have HNX := HGO.out HOK.out HN2.out (fun h0 => absurd h0 HK0.out) (by rw [HU1.out]; exact decide_eq_true hzk)
                                have hzb : (z.k != 2) = false := by simpa using hzk
                                clear HNB HGO hzk
                                go_wp2
                                go_roundw
                                case rel => exact ⟨k + 1, by omega, by go_num, q7, q8, r4, HNX⟩
                                case measure => simp [intOf]; omega
                              · have HNE : Hid (treeB l = false) := HNB.out fun h => by have h4 := h.2.2.2; rw [HU1.out] at h4; exact hzk (of_decide_eq_true h4)
                                have hzb : (z.k != 2) = true := by simpa using hzk
                                clear HNB HGO hzk
                                go_wp2
                                go_ret
                                exact ⟨by rw [HNE.out]; rfl, q7⟩
                        · skip
                          go_simp
                          clear HS
                          have HS : Hid ((w2.drew.alloc (.cells #[.string ⟨#[]⟩, .int .i64 0, .string ⟨#[]⟩, .int .i64 0] 34)).cell? ⟨w.heap.size, 0, none⟩ = some (.slice (some ⟨b, off, none⟩) l.length ca) ∧ (w2.drew.alloc (.cells #[.string ⟨#[]⟩, .int .i64 0, .string ⟨#[]⟩, .int .i64 0] 34)).cell? ⟨wr.heap.size, 0, none⟩ = some (.string yp)) := ⟨((((Below.refl w2.heap.size w2).drew.alloc (Nat.le_refl _) (.cells #[.string ⟨#[]⟩, .int .i64 0, .string ⟨#[]⟩, .int .i64 0] 34))).cell (p := ⟨w.heap.size, 0, none⟩) (by show w.heap.size < w2.heap.size; omega)).trans s4, ((((Below.refl w2.heap.size w2).drew.alloc (Nat.le_refl _) (.cells #[.string ⟨#[]⟩, .int .i64 0, .string ⟨#[]⟩, .int .i64 0] 34))).cell (p := ⟨wr.heap.size, 0, none⟩) (by show wr.heap.size < w2.heap.size; omega)).trans s0⟩
                          refine hK.out _ _ HS.out (fun hT => ?_)
                          clear hK K hT
                          try simp only [Act.put, List.setIfInBounds_toArray, List.set_cons_zero, List.set_cons_succ]
                          refine wpAnyH_ready (rs := [3]) (by kernel_rfl) (by simp) (AllReadyH.cons rfl (fun K hK => ?_) AllReadyH.nil)
                          go_simp
                          refine (HAB.out _).mono ?_
                          rintro e w4 ⟨rfl, hb4⟩
                          have q4 : Below w2.heap.size w2 w4 := (((Below.refl w2.heap.size w2).drew.alloc (Nat.le_refl _) (.cells #[.string ⟨#[]⟩, .int .i64 0, .string ⟨#[]⟩, .int .i64 0] 34))).trans (hb4.mono (((Below.refl w2.heap.size w2).drew.alloc (Nat.le_refl _) (.cells #[.string ⟨#[]⟩, .int .i64 0, .string ⟨#[]⟩, .int .i64 0] 34))).size)
                          clear HS
                          have HS : Hid (w4.cell? ⟨w.heap.size, 0, none⟩ = some (.slice (some ⟨b, off, none⟩) l.length ca) ∧ w4.cell? ⟨wr.heap.size, 0, none⟩ = some (.string yp)) := ⟨((q4).cell (p := ⟨w.heap.size, 0, none⟩) (by show w.heap.size < w2.heap.size; omega)).trans s4, ((q4).cell (p := ⟨wr.heap.size, 0, none⟩) (by show wr.heap.size < w2.heap.size; omega)).trans s0⟩
                          have hVN : Var w4 w2.heap.size #[.string ⟨#[]⟩, .int .i64 0, .string ⟨#[]⟩, .int .i64 0] 34 := ((Var.made w2 _ _).new (Below.refl _ _).drew).new hb4
                          clear hb4
                          refine hK.out _ _ HS.out (fun hT => ?_)
                          clear hK K hT
                          try simp only [Act.put, List.setIfInBounds_toArray, List.set_cons_zero, List.set_cons_succ]
                          refine wpAnyH_ready (rs := [4]) (by kernel_rfl) (by simp) (AllReadyH.cons rfl (fun K hK => ?_) AllReadyH.nil)
                          go_simp
                          refine (HTG2.out _ (q4)).mono ?_
                          rintro e w5 ⟨rfl, hb5⟩
                          have q5 : Below w2.heap.size w2 w5 := (q4).trans (hb5.mono (q4).size)
                          clear HS
                          have HS : Hid (w5.cell? ⟨w.heap.size, 0, none⟩ = some (.slice (some ⟨b, off, none⟩) l.length ca) ∧ w5.cell? ⟨wr.heap.size, 0, none⟩ = some (.string yp)) := ⟨((q5).cell (p := ⟨w.heap.size, 0, none⟩) (by show w.heap.size < w2.heap.size; omega)).trans s4, ((q5).cell (p := ⟨wr.heap.size, 0, none⟩) (by show wr.heap.size < w2.heap.size; omega)).trans s0⟩
                          have hVM : Var w5 w2.heap.size #[.string ⟨#[]⟩, .int .i64 0, .string ⟨#[]⟩, .int .i64 0] 34 := hVN.new hb5
                          clear hb5
                          refine hK.out _ _ HS.out (fun hT => ?_)
                          clear hK K hT
                          try simp only [Act.put, List.setIfInBounds_toArray, List.set_cons_zero, List.set_cons_succ]
                          have HUL : Hid (w2.heap.size ≤ w2.heap.size) := Nat.le_refl _
                          refine held_take (i := 5) (v := .tuple #[.agg #[.string z.p, .int .i64 z.k, .string z.d, .int .i64 z.t], .bool zq]) rfl rfl (by kernel_rfl) (by kernel_rfl) (by kernel_rfl) (by kernel_rfl) (fun W hS => by go_simp) HS.out ?_
                          simp only [Act.put, List.setIfInBounds_toArray, List.set_cons_zero, List.set_cons_succ]
                          refine held_take (i := 6) (v := .agg #[.string z.p, .int .i64 z.k, .string z.d, .int .i64 z.t]) rfl rfl (by kernel_rfl) (by kernel_rfl) (by kernel_rfl) (by kernel_rfl) (fun W hS => by go_simp) HS.out ?_
                          simp only [Act.put, List.setIfInBounds_toArray, List.set_cons_zero, List.set_cons_succ]
                          refine held_take (i := 7) (v := .bool zq) rfl rfl (by kernel_rfl) (by kernel_rfl) (by kernel_rfl) (by kernel_rfl) (fun W hS => by go_simp) HS.out ?_
                          simp only [Act.put, List.setIfInBounds_toArray, List.set_cons_zero, List.set_cons_succ]
                          have hVU : Var w5 w2.heap.size #[.string ⟨#[]⟩, .int .i64 0, .string ⟨#[]⟩, .int .i64 0] 34 := hVM
                          have v0 : w5.cell? ⟨w2.heap.size, 0, none⟩ = some (.string ⟨#[]⟩) := hVU.cell 0
                          have f0 : w5.frozen? ⟨w2.heap.size, 0, none⟩ = false := hVU.frozen 0
                          have v1 : w5.cell? ⟨w2.heap.size, 1, none⟩ = some (.int .i64 0) := hVU.cell 1
                          have f1 : w5.frozen? ⟨w2.heap.size, 1, none⟩ = false := hVU.frozen 1
                          have v2 : w5.cell? ⟨w2.heap.size, 2, none⟩ = some (.string ⟨#[]⟩) := hVU.cell 2
                          have f2 : w5.frozen? ⟨w2.heap.size, 2, none⟩ = false := hVU.frozen 2
                          have v3 : w5.cell? ⟨w2.heap.size, 3, none⟩ = some (.int .i64 0) := hVU.cell 3
                          have f3 : w5.frozen? ⟨w2.heap.size, 3, none⟩ = false := hVU.frozen 3
                          have hst : Only (fun j => w2.heap.size ≤ j) w5 ((((w5.setCell ⟨w2.heap.size, 0, none⟩ (.string z.p)).setCell ⟨w2.heap.size, 1, none⟩ (.int .i64 z.k)).setCell ⟨w2.heap.size, 2, none⟩ (.string z.d)).setCell ⟨w2.heap.size, 3, none⟩ (.int .i64 z.t)) := ((((Only.refl _ _).setCell (p := ⟨w2.heap.size, 0, none⟩) (HUL.out) _).setCell (p := ⟨w2.heap.size, 1, none⟩) (HUL.out) _).setCell (p := ⟨w2.heap.size, 2, none⟩) (HUL.out) _).setCell (p := ⟨w2.heap.size, 3, none⟩) (HUL.out) _
                          have q6 : Below w2.heap.size w2 ((((w5.setCell ⟨w2.heap.size, 0, none⟩ (.string z.p)).setCell ⟨w2.heap.size, 1, none⟩ (.int .i64 z.k)).setCell ⟨w2.heap.size, 2, none⟩ (.string z.d)).setCell ⟨w2.heap.size, 3, none⟩ (.int .i64 z.t)) := (q5).trans (hst.below (q5).size (fun j h => h))
                          have hVS := (((hVU.set 0 (.string z.p)).set 1 (.int .i64 z.k)).set 2 (.string z.d)).set 3 (.int .i64 z.t)
                          try simp only [List.setIfInBounds_toArray, List.set_cons_zero, List.set_cons_succ] at hVS
                          have vk : ((((w5.setCell ⟨w2.heap.size, 0, none⟩ (.string z.p)).setCell ⟨w2.heap.size, 1, none⟩ (.int .i64 z.k)).setCell ⟨w2.heap.size, 2, none⟩ (.string z.d)).setCell ⟨w2.heap.size, 3, none⟩ (.int .i64 z.t)).cell? ⟨w2.heap.size, 1, none⟩ = some (.int .i64 z.k) := hVS.cell 1
                          refine wpAnyH_ready (rs := [9]) (by kernel_rfl) (by simp) (AllReadyH.cons rfl (fun K hK => ?_) AllReadyH.nil)
                          go_simp
                          clear HS
                          have HS : Hid (((((w5.setCell ⟨w2.heap.size, 0, none⟩ (.string z.p)).setCell ⟨w2.heap.size, 1, none⟩ (.int .i64 z.k)).setCell ⟨w2.heap.size, 2, none⟩ (.string z.d)).setCell ⟨w2.heap.size, 3, none⟩ (.int .i64 z.t)).cell? ⟨w.heap.size, 0, none⟩ = some (.slice (some ⟨b, off, none⟩) l.length ca) ∧ ((((w5.setCell ⟨w2.heap.size, 0, none⟩ (.string z.p)).setCell ⟨w2.heap.size, 1, none⟩ (.int .i64 z.k)).setCell ⟨w2.heap.size, 2, none⟩ (.string z.d)).setCell ⟨w2.heap.size, 3, none⟩ (.int .i64 z.t)).cell? ⟨wr.heap.size, 0, none⟩ = some (.string yp)) := ⟨((q6).cell (p := ⟨w.heap.size, 0, none⟩) (by show w.heap.size < w2.heap.size; omega)).trans s4, ((q6).cell (p := ⟨wr.heap.size, 0, none⟩) (by show wr.heap.size < w2.heap.size; omega)).trans s0⟩
                          try clear hst
                          refine hK.out _ _ HS.out (fun hT => ?_)
                          clear hK K hT
                          try simp only [Act.put, List.setIfInBounds_toArray, List.set_cons_zero, List.set_cons_succ]
                          refine held_take (i := 10) (v := .bool zq) rfl rfl (by kernel_rfl) (by kernel_rfl) (by kernel_rfl) (by kernel_rfl) (fun W hS => by go_simp) HS.out ?_
                          simp only [Act.put, List.setIfInBounds_toArray, List.set_cons_zero, List.set_cons_succ]
                          refine wpAnyH_done (by kernel_rfl) ?_ _
                          simp only [NoPanic]
                          have r4 := HS.out.1
                          have q7 : Below w.heap.size w ((((w5.setCell ⟨w2.heap.size, 0, none⟩ (.string z.p)).setCell ⟨w2.heap.size, 1, none⟩ (.int .i64 z.k)).setCell ⟨w2.heap.size, 2, none⟩ (.string z.d)).setCell ⟨w2.heap.size, 3, none⟩ (.int .i64 z.t)) := hBW2.trans (q6.mono hBW2.size)
                          have q8 : w.heap.size + 1 ≤ ((((w5.setCell ⟨w2.heap.size, 0, none⟩ (.string z.p)).setCell ⟨w2.heap.size, 1, none⟩ (.int .i64 z.k)).setCell ⟨w2.heap.size, 2, none⟩ (.string z.d)).setCell ⟨w2.heap.size, 3, none⟩ (.int .i64 z.t)).heap.size := by have := q6.size; omega
                          clear v0 v1 v2 v3 f0 f1 f2 f3 hVU hVS HS q6
                          generalize ((((w5.setCell ⟨w2.heap.size, 0, none⟩ (.string z.p)).setCell ⟨w2.heap.size, 1, none⟩ (.int .i64 z.k)).setCell ⟨w2.heap.size, 2, none⟩ (.string z.d)).setCell ⟨w2.heap.size, 3, none⟩ (.int .i64 z.t)) = W6 at *
                          cases zq with
                          | false =>
                            have HNE : Hid (treeB l = false) := HNB.out fun h => by have h4 := h.2.2.2; rw [HU1.out, HU2.out rfl] at h4; cases h4
                            clear HNB HGO
                            go_wp2
                            go_ret
                            exact ⟨by rw [HNE.out]; rfl, q7⟩
                          | true =>
                            by_cases hzk : z.k = 2
                            · have HNX := HGO.out HOK.out HN2.out (fun h0 => absurd h0 HK0.out) (by rw [HU1.out]; exact decide_eq_true hzk)
                              have hzb : (z.k != 2) = false := by simpa using hzk
                              clear HNB HGO hzk
                              go_wp2
                              go_roundw
                              case rel => exact ⟨k + 1, by omega, by go_num, q7, q8, r4, HNX⟩
                              case measure => simp [intOf]; omega
                            · have HNE : Hid (treeB l = false) := HNB.out fun h => by have h4 := h.2.2.2; rw [HU1.out] at h4; exact hzk (of_decide_eq_true h4)
                              have hzb : (z.k != 2) = true := by simpa using hzk
                              clear HNB HGO hzk
                              go_wp2
                              go_ret
                              exact ⟨by rw [HNE.out]; rfl, q7⟩
                    · have HNE : Hid (treeB l = false) := HNB.out fun h => hd ((itOk_iff _).1 h.1).1
                      clear HNB HGO
                      have hk2 : yk = 2 := Classical.byContradiction fun h => hd fun h' => absurd h' h
                      subst hk2
                      by_cases hde : yd = ⟨#[]⟩
                      · subst hde
                        have hte : (yt != 0) = true := by
                          have : yt ≠ 0 := fun h => hd fun _ => ⟨rfl, h⟩
                          simpa using this
                        clear hd
                        go_wp2
                        go_ret
                        exact ⟨by rw [HNE.out]; rfl, hBW2⟩
                      · have hx : ¬ yd.toList = [] := by
                          intro e
                          rw [ByteArray.toList_eq] at e
                          exact hde (Go.WideShapes.bytes_inj (b := ⟨#[]⟩) e)
                        clear hd hde
                        go_wp2
                        go_ret
                        exact ⟨by rw [HNE.out]; rfl, hBW2⟩
                  · have HNT : Hid (∀ W, Calls Try.prog 25 #[.int .i64 yt, .int .i64 0, .int .i64 100000] W fun e w' => e = .returned (.bool false) ∧ w' = W) := fun W => by
                      have := inW yt 0 100000 W
                      rwa [show (decide ((0 : Int) ≤ yt) && decide (yt ≤ 100000)) = false by simp only [Bool.and_eq_false_iff, decide_eq_false_iff_not]; omega] at this
                    have HNE : Hid (treeB l = false) := HNB.out fun h => h6 ((itOk_iff _).1 h.1).2.2.2.2
                    clear HNB HGO
                    refine wp_region_noPanic ?_
                    refine wp_region_held_drew (S := (fun W => W.cell? ⟨wr.heap.size, 0, none⟩ = some (.string yp) ∧ W.cell? ⟨wr.heap.size, 1, none⟩ = some (.int .i64 yk) ∧ W.cell? ⟨wr.heap.size, 2, none⟩ = some (.string yd) ∧ W.cell? ⟨wr.heap.size, 3, none⟩ = some (.int .i64 yt) ∧ W.cell? ⟨w.heap.size, 0, none⟩ = some (.slice (some ⟨b, off, none⟩) l.length ca))) (by kernel_rfl) HSS.out (fun hT => ?_)
                    clear hT
                    refine held_take (i := 0) (v := .pointer (some ⟨wr.heap.size, 0, none⟩)) rfl rfl (by kernel_rfl) (by kernel_rfl) (by kernel_rfl) (by kernel_rfl) (fun W hS => by go_simp) HSS.out ?_
                    simp only [Act.put, List.setIfInBounds_toArray, List.set_cons_zero, List.set_cons_succ]
                    refine held_take (i := 1) (v := .string yp) rfl rfl (by kernel_rfl) (by kernel_rfl) (by kernel_rfl) (by kernel_rfl) (fun W hS => by obtain ⟨s0, s1, s2, s3, s4⟩ := hS; go_simp) HSS.out ?_
                    simp only [Act.put, List.setIfInBounds_toArray, List.set_cons_zero, List.set_cons_succ]
                    refine wpAnyH_ready (rs := [2]) (by kernel_rfl) (by simp) (AllReadyH.cons rfl (fun K hK => ?_) AllReadyH.nil)
                    go_simp
                    refine (HPT.out _).mono ?_
                    rintro e w2 ⟨rfl, hb2⟩
                    have hB2 := (Below.refl _ (wr.alloc (.cells #[.string yp, .int .i64 yk, .string yd, .int .i64 yt] 34))).drew.trans hb2
                    clear HSS hb2
                    have HSS : Hid _ := HSF.out w2 hB2
                    refine hK.out _ _ HSS.out (fun hT => ?_)
                    clear hK K hT
                    try simp only [Act.put, List.setIfInBounds_toArray, List.set_cons_zero, List.set_cons_succ]
                    refine held_take (i := 3) (v := .bool false) rfl rfl (by kernel_rfl) (by kernel_rfl) (by kernel_rfl) (by kernel_rfl) (fun W hS => by go_simp) HSS.out ?_
                    simp only [Act.put, List.setIfInBounds_toArray, List.set_cons_zero, List.set_cons_succ]
                    refine held_take (i := 4) (v := .bool false) rfl rfl (by kernel_rfl) (by kernel_rfl) (by kernel_rfl) (by kernel_rfl) (fun W hS => by go_simp) HSS.out ?_
                    simp only [Act.put, List.setIfInBounds_toArray, List.set_cons_zero, List.set_cons_succ]
                    refine held_take (i := 5) (v := .pointer (some ⟨wr.heap.size, 0, none⟩)) rfl rfl (by kernel_rfl) (by kernel_rfl) (by kernel_rfl) (by kernel_rfl) (fun W hS => by go_simp) HSS.out ?_
                    simp only [Act.put, List.setIfInBounds_toArray, List.set_cons_zero, List.set_cons_succ]
                    refine held_take (i := 6) (v := .string yp) rfl rfl (by kernel_rfl) (by kernel_rfl) (by kernel_rfl) (by kernel_rfl) (fun W hS => by obtain ⟨s0, s1, s2, s3, s4⟩ := hS; go_simp) HSS.out ?_
                    simp only [Act.put, List.setIfInBounds_toArray, List.set_cons_zero, List.set_cons_succ]
                    refine held_take (i := 7) (v := .bool false) rfl rfl (by kernel_rfl) (by kernel_rfl) (by kernel_rfl) (by kernel_rfl) (fun W hS => by go_simp) HSS.out ?_
                    simp only [Act.put, List.setIfInBounds_toArray, List.set_cons_zero, List.set_cons_succ]
                    refine held_take (i := 8) (v := .bool false) rfl rfl (by kernel_rfl) (by kernel_rfl) (by kernel_rfl) (by kernel_rfl) (fun W hS => by go_simp) HSS.out ?_
                    simp only [Act.put, List.setIfInBounds_toArray, List.set_cons_zero, List.set_cons_succ]
                    refine held_take (i := 9) (v := .bool false) rfl rfl (by kernel_rfl) (by kernel_rfl) (by kernel_rfl) (by kernel_rfl) (fun W hS => by go_simp) HSS.out ?_
                    simp only [Act.put, List.setIfInBounds_toArray, List.set_cons_zero, List.set_cons_succ]
                    refine held_take (i := 10) (v := .int .i64 (k : Nat)) rfl rfl (by kernel_rfl) (by kernel_rfl) (by kernel_rfl) (by kernel_rfl) (fun W hS => by go_simp) HSS.out ?_
                    simp only [Act.put, List.setIfInBounds_toArray, List.set_cons_zero, List.set_cons_succ]
                    refine held_take (i := 11) (v := .bool false) rfl rfl (by kernel_rfl) (by kernel_rfl) (by kernel_rfl) (by kernel_rfl) (fun W hS => by go_simp; exact HK00.out) HSS.out ?_
                    simp only [Act.put, List.setIfInBounds_toArray, List.set_cons_zero, List.set_cons_succ]
                    refine held_take (i := 12) (v := .bool false) rfl rfl (by kernel_rfl) (by kernel_rfl) (by kernel_rfl) (by kernel_rfl) (fun W hS => by go_simp) HSS.out ?_
                    simp only [Act.put, List.setIfInBounds_toArray, List.set_cons_zero, List.set_cons_succ]
                    refine held_skip (i := 13) rfl rfl (by kernel_rfl) (by kernel_rfl) (by kernel_rfl) (by kernel_rfl) HSS.out ?_
                    simp only [Act.put, List.setIfInBounds_toArray, List.set_cons_zero, List.set_cons_succ]
                    refine held_skip (i := 14) rfl rfl (by kernel_rfl) (by kernel_rfl) (by kernel_rfl) (by kernel_rfl) HSS.out ?_
                    simp only [Act.put, List.setIfInBounds_toArray, List.set_cons_zero, List.set_cons_succ]
                    refine held_skip (i := 15) rfl rfl (by kernel_rfl) (by kernel_rfl) (by kernel_rfl) (by kernel_rfl) HSS.out ?_
                    simp only [Act.put, List.setIfInBounds_toArray, List.set_cons_zero, List.set_cons_succ]
                    refine held_skip (i := 16) rfl rfl (by kernel_rfl) (by kernel_rfl) (by kernel_rfl) (by kernel_rfl) HSS.out ?_
                    simp only [Act.put, List.setIfInBounds_toArray, List.set_cons_zero, List.set_cons_succ]
                    refine held_skip (i := 17) rfl rfl (by kernel_rfl) (by kernel_rfl) (by kernel_rfl) (by kernel_rfl) HSS.out ?_
                    simp only [Act.put, List.setIfInBounds_toArray, List.set_cons_zero, List.set_cons_succ]
                    refine held_skip (i := 18) rfl rfl (by kernel_rfl) (by kernel_rfl) (by kernel_rfl) (by kernel_rfl) HSS.out ?_
                    simp only [Act.put, List.setIfInBounds_toArray, List.set_cons_zero, List.set_cons_succ]
                    refine held_skip (i := 19) rfl rfl (by kernel_rfl) (by kernel_rfl) (by kernel_rfl) (by kernel_rfl) HSS.out ?_
                    simp only [Act.put, List.setIfInBounds_toArray, List.set_cons_zero, List.set_cons_succ]
                    refine held_skip (i := 20) rfl rfl (by kernel_rfl) (by kernel_rfl) (by kernel_rfl) (by kernel_rfl) HSS.out ?_
                    simp only [Act.put, List.setIfInBounds_toArray, List.set_cons_zero, List.set_cons_succ]
                    refine held_skip (i := 21) rfl rfl (by kernel_rfl) (by kernel_rfl) (by kernel_rfl) (by kernel_rfl) HSS.out ?_
                    simp only [Act.put, List.setIfInBounds_toArray, List.set_cons_zero, List.set_cons_succ]
                    refine held_skip (i := 22) rfl rfl (by kernel_rfl) (by kernel_rfl) (by kernel_rfl) (by kernel_rfl) HSS.out ?_
                    simp only [Act.put, List.setIfInBounds_toArray, List.set_cons_zero, List.set_cons_succ]
                    refine held_take (i := 23) (v := .bool false) rfl rfl (by kernel_rfl) (by kernel_rfl) (by kernel_rfl) (by kernel_rfl) (fun W hS => by go_simp) HSS.out ?_
                    simp only [Act.put, List.setIfInBounds_toArray, List.set_cons_zero, List.set_cons_succ]
                    refine held_take (i := 24) (v := .bool false) rfl rfl (by kernel_rfl) (by kernel_rfl) (by kernel_rfl) (by kernel_rfl) (fun W hS => by go_simp) HSS.out ?_
                    simp only [Act.put, List.setIfInBounds_toArray, List.set_cons_zero, List.set_cons_succ]
                    refine held_take (i := 25) (v := .bool false) rfl rfl (by kernel_rfl) (by kernel_rfl) (by kernel_rfl) (by kernel_rfl) (fun W hS => by go_simp) HSS.out ?_
                    simp only [Act.put, List.setIfInBounds_toArray, List.set_cons_zero, List.set_cons_succ]
                    refine held_take (i := 26) (v := .pointer (some ⟨wr.heap.size, 1, none⟩)) rfl rfl (by kernel_rfl) (by kernel_rfl) (by kernel_rfl) (by kernel_rfl) (fun W hS => by go_simp) HSS.out ?_
                    simp only [Act.put, List.setIfInBounds_toArray, List.set_cons_zero, List.set_cons_succ]
                    refine held_take (i := 27) (v := .int .i64 yk) rfl rfl (by kernel_rfl) (by kernel_rfl) (by kernel_rfl) (by kernel_rfl) (fun W hS => by obtain ⟨s0, s1, s2, s3, s4⟩ := hS; go_simp) HSS.out ?_
                    simp only [Act.put, List.setIfInBounds_toArray, List.set_cons_zero, List.set_cons_succ]
                    refine wpAnyH_ready (rs := [28]) (by kernel_rfl) (by simp) (AllReadyH.cons rfl (fun K hK => ?_) AllReadyH.nil)
                    go_simp
                    refine (HNK.out _).mono ?_
                    rintro e w3 ⟨rfl, hw3⟩
                    subst w3
                    refine hK.out _ _ HSS.out (fun hT => ?_)
                    clear hK K hT
                    try simp only [Act.put, List.setIfInBounds_toArray, List.set_cons_zero, List.set_cons_succ]
                    refine held_take (i := 29) (v := .bool false) rfl rfl (by kernel_rfl) (by kernel_rfl) (by kernel_rfl) (by kernel_rfl) (fun W hS => by go_simp) HSS.out ?_
                    simp only [Act.put, List.setIfInBounds_toArray, List.set_cons_zero, List.set_cons_succ]
                    refine held_take (i := 30) (v := .bool false) rfl rfl (by kernel_rfl) (by kernel_rfl) (by kernel_rfl) (by kernel_rfl) (fun W hS => by go_simp) HSS.out ?_
                    simp only [Act.put, List.setIfInBounds_toArray, List.set_cons_zero, List.set_cons_succ]
                    refine held_take (i := 31) (v := .bool false) rfl rfl (by kernel_rfl) (by kernel_rfl) (by kernel_rfl) (by kernel_rfl) (fun W hS => by go_simp) HSS.out ?_
                    simp only [Act.put, List.setIfInBounds_toArray, List.set_cons_zero, List.set_cons_succ]
                    refine held_take (i := 32) (v := .pointer (some ⟨wr.heap.size, 2, none⟩)) rfl rfl (by kernel_rfl) (by kernel_rfl) (by kernel_rfl) (by kernel_rfl) (fun W hS => by go_simp) HSS.out ?_
                    simp only [Act.put, List.setIfInBounds_toArray, List.set_cons_zero, List.set_cons_succ]
                    refine held_take (i := 33) (v := .string yd) rfl rfl (by kernel_rfl) (by kernel_rfl) (by kernel_rfl) (by kernel_rfl) (fun W hS => by obtain ⟨s0, s1, s2, s3, s4⟩ := hS; go_simp) HSS.out ?_
                    simp only [Act.put, List.setIfInBounds_toArray, List.set_cons_zero, List.set_cons_succ]
                    refine held_take (i := 34) (v := .int .i64 (yd.size : Nat)) rfl rfl (by kernel_rfl) (by kernel_rfl) (by kernel_rfl) (by kernel_rfl) (fun W hS => by go_simp) HSS.out ?_
                    simp only [Act.put, List.setIfInBounds_toArray, List.set_cons_zero, List.set_cons_succ]
                    refine held_take (i := 35) (v := .bool false) rfl rfl (by kernel_rfl) (by kernel_rfl) (by kernel_rfl) (by kernel_rfl) (fun W hS => by go_simp) HSS.out ?_
                    simp only [Act.put, List.setIfInBounds_toArray, List.set_cons_zero, List.set_cons_succ]
                    refine held_take (i := 36) (v := .bool false) rfl rfl (by kernel_rfl) (by kernel_rfl) (by kernel_rfl) (by kernel_rfl) (fun W hS => by go_simp) HSS.out ?_
                    simp only [Act.put, List.setIfInBounds_toArray, List.set_cons_zero, List.set_cons_succ]
                    refine held_take (i := 37) (v := .bool false) rfl rfl (by kernel_rfl) (by kernel_rfl) (by kernel_rfl) (by kernel_rfl) (fun W hS => by go_simp) HSS.out ?_
                    simp only [Act.put, List.setIfInBounds_toArray, List.set_cons_zero, List.set_cons_succ]
                    refine held_take (i := 38) (v := .pointer (some ⟨wr.heap.size, 3, none⟩)) rfl rfl (by kernel_rfl) (by kernel_rfl) (by kernel_rfl) (by kernel_rfl) (fun W hS => by go_simp) HSS.out ?_
                    simp only [Act.put, List.setIfInBounds_toArray, List.set_cons_zero, List.set_cons_succ]
                    refine held_take (i := 39) (v := .int .i64 yt) rfl rfl (by kernel_rfl) (by kernel_rfl) (by kernel_rfl) (by kernel_rfl) (fun W hS => by obtain ⟨s0, s1, s2, s3, s4⟩ := hS; go_simp) HSS.out ?_
                    simp only [Act.put, List.setIfInBounds_toArray, List.set_cons_zero, List.set_cons_succ]
                    refine wpAnyH_ready (rs := [40]) (by kernel_rfl) (by simp) (AllReadyH.cons rfl (fun K hK => ?_) AllReadyH.nil)
                    go_simp
                    refine (HNT.out _).mono ?_
                    rintro e w3 ⟨rfl, hw3⟩
                    subst w3
                    refine hK.out _ _ HSS.out (fun hT => ?_)
                    clear hK K hT
                    try simp only [Act.put, List.setIfInBounds_toArray, List.set_cons_zero, List.set_cons_succ]
                    refine held_take (i := 41) (v := .bool true) rfl rfl (by kernel_rfl) (by kernel_rfl) (by kernel_rfl) (by kernel_rfl) (fun W hS => by go_simp) HSS.out ?_
                    simp only [Act.put, List.setIfInBounds_toArray, List.set_cons_zero, List.set_cons_succ]
                    refine held_take (i := 42) (v := .bool true) rfl rfl (by kernel_rfl) (by kernel_rfl) (by kernel_rfl) (by kernel_rfl) (fun W hS => by go_simp) HSS.out ?_
                    simp only [Act.put, List.setIfInBounds_toArray, List.set_cons_zero, List.set_cons_succ]
                    refine wpAnyH_done (by kernel_rfl) ?_ _
                    simp only [NoPanic]
                    have hB3 := HBW.out.trans (hB2.mono HBW.out.size)
                    go_wp2
                    go_ret
                    exact ⟨by rw [HNE.out]; rfl, hB3⟩
                · have h5i : (80 : Int) < (yd.size : Int) := by omega
                  have HNE : Hid (treeB l = false) := HNB.out fun h => h5 ((itOk_iff _).1 h.1).2.2.2.1
                  clear HNB HGO
                  refine wp_region_noPanic ?_
                  refine wp_region_held_drew (S := (fun W => W.cell? ⟨wr.heap.size, 0, none⟩ = some (.string yp) ∧ W.cell? ⟨wr.heap.size, 1, none⟩ = some (.int .i64 yk) ∧ W.cell? ⟨wr.heap.size, 2, none⟩ = some (.string yd) ∧ W.cell? ⟨wr.heap.size, 3, none⟩ = some (.int .i64 yt) ∧ W.cell? ⟨w.heap.size, 0, none⟩ = some (.slice (some ⟨b, off, none⟩) l.length ca))) (by kernel_rfl) HSS.out (fun hT => ?_)
                  clear hT
                  refine held_take (i := 0) (v := .pointer (some ⟨wr.heap.size, 0, none⟩)) rfl rfl (by kernel_rfl) (by kernel_rfl) (by kernel_rfl) (by kernel_rfl) (fun W hS => by go_simp) HSS.out ?_
                  simp only [Act.put, List.setIfInBounds_toArray, List.set_cons_zero, List.set_cons_succ]
                  refine held_take (i := 1) (v := .string yp) rfl rfl (by kernel_rfl) (by kernel_rfl) (by kernel_rfl) (by kernel_rfl) (fun W hS => by obtain ⟨s0, s1, s2, s3, s4⟩ := hS; go_simp) HSS.out ?_
                  simp only [Act.put, List.setIfInBounds_toArray, List.set_cons_zero, List.set_cons_succ]
                  refine wpAnyH_ready (rs := [2]) (by kernel_rfl) (by simp) (AllReadyH.cons rfl (fun K hK => ?_) AllReadyH.nil)
                  go_simp
                  refine (HPT.out _).mono ?_
                  rintro e w2 ⟨rfl, hb2⟩
                  have hB2 := (Below.refl _ (wr.alloc (.cells #[.string yp, .int .i64 yk, .string yd, .int .i64 yt] 34))).drew.trans hb2
                  clear HSS hb2
                  have HSS : Hid _ := HSF.out w2 hB2
                  refine hK.out _ _ HSS.out (fun hT => ?_)
                  clear hK K hT
                  try simp only [Act.put, List.setIfInBounds_toArray, List.set_cons_zero, List.set_cons_succ]
                  refine held_take (i := 3) (v := .bool false) rfl rfl (by kernel_rfl) (by kernel_rfl) (by kernel_rfl) (by kernel_rfl) (fun W hS => by go_simp) HSS.out ?_
                  simp only [Act.put, List.setIfInBounds_toArray, List.set_cons_zero, List.set_cons_succ]
                  refine held_take (i := 4) (v := .bool false) rfl rfl (by kernel_rfl) (by kernel_rfl) (by kernel_rfl) (by kernel_rfl) (fun W hS => by go_simp) HSS.out ?_
                  simp only [Act.put, List.setIfInBounds_toArray, List.set_cons_zero, List.set_cons_succ]
                  refine held_take (i := 5) (v := .pointer (some ⟨wr.heap.size, 0, none⟩)) rfl rfl (by kernel_rfl) (by kernel_rfl) (by kernel_rfl) (by kernel_rfl) (fun W hS => by go_simp) HSS.out ?_
                  simp only [Act.put, List.setIfInBounds_toArray, List.set_cons_zero, List.set_cons_succ]
                  refine held_take (i := 6) (v := .string yp) rfl rfl (by kernel_rfl) (by kernel_rfl) (by kernel_rfl) (by kernel_rfl) (fun W hS => by obtain ⟨s0, s1, s2, s3, s4⟩ := hS; go_simp) HSS.out ?_
                  simp only [Act.put, List.setIfInBounds_toArray, List.set_cons_zero, List.set_cons_succ]
                  refine held_take (i := 7) (v := .bool false) rfl rfl (by kernel_rfl) (by kernel_rfl) (by kernel_rfl) (by kernel_rfl) (fun W hS => by go_simp) HSS.out ?_
                  simp only [Act.put, List.setIfInBounds_toArray, List.set_cons_zero, List.set_cons_succ]
                  refine held_take (i := 8) (v := .bool false) rfl rfl (by kernel_rfl) (by kernel_rfl) (by kernel_rfl) (by kernel_rfl) (fun W hS => by go_simp) HSS.out ?_
                  simp only [Act.put, List.setIfInBounds_toArray, List.set_cons_zero, List.set_cons_succ]
                  refine held_take (i := 9) (v := .bool false) rfl rfl (by kernel_rfl) (by kernel_rfl) (by kernel_rfl) (by kernel_rfl) (fun W hS => by go_simp) HSS.out ?_
                  simp only [Act.put, List.setIfInBounds_toArray, List.set_cons_zero, List.set_cons_succ]
                  refine held_take (i := 10) (v := .int .i64 (k : Nat)) rfl rfl (by kernel_rfl) (by kernel_rfl) (by kernel_rfl) (by kernel_rfl) (fun W hS => by go_simp) HSS.out ?_
                  simp only [Act.put, List.setIfInBounds_toArray, List.set_cons_zero, List.set_cons_succ]
                  refine held_take (i := 11) (v := .bool false) rfl rfl (by kernel_rfl) (by kernel_rfl) (by kernel_rfl) (by kernel_rfl) (fun W hS => by go_simp; exact HK00.out) HSS.out ?_
                  simp only [Act.put, List.setIfInBounds_toArray, List.set_cons_zero, List.set_cons_succ]
                  refine held_take (i := 12) (v := .bool false) rfl rfl (by kernel_rfl) (by kernel_rfl) (by kernel_rfl) (by kernel_rfl) (fun W hS => by go_simp) HSS.out ?_
                  simp only [Act.put, List.setIfInBounds_toArray, List.set_cons_zero, List.set_cons_succ]
                  refine held_skip (i := 13) rfl rfl (by kernel_rfl) (by kernel_rfl) (by kernel_rfl) (by kernel_rfl) HSS.out ?_
                  simp only [Act.put, List.setIfInBounds_toArray, List.set_cons_zero, List.set_cons_succ]
                  refine held_skip (i := 14) rfl rfl (by kernel_rfl) (by kernel_rfl) (by kernel_rfl) (by kernel_rfl) HSS.out ?_
                  simp only [Act.put, List.setIfInBounds_toArray, List.set_cons_zero, List.set_cons_succ]
                  refine held_skip (i := 15) rfl rfl (by kernel_rfl) (by kernel_rfl) (by kernel_rfl) (by kernel_rfl) HSS.out ?_
                  simp only [Act.put, List.setIfInBounds_toArray, List.set_cons_zero, List.set_cons_succ]
                  refine held_skip (i := 16) rfl rfl (by kernel_rfl) (by kernel_rfl) (by kernel_rfl) (by kernel_rfl) HSS.out ?_
                  simp only [Act.put, List.setIfInBounds_toArray, List.set_cons_zero, List.set_cons_succ]
                  refine held_skip (i := 17) rfl rfl (by kernel_rfl) (by kernel_rfl) (by kernel_rfl) (by kernel_rfl) HSS.out ?_
                  simp only [Act.put, List.setIfInBounds_toArray, List.set_cons_zero, List.set_cons_succ]
                  refine held_skip (i := 18) rfl rfl (by kernel_rfl) (by kernel_rfl) (by kernel_rfl) (by kernel_rfl) HSS.out ?_
                  simp only [Act.put, List.setIfInBounds_toArray, List.set_cons_zero, List.set_cons_succ]
                  refine held_skip (i := 19) rfl rfl (by kernel_rfl) (by kernel_rfl) (by kernel_rfl) (by kernel_rfl) HSS.out ?_
                  simp only [Act.put, List.setIfInBounds_toArray, List.set_cons_zero, List.set_cons_succ]
                  refine held_skip (i := 20) rfl rfl (by kernel_rfl) (by kernel_rfl) (by kernel_rfl) (by kernel_rfl) HSS.out ?_
                  simp only [Act.put, List.setIfInBounds_toArray, List.set_cons_zero, List.set_cons_succ]
                  refine held_skip (i := 21) rfl rfl (by kernel_rfl) (by kernel_rfl) (by kernel_rfl) (by kernel_rfl) HSS.out ?_
                  simp only [Act.put, List.setIfInBounds_toArray, List.set_cons_zero, List.set_cons_succ]
                  refine held_skip (i := 22) rfl rfl (by kernel_rfl) (by kernel_rfl) (by kernel_rfl) (by kernel_rfl) HSS.out ?_
                  simp only [Act.put, List.setIfInBounds_toArray, List.set_cons_zero, List.set_cons_succ]
                  refine held_take (i := 23) (v := .bool false) rfl rfl (by kernel_rfl) (by kernel_rfl) (by kernel_rfl) (by kernel_rfl) (fun W hS => by go_simp) HSS.out ?_
                  simp only [Act.put, List.setIfInBounds_toArray, List.set_cons_zero, List.set_cons_succ]
                  refine held_take (i := 24) (v := .bool false) rfl rfl (by kernel_rfl) (by kernel_rfl) (by kernel_rfl) (by kernel_rfl) (fun W hS => by go_simp) HSS.out ?_
                  simp only [Act.put, List.setIfInBounds_toArray, List.set_cons_zero, List.set_cons_succ]
                  refine held_take (i := 25) (v := .bool false) rfl rfl (by kernel_rfl) (by kernel_rfl) (by kernel_rfl) (by kernel_rfl) (fun W hS => by go_simp) HSS.out ?_
                  simp only [Act.put, List.setIfInBounds_toArray, List.set_cons_zero, List.set_cons_succ]
                  refine held_take (i := 26) (v := .pointer (some ⟨wr.heap.size, 1, none⟩)) rfl rfl (by kernel_rfl) (by kernel_rfl) (by kernel_rfl) (by kernel_rfl) (fun W hS => by go_simp) HSS.out ?_
                  simp only [Act.put, List.setIfInBounds_toArray, List.set_cons_zero, List.set_cons_succ]
                  refine held_take (i := 27) (v := .int .i64 yk) rfl rfl (by kernel_rfl) (by kernel_rfl) (by kernel_rfl) (by kernel_rfl) (fun W hS => by obtain ⟨s0, s1, s2, s3, s4⟩ := hS; go_simp) HSS.out ?_
                  simp only [Act.put, List.setIfInBounds_toArray, List.set_cons_zero, List.set_cons_succ]
                  refine wpAnyH_ready (rs := [28]) (by kernel_rfl) (by simp) (AllReadyH.cons rfl (fun K hK => ?_) AllReadyH.nil)
                  go_simp
                  refine (HNK.out _).mono ?_
                  rintro e w3 ⟨rfl, hw3⟩
                  subst w3
                  refine hK.out _ _ HSS.out (fun hT => ?_)
                  clear hK K hT
                  try simp only [Act.put, List.setIfInBounds_toArray, List.set_cons_zero, List.set_cons_succ]
                  refine held_take (i := 29) (v := .bool false) rfl rfl (by kernel_rfl) (by kernel_rfl) (by kernel_rfl) (by kernel_rfl) (fun W hS => by go_simp) HSS.out ?_
                  simp only [Act.put, List.setIfInBounds_toArray, List.set_cons_zero, List.set_cons_succ]
                  refine held_take (i := 30) (v := .bool false) rfl rfl (by kernel_rfl) (by kernel_rfl) (by kernel_rfl) (by kernel_rfl) (fun W hS => by go_simp) HSS.out ?_
                  simp only [Act.put, List.setIfInBounds_toArray, List.set_cons_zero, List.set_cons_succ]
                  refine held_take (i := 31) (v := .bool false) rfl rfl (by kernel_rfl) (by kernel_rfl) (by kernel_rfl) (by kernel_rfl) (fun W hS => by go_simp) HSS.out ?_
                  simp only [Act.put, List.setIfInBounds_toArray, List.set_cons_zero, List.set_cons_succ]
                  refine held_take (i := 32) (v := .pointer (some ⟨wr.heap.size, 2, none⟩)) rfl rfl (by kernel_rfl) (by kernel_rfl) (by kernel_rfl) (by kernel_rfl) (fun W hS => by go_simp) HSS.out ?_
                  simp only [Act.put, List.setIfInBounds_toArray, List.set_cons_zero, List.set_cons_succ]
                  refine held_take (i := 33) (v := .string yd) rfl rfl (by kernel_rfl) (by kernel_rfl) (by kernel_rfl) (by kernel_rfl) (fun W hS => by obtain ⟨s0, s1, s2, s3, s4⟩ := hS; go_simp) HSS.out ?_
                  simp only [Act.put, List.setIfInBounds_toArray, List.set_cons_zero, List.set_cons_succ]
                  refine held_take (i := 34) (v := .int .i64 (yd.size : Nat)) rfl rfl (by kernel_rfl) (by kernel_rfl) (by kernel_rfl) (by kernel_rfl) (fun W hS => by go_simp) HSS.out ?_
                  simp only [Act.put, List.setIfInBounds_toArray, List.set_cons_zero, List.set_cons_succ]
                  refine held_take (i := 35) (v := .bool true) rfl rfl (by kernel_rfl) (by kernel_rfl) (by kernel_rfl) (by kernel_rfl) (fun W hS => by go_simp) HSS.out ?_
                  simp only [Act.put, List.setIfInBounds_toArray, List.set_cons_zero, List.set_cons_succ]
                  refine held_take (i := 36) (v := .bool true) rfl rfl (by kernel_rfl) (by kernel_rfl) (by kernel_rfl) (by kernel_rfl) (fun W hS => by go_simp) HSS.out ?_
                  simp only [Act.put, List.setIfInBounds_toArray, List.set_cons_zero, List.set_cons_succ]
                  refine held_take (i := 37) (v := .bool true) rfl rfl (by kernel_rfl) (by kernel_rfl) (by kernel_rfl) (by kernel_rfl) (fun W hS => by go_simp) HSS.out ?_
                  simp only [Act.put, List.setIfInBounds_toArray, List.set_cons_zero, List.set_cons_succ]
                  refine held_skip (i := 38) rfl rfl (by kernel_rfl) (by kernel_rfl) (by kernel_rfl) (by kernel_rfl) HSS.out ?_
                  simp only [Act.put, List.setIfInBounds_toArray, List.set_cons_zero, List.set_cons_succ]
                  refine held_skip (i := 39) rfl rfl (by kernel_rfl) (by kernel_rfl) (by kernel_rfl) (by kernel_rfl) HSS.out ?_
                  simp only [Act.put, List.setIfInBounds_toArray, List.set_cons_zero, List.set_cons_succ]
                  refine held_skip (i := 40) rfl rfl (by kernel_rfl) (by kernel_rfl) (by kernel_rfl) (by kernel_rfl) HSS.out ?_
                  simp only [Act.put, List.setIfInBounds_toArray, List.set_cons_zero, List.set_cons_succ]
                  refine held_skip (i := 41) rfl rfl (by kernel_rfl) (by kernel_rfl) (by kernel_rfl) (by kernel_rfl) HSS.out ?_
                  simp only [Act.put, List.setIfInBounds_toArray, List.set_cons_zero, List.set_cons_succ]
                  refine held_take (i := 42) (v := .bool true) rfl rfl (by kernel_rfl) (by kernel_rfl) (by kernel_rfl) (by kernel_rfl) (fun W hS => by go_simp) HSS.out ?_
                  simp only [Act.put, List.setIfInBounds_toArray, List.set_cons_zero, List.set_cons_succ]
                  refine wpAnyH_done (by kernel_rfl) ?_ _
                  simp only [NoPanic]
                  have hB3 := HBW.out.trans (hB2.mono HBW.out.size)
                  go_wp2
                  go_ret
                  exact ⟨by rw [HNE.out]; rfl, hB3⟩
              · have HNK : Hid (∀ W, Calls Try.prog 25 #[.int .i64 yk, .int .i64 1, .int .i64 3] W fun e w' => e = .returned (.bool false) ∧ w' = W) := fun W => by
                  have := inW yk 1 3 W
                  rwa [show (decide ((1 : Int) ≤ yk) && decide (yk ≤ 3)) = false by simp only [Bool.and_eq_false_iff, decide_eq_false_iff_not]; omega] at this
                have HNE : Hid (treeB l = false) := HNB.out fun h => h4 ((itOk_iff _).1 h.1).2.2.1
                clear HNB HGO
                refine wp_region_noPanic ?_
                refine wp_region_held_drew (S := (fun W => W.cell? ⟨wr.heap.size, 0, none⟩ = some (.string yp) ∧ W.cell? ⟨wr.heap.size, 1, none⟩ = some (.int .i64 yk) ∧ W.cell? ⟨wr.heap.size, 2, none⟩ = some (.string yd) ∧ W.cell? ⟨wr.heap.size, 3, none⟩ = some (.int .i64 yt) ∧ W.cell? ⟨w.heap.size, 0, none⟩ = some (.slice (some ⟨b, off, none⟩) l.length ca))) (by kernel_rfl) HSS.out (fun hT => ?_)
                clear hT
                refine held_take (i := 0) (v := .pointer (some ⟨wr.heap.size, 0, none⟩)) rfl rfl (by kernel_rfl) (by kernel_rfl) (by kernel_rfl) (by kernel_rfl) (fun W hS => by go_simp) HSS.out ?_
                simp only [Act.put, List.setIfInBounds_toArray, List.set_cons_zero, List.set_cons_succ]
                refine held_take (i := 1) (v := .string yp) rfl rfl (by kernel_rfl) (by kernel_rfl) (by kernel_rfl) (by kernel_rfl) (fun W hS => by obtain ⟨s0, s1, s2, s3, s4⟩ := hS; go_simp) HSS.out ?_
                simp only [Act.put, List.setIfInBounds_toArray, List.set_cons_zero, List.set_cons_succ]
                refine wpAnyH_ready (rs := [2]) (by kernel_rfl) (by simp) (AllReadyH.cons rfl (fun K hK => ?_) AllReadyH.nil)
                go_simp
                refine (HPT.out _).mono ?_
                rintro e w2 ⟨rfl, hb2⟩
                have hB2 := (Below.refl _ (wr.alloc (.cells #[.string yp, .int .i64 yk, .string yd, .int .i64 yt] 34))).drew.trans hb2
                clear HSS hb2
                have HSS : Hid _ := HSF.out w2 hB2
                refine hK.out _ _ HSS.out (fun hT => ?_)
                clear hK K hT
                try simp only [Act.put, List.setIfInBounds_toArray, List.set_cons_zero, List.set_cons_succ]
                refine held_take (i := 3) (v := .bool false) rfl rfl (by kernel_rfl) (by kernel_rfl) (by kernel_rfl) (by kernel_rfl) (fun W hS => by go_simp) HSS.out ?_
                simp only [Act.put, List.setIfInBounds_toArray, List.set_cons_zero, List.set_cons_succ]
                refine held_take (i := 4) (v := .bool false) rfl rfl (by kernel_rfl) (by kernel_rfl) (by kernel_rfl) (by kernel_rfl) (fun W hS => by go_simp) HSS.out ?_
                simp only [Act.put, List.setIfInBounds_toArray, List.set_cons_zero, List.set_cons_succ]
                refine held_take (i := 5) (v := .pointer (some ⟨wr.heap.size, 0, none⟩)) rfl rfl (by kernel_rfl) (by kernel_rfl) (by kernel_rfl) (by kernel_rfl) (fun W hS => by go_simp) HSS.out ?_
                simp only [Act.put, List.setIfInBounds_toArray, List.set_cons_zero, List.set_cons_succ]
                refine held_take (i := 6) (v := .string yp) rfl rfl (by kernel_rfl) (by kernel_rfl) (by kernel_rfl) (by kernel_rfl) (fun W hS => by obtain ⟨s0, s1, s2, s3, s4⟩ := hS; go_simp) HSS.out ?_
                simp only [Act.put, List.setIfInBounds_toArray, List.set_cons_zero, List.set_cons_succ]
                refine held_take (i := 7) (v := .bool false) rfl rfl (by kernel_rfl) (by kernel_rfl) (by kernel_rfl) (by kernel_rfl) (fun W hS => by go_simp) HSS.out ?_
                simp only [Act.put, List.setIfInBounds_toArray, List.set_cons_zero, List.set_cons_succ]
                refine held_take (i := 8) (v := .bool false) rfl rfl (by kernel_rfl) (by kernel_rfl) (by kernel_rfl) (by kernel_rfl) (fun W hS => by go_simp) HSS.out ?_
                simp only [Act.put, List.setIfInBounds_toArray, List.set_cons_zero, List.set_cons_succ]
                refine held_take (i := 9) (v := .bool false) rfl rfl (by kernel_rfl) (by kernel_rfl) (by kernel_rfl) (by kernel_rfl) (fun W hS => by go_simp) HSS.out ?_
                simp only [Act.put, List.setIfInBounds_toArray, List.set_cons_zero, List.set_cons_succ]
                refine held_take (i := 10) (v := .int .i64 (k : Nat)) rfl rfl (by kernel_rfl) (by kernel_rfl) (by kernel_rfl) (by kernel_rfl) (fun W hS => by go_simp) HSS.out ?_
                simp only [Act.put, List.setIfInBounds_toArray, List.set_cons_zero, List.set_cons_succ]
                refine held_take (i := 11) (v := .bool false) rfl rfl (by kernel_rfl) (by kernel_rfl) (by kernel_rfl) (by kernel_rfl) (fun W hS => by go_simp; exact HK00.out) HSS.out ?_
                simp only [Act.put, List.setIfInBounds_toArray, List.set_cons_zero, List.set_cons_succ]
                refine held_take (i := 12) (v := .bool false) rfl rfl (by kernel_rfl) (by kernel_rfl) (by kernel_rfl) (by kernel_rfl) (fun W hS => by go_simp) HSS.out ?_
                simp only [Act.put, List.setIfInBounds_toArray, List.set_cons_zero, List.set_cons_succ]
                refine held_skip (i := 13) rfl rfl (by kernel_rfl) (by kernel_rfl) (by kernel_rfl) (by kernel_rfl) HSS.out ?_
                simp only [Act.put, List.setIfInBounds_toArray, List.set_cons_zero, List.set_cons_succ]
                refine held_skip (i := 14) rfl rfl (by kernel_rfl) (by kernel_rfl) (by kernel_rfl) (by kernel_rfl) HSS.out ?_
                simp only [Act.put, List.setIfInBounds_toArray, List.set_cons_zero, List.set_cons_succ]
                refine held_skip (i := 15) rfl rfl (by kernel_rfl) (by kernel_rfl) (by kernel_rfl) (by kernel_rfl) HSS.out ?_
                simp only [Act.put, List.setIfInBounds_toArray, List.set_cons_zero, List.set_cons_succ]
                refine held_skip (i := 16) rfl rfl (by kernel_rfl) (by kernel_rfl) (by kernel_rfl) (by kernel_rfl) HSS.out ?_
                simp only [Act.put, List.setIfInBounds_toArray, List.set_cons_zero, List.set_cons_succ]
                refine held_skip (i := 17) rfl rfl (by kernel_rfl) (by kernel_rfl) (by kernel_rfl) (by kernel_rfl) HSS.out ?_
                simp only [Act.put, List.setIfInBounds_toArray, List.set_cons_zero, List.set_cons_succ]
                refine held_skip (i := 18) rfl rfl (by kernel_rfl) (by kernel_rfl) (by kernel_rfl) (by kernel_rfl) HSS.out ?_
                simp only [Act.put, List.setIfInBounds_toArray, List.set_cons_zero, List.set_cons_succ]
                refine held_skip (i := 19) rfl rfl (by kernel_rfl) (by kernel_rfl) (by kernel_rfl) (by kernel_rfl) HSS.out ?_
                simp only [Act.put, List.setIfInBounds_toArray, List.set_cons_zero, List.set_cons_succ]
                refine held_skip (i := 20) rfl rfl (by kernel_rfl) (by kernel_rfl) (by kernel_rfl) (by kernel_rfl) HSS.out ?_
                simp only [Act.put, List.setIfInBounds_toArray, List.set_cons_zero, List.set_cons_succ]
                refine held_skip (i := 21) rfl rfl (by kernel_rfl) (by kernel_rfl) (by kernel_rfl) (by kernel_rfl) HSS.out ?_
                simp only [Act.put, List.setIfInBounds_toArray, List.set_cons_zero, List.set_cons_succ]
                refine held_skip (i := 22) rfl rfl (by kernel_rfl) (by kernel_rfl) (by kernel_rfl) (by kernel_rfl) HSS.out ?_
                simp only [Act.put, List.setIfInBounds_toArray, List.set_cons_zero, List.set_cons_succ]
                refine held_take (i := 23) (v := .bool false) rfl rfl (by kernel_rfl) (by kernel_rfl) (by kernel_rfl) (by kernel_rfl) (fun W hS => by go_simp) HSS.out ?_
                simp only [Act.put, List.setIfInBounds_toArray, List.set_cons_zero, List.set_cons_succ]
                refine held_take (i := 24) (v := .bool false) rfl rfl (by kernel_rfl) (by kernel_rfl) (by kernel_rfl) (by kernel_rfl) (fun W hS => by go_simp) HSS.out ?_
                simp only [Act.put, List.setIfInBounds_toArray, List.set_cons_zero, List.set_cons_succ]
                refine held_take (i := 25) (v := .bool false) rfl rfl (by kernel_rfl) (by kernel_rfl) (by kernel_rfl) (by kernel_rfl) (fun W hS => by go_simp) HSS.out ?_
                simp only [Act.put, List.setIfInBounds_toArray, List.set_cons_zero, List.set_cons_succ]
                refine held_take (i := 26) (v := .pointer (some ⟨wr.heap.size, 1, none⟩)) rfl rfl (by kernel_rfl) (by kernel_rfl) (by kernel_rfl) (by kernel_rfl) (fun W hS => by go_simp) HSS.out ?_
                simp only [Act.put, List.setIfInBounds_toArray, List.set_cons_zero, List.set_cons_succ]
                refine held_take (i := 27) (v := .int .i64 yk) rfl rfl (by kernel_rfl) (by kernel_rfl) (by kernel_rfl) (by kernel_rfl) (fun W hS => by obtain ⟨s0, s1, s2, s3, s4⟩ := hS; go_simp) HSS.out ?_
                simp only [Act.put, List.setIfInBounds_toArray, List.set_cons_zero, List.set_cons_succ]
                refine wpAnyH_ready (rs := [28]) (by kernel_rfl) (by simp) (AllReadyH.cons rfl (fun K hK => ?_) AllReadyH.nil)
                go_simp
                refine (HNK.out _).mono ?_
                rintro e w3 ⟨rfl, hw3⟩
                subst w3
                refine hK.out _ _ HSS.out (fun hT => ?_)
                clear hK K hT
                try simp only [Act.put, List.setIfInBounds_toArray, List.set_cons_zero, List.set_cons_succ]
                refine held_take (i := 29) (v := .bool true) rfl rfl (by kernel_rfl) (by kernel_rfl) (by kernel_rfl) (by kernel_rfl) (fun W hS => by go_simp) HSS.out ?_
                simp only [Act.put, List.setIfInBounds_toArray, List.set_cons_zero, List.set_cons_succ]
                refine held_take (i := 30) (v := .bool true) rfl rfl (by kernel_rfl) (by kernel_rfl) (by kernel_rfl) (by kernel_rfl) (fun W hS => by go_simp) HSS.out ?_
                simp only [Act.put, List.setIfInBounds_toArray, List.set_cons_zero, List.set_cons_succ]
                refine held_take (i := 31) (v := .bool true) rfl rfl (by kernel_rfl) (by kernel_rfl) (by kernel_rfl) (by kernel_rfl) (fun W hS => by go_simp) HSS.out ?_
                simp only [Act.put, List.setIfInBounds_toArray, List.set_cons_zero, List.set_cons_succ]
                refine held_skip (i := 32) rfl rfl (by kernel_rfl) (by kernel_rfl) (by kernel_rfl) (by kernel_rfl) HSS.out ?_
                simp only [Act.put, List.setIfInBounds_toArray, List.set_cons_zero, List.set_cons_succ]
                refine held_skip (i := 33) rfl rfl (by kernel_rfl) (by kernel_rfl) (by kernel_rfl) (by kernel_rfl) HSS.out ?_
                simp only [Act.put, List.setIfInBounds_toArray, List.set_cons_zero, List.set_cons_succ]
                refine held_skip (i := 34) rfl rfl (by kernel_rfl) (by kernel_rfl) (by kernel_rfl) (by kernel_rfl) HSS.out ?_
                simp only [Act.put, List.setIfInBounds_toArray, List.set_cons_zero, List.set_cons_succ]
                refine held_skip (i := 35) rfl rfl (by kernel_rfl) (by kernel_rfl) (by kernel_rfl) (by kernel_rfl) HSS.out ?_
                simp only [Act.put, List.setIfInBounds_toArray, List.set_cons_zero, List.set_cons_succ]
                refine held_take (i := 36) (v := .bool true) rfl rfl (by kernel_rfl) (by kernel_rfl) (by kernel_rfl) (by kernel_rfl) (fun W hS => by go_simp) HSS.out ?_
                simp only [Act.put, List.setIfInBounds_toArray, List.set_cons_zero, List.set_cons_succ]
                refine held_take (i := 37) (v := .bool true) rfl rfl (by kernel_rfl) (by kernel_rfl) (by kernel_rfl) (by kernel_rfl) (fun W hS => by go_simp) HSS.out ?_
                simp only [Act.put, List.setIfInBounds_toArray, List.set_cons_zero, List.set_cons_succ]
                refine held_skip (i := 38) rfl rfl (by kernel_rfl) (by kernel_rfl) (by kernel_rfl) (by kernel_rfl) HSS.out ?_
                simp only [Act.put, List.setIfInBounds_toArray, List.set_cons_zero, List.set_cons_succ]
                refine held_skip (i := 39) rfl rfl (by kernel_rfl) (by kernel_rfl) (by kernel_rfl) (by kernel_rfl) HSS.out ?_
                simp only [Act.put, List.setIfInBounds_toArray, List.set_cons_zero, List.set_cons_succ]
                refine held_skip (i := 40) rfl rfl (by kernel_rfl) (by kernel_rfl) (by kernel_rfl) (by kernel_rfl) HSS.out ?_
                simp only [Act.put, List.setIfInBounds_toArray, List.set_cons_zero, List.set_cons_succ]
                refine held_skip (i := 41) rfl rfl (by kernel_rfl) (by kernel_rfl) (by kernel_rfl) (by kernel_rfl) HSS.out ?_
                simp only [Act.put, List.setIfInBounds_toArray, List.set_cons_zero, List.set_cons_succ]
                refine held_take (i := 42) (v := .bool true) rfl rfl (by kernel_rfl) (by kernel_rfl) (by kernel_rfl) (by kernel_rfl) (fun W hS => by go_simp) HSS.out ?_
                simp only [Act.put, List.setIfInBounds_toArray, List.set_cons_zero, List.set_cons_succ]
                refine wpAnyH_done (by kernel_rfl) ?_ _
                simp only [NoPanic]
                have hB3 := HBW.out.trans (hB2.mono HBW.out.size)
                go_wp2
                go_ret
                exact ⟨by rw [HNE.out]; rfl, hB3⟩
      · obtain rfl : k = l.length := by omega
        have HE : Hid (treeB l = true) := treeB_yes ⟨h40, fun j hj => HP.out j hj hj⟩
        go_wp2
        go_ret
        exact ⟨by rw [HE.out]; rfl, hb⟩
  · have hi40 : (40 : Int) < (l.length : Int) := by omega
    have HE : Hid (treeB l = false) := treeB_big h40
    go_enter Try.func8, Try.ntmps8
    go_wp2
    go_ret
    exact ⟨by rw [HE.out]; rfl, below1 _ _⟩
end Go.Proofs.Ytmnngfaelanbcaa
