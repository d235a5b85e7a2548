/-
  Own text: which branches are right, as the program tells it: all of it.
-/
import Derived.Test.YtioecnfgliponaaIFsW
import Derived.Deep.RegionHeld3
namespace Go.Proofs.Ytioecnfgliponaa
open Go.RowKit

theorem seen_nodup {b L : List Int} (hL : L.Nodup) : seenB b L b.length ↔ (L ++ b).Nodup := by
  constructor
  · intro h
    rw [List.nodup_append]
    refine ⟨hL, ?_, fun x hx y hy e => ?_⟩
    · rw [List.nodup_iff_pairwise_ne, List.pairwise_iff_getElem]
      intro i j hi hj hij e
      refine h j _ hj (List.getElem?_eq_getElem hj) (List.mem_append.2 (.inr ?_))
      rw [← e]
      exact List.mem_take_iff_getElem.2 ⟨i, by omega, rfl⟩
    · obtain ⟨j, hj, rfl⟩ := List.getElem_of_mem hy
      exact h j _ hj (List.getElem?_eq_getElem hj) (List.mem_append.2 (.inl (e ▸ hx)))
  · intro h j x hj hx hm
    rw [List.nodup_append] at h
    obtain ⟨_, h2, h3⟩ := h
    obtain ⟨hj', rfl⟩ := List.getElem?_eq_some_iff.1 hx
    rcases List.mem_append.1 hm with hm | hm
    · exact h3 _ hm _ (List.getElem_mem hj') rfl
    · obtain ⟨i, hi, e⟩ := List.mem_take_iff_getElem.1 hm
      rw [List.nodup_iff_pairwise_ne, List.pairwise_iff_getElem] at h2
      exact h2 i j (by omega) hj' (by omega) e
theorem all_range_ints : ∀ (xs ys : List Int), xs.length = ys.length → ((List.range xs.length).all fun i => xs.getD i 0 == ys.getD i 0) = (xs == ys)
  | [], [], _ => rfl
  | x :: xs, y :: ys, h => by
    have ih := all_range_ints xs ys (by simpa using h)
    rw [List.length_cons, List.range_succ_eq_map, List.all_cons, List.all_map]
    simp only [List.getD_cons_zero, Function.comp_def, List.getD_cons_succ, ih]
    simp [List.cons_beq_cons]
  | [], _ :: _, h => by simp at h
  | _ :: _, [], h => by simp at h
/-- Arrays of bytes are held against each other as wholes. -/
theorem run_equalIn_ints {P : Program} (w : World) (d : Nat) (t e : TypeId) (n : Nat) (ht : P.underlying t = some (.array n e)) (he : P.underlying e = some (.int .u8)) (hsz : ∀ w, (sizeOf e).run P w = .ok 1 w)
    (xs ys : List Int) (hx : xs.length = n) (hy : ys.length = n) :
    (Op.equalIn (d + 2) t (.agg (xs.map (Value.int .u8)).toArray) (.agg (ys.map (Value.int .u8)).toArray)).run P w = .ok (xs == ys) w := by
  rw [← all_range_ints xs ys (hx.trans hy.symm), hx, List.range_eq_range', Op.equalIn]
  simp only [Sem.run_bind, run_underlying ht, Result.andThen_ok, hsz, Std.Legacy.Range.forIn_eq_forIn_range', Std.Legacy.Range.size, Nat.sub_zero, Nat.add_sub_cancel, Nat.div_one]
  have hl : ∀ i ∈ List.range' 0 n 1, i < n := fun i hi => by simpa using (List.mem_range'_1.1 hi).2
  generalize List.range' 0 n 1 = l at hl ⊢
  induction l with
  | nil => simp
  | cons i l ih =>
    have hi : i < n := hl i (by simp)
    have px : (part e (xs.map (Value.int .u8)).toArray (i * 1)).run P w = .ok (.int .u8 (xs.getD i 0)) w := by
      simp [part, isAgg, run_underlying he, List.getD, List.getElem?_eq_getElem (show i < xs.length by omega)]
    have py : (part e (ys.map (Value.int .u8)).toArray (i * 1)).run P w = .ok (.int .u8 (ys.getD i 0)) w := by
      simp [part, isAgg, run_underlying he, List.getD, List.getElem?_eq_getElem (show i < ys.length by omega)]
    have pe : (Op.equalIn (d + 1) e (.int .u8 (xs.getD i 0)) (.int .u8 (ys.getD i 0))).run P w = .ok (xs.getD i 0 == ys.getD i 0) w := run_equalIn_int w d e .u8 .u8 _ _ he
    simp only [List.forIn_cons, Sem.run_bind, px, py, pe, Result.andThen_ok, List.all_cons]
    cases hb : (xs.getD i 0 == ys.getD i 0)
    · simp
    · simp only [Bool.not_true, Bool.false_eq_true, if_false, Sem.run_pure, Result.andThen_ok, Bool.true_and]
      exact ih fun j hj => hl j (by simp [hj])
theorem Try.guardBits : Try.prog.eqGuardType Try.prog.depth 88 = false := by kernel_rfl
theorem Try.infoByte : (Try.prog.info? 5).map (·.size) = some 1 := by kernel_rfl
theorem eqBits (h0 h1 h2 h3 h4 f0 f1 f2 f3 f4 : Int) (W : World) : (Op.equalIn 10000 88 (.agg #[.int .u8 h0, .int .u8 h1, .int .u8 h2, .int .u8 h3, .int .u8 h4]) (.agg #[.int .u8 f0, .int .u8 f1, .int .u8 f2, .int .u8 f3, .int .u8 f4])).run Try.prog W = .ok ([h0, h1, h2, h3, h4] == [f0, f1, f2, f3, f4]) W := by
  refine run_equalIn_ints W 9998 88 5 5 Try.underlying88 Try.underlying5 (fun w => ?_) [h0, h1, h2, h3, h4] [f0, f1, f2, f3, f4] rfl rfl
  obtain ⟨i, hi, hs⟩ := Option.map_eq_some_iff.1 Try.infoByte
  simp [sizeOf, typeInfo, hi, hs]
/-- What is known of the first nodes of a branch, while they are gone through. -/
structure ShTo (F : FsD) (k : Nat) : Prop where
  nod : ∀ n ∈ F.ns.take k, NodP n
  hold : ∀ n ∈ F.ns.take k, HoldP F.ds n
  dup : (allB (F.ns.take k)).Nodup
theorem ShTo.zero (F : FsD) : ShTo F 0 := ⟨by simp, by simp, by simp [allB]⟩
theorem ShTo.next {F : FsD} {k : Nat} (h : ShTo F k) (hk : k < F.ns.length) (h1 : NodP F.ns[k]) (h2 : HoldP F.ds F.ns[k]) (h3 : (allB (F.ns.take k) ++ F.ns[k].b).Nodup) : ShTo F (k + 1) := by
  have e := List.take_succ_eq_append_getElem hk
  refine ⟨?_, ?_, by rw [allB_take hk]; exact h3⟩
  · rw [e]
    intro n hn
    rcases List.mem_append.1 hn with hn | hn
    · exact h.nod n hn
    · rw [List.mem_singleton] at hn; rw [hn]; exact h1
  · rw [e]
    intro n hn
    rcases List.mem_append.1 hn with hn | hn
    · exact h.hold n hn
    · rw [List.mem_singleton] at hn; rw [hn]; exact h2
theorem allB_split {l : List NodeD} {k : Nat} (hk : k < l.length) : ∃ r, allB l = allB (l.take k) ++ l[k].b ++ r := by
  refine ⟨allB (l.drop (k + 1)), ?_⟩
  rw [← allB_take hk]
  have h : ∀ x y : List NodeD, allB (x ++ y) = allB x ++ allB y := fun x y => by simp [allB]
  rw [← h, List.take_append_drop]
theorem shape_no {F : FsD} {k : Nat} (hk : k < F.ns.length) (h : NodP F.ns[k] → HoldP F.ds F.ns[k] → ¬ (allB (F.ns.take k) ++ F.ns[k].b).Nodup) : shOk F = false := by
  refine shOk_no fun hp => ?_
  obtain ⟨_, _, h1, h2, h3, _⟩ := hp
  refine h (h1 _ (List.getElem_mem hk)) (h3 _ (List.getElem_mem hk)) ?_
  obtain ⟨r, e⟩ := allB_split hk
  rw [e] at h2
  exact (List.nodup_append.1 h2).1

set_option maxRecDepth 20000 in
set_option maxHeartbeats 4000000 in
theorem implShapeOk (v : Value) (F : FsD) (w : World) (hsm : SmF F) (hr : RdFs w v F) :
    Calls Try.prog 46 #[v] w fun e w' => e = .returned (.bool (shOk F)) ∧ Below w.heap.size w w' := by
  obtain ⟨a, ca, b, cb, rfl, _, r1, r2⟩ := hr
  have hb0 : Below w.heap.size w (w.alloc (.cells #[.slice a F.ns.length ca, .slice b F.ds.length cb] 31)) := below1 _ _
  have hX : Var (w.alloc (.cells #[.slice a F.ns.length ca, .slice b F.ds.length cb] 31)) w.heap.size #[.slice a F.ns.length ca, .slice b F.ds.length cb] 31 := Var.made _ _ _
  have HR1 : Hid (RdNs w a F.ns) := r1
  have HR2 : Hid (RdS w b F.ds) := r2
  have HSM : Hid (SmF F) := hsm
  have HCT := countsW w.heap.size a b ca cb F (w.alloc (.cells #[.slice a F.ns.length ca, .slice b F.ds.length cb] 31)) (hX.cell 0) (hX.cell 1)
  cases hct : cntOk F with
  | false =>
    rw [hct] at HCT
    have HC2 : Hid (Calls Try.prog 65 #[.pointer (some ⟨w.heap.size, 0, none⟩)] (w.alloc (.cells #[.slice a F.ns.length ca, .slice b F.ds.length cb] 31)) fun e w' => e = .returned (.bool false) ∧ w' = (w.alloc (.cells #[.slice a F.ns.length ca, .slice b F.ds.length cb] 31))) := HCT
    have HF : Hid (shOk F = false) := shOk_no fun h => by have := cntOk_iff.2 h.1; rw [hct] at this; cases this
    clear HCT hct r1 r2 hX
    go_enter Try.func46, Try.ntmps46
    go_wp2_with fail
    refine HC2.out.mono ?_
    rintro e w1 ⟨rfl, hw1⟩
    subst w1
    go_wp2
    go_ret
    exact ⟨by rw [HF.out]; rfl, hb0⟩
  | true =>
    have hcp : CountP F := cntOk_iff.1 hct
    rw [hct] at HCT
    have HC2 : Hid (Calls Try.prog 65 #[.pointer (some ⟨w.heap.size, 0, none⟩)] (w.alloc (.cells #[.slice a F.ns.length ca, .slice b F.ds.length cb] 31)) fun e w' => e = .returned (.bool true) ∧ w' = (w.alloc (.cells #[.slice a F.ns.length ca, .slice b F.ds.length cb] 31))) := HCT
    have HCP : Hid (CountP F) := hcp
    obtain ⟨hc1, hc2, hc3, hc4⟩ := hcp
    clear HCT hct
    obtain ⟨g, off, u, rfl, hg, _, c0, _⟩ := r1.at 0 (by omega)
    rw [Nat.zero_mul, Nat.add_zero] at c0
    have d0 := (hb0.cell (p := ⟨g, off, none⟩) hg).trans c0
    have HRT : Hid (RootP F ↔ F.ns[0].k = 2) := ⟨fun ⟨n, hn, hk⟩ => by rw [List.getElem?_eq_getElem (by omega)] at hn; injection hn with hn; rw [hn]; exact hk, fun h => ⟨_, List.getElem?_eq_getElem (by omega), h⟩⟩
    have x0 := hX.cell 0
    simp at x0
    clear r1 r2 c0
    generalize F.ns[0].k = y at *
    have hpos : (0 : Int) < (F.ns.length : Int) := by omega
    by_cases hy : y = 2
    rotate_left
    · have HF : Hid (shOk F = false) := shOk_no fun h => hy (HRT.out.1 h.2.1)
      have hy2 : (y == 2) = false := by simpa using hy
      clear HRT HSM hX
      go_enter Try.func46, Try.ntmps46
      go_wp2_with fail
      refine HC2.out.mono ?_
      rintro e w1 ⟨rfl, hw1⟩
      subst w1
      go_wp2
      go_ret
      exact ⟨by rw [HF.out]; rfl, hb0⟩
    · have HRP : Hid (RootP F) := HRT.out.2 hy
      subst hy
      clear HRT
      have hB : Var ((w.alloc (.cells #[.slice (some ⟨g, off, none⟩) F.ns.length ca, .slice b F.ds.length cb] 31)).alloc (.cells #[.int .u8 0, .int .u8 0, .int .u8 0, .int .u8 0, .int .u8 0] 88)) (w.heap.size + 1) (bitV (allB (F.ns.take 0))) 88 := by
        rw [List.take_zero, show allB [] = [] from rfl, bitV_nil]; exact Var.made2 _ _ _ _
      have hb1 : Below w.heap.size w ((w.alloc (.cells #[.slice (some ⟨g, off, none⟩) F.ns.length ca, .slice b F.ds.length cb] 31)).alloc (.cells #[.int .u8 0, .int .u8 0, .int .u8 0, .int .u8 0, .int .u8 0] 88)) := below2 _ _ _
      have hX1 := hX.alloc (.cells #[.int .u8 0, .int .u8 0, .int .u8 0, .int .u8 0, .int .u8 0] 88)
      have z0 := hX1.cell 0
      simp at z0
      go_enter Try.func46, Try.ntmps46
      go_wp2_with fail
      refine HC2.out.mono ?_
      rintro e w1 ⟨rfl, hw1⟩
      subst w1
      clear HC2
      go_wp2
      clear x0 d0 hX hb0 z0
      generalize (w.alloc (.cells #[.slice (some ⟨g, off, none⟩) F.ns.length ca, .slice b F.ds.length cb] 31)).alloc (.cells #[.int .u8 0, .int .u8 0, .int .u8 0, .int .u8 0, .int .u8 0] 88) = W at *
      go_loopw [5, 19] (fun _ i wr => ∃ k : Nat, k ≤ F.ns.length ∧ i = .int .i64 k ∧ Hid (ShTo F k) ∧ Hid (Var wr w.heap.size #[.slice (some ⟨g, off, none⟩) F.ns.length ca, .slice b F.ds.length cb] 31) ∧ Hid (Var wr (w.heap.size + 1) (bitV (allB (F.ns.take k))) 88) ∧ Below w.heap.size w wr) (fun _ i _ => F.ns.length - (intOf i).toNat)
      case atStart => exact ⟨0, Nat.zero_le _, rfl, ShTo.zero F, hX1, hB, hb1⟩
      case round =>
        clear hX1 hB hb1
        obtain ⟨k, hk, rfl, HN, HX, HB, hbel⟩ := hrel
        by_cases hlt : k < F.ns.length
        · obtain ⟨g', off', u, he, hg', hru, c0, c1, c2, c3, c4⟩ := HR1.out.at k hlt
          cases he
          have d0 := (hbel.cell (p := ⟨g, off + k * 5, none⟩) hg').trans c0
          have d1 := (hbel.cell (p := ⟨g, off + k * 5 + 1, none⟩) hg').trans c1
          have d2 := (hbel.cell (p := ⟨g, off + k * 5 + 2, none⟩) hg').trans c2
          have d3 := (hbel.cell (p := ⟨g, off + k * 5 + 3, none⟩) hg').trans c3
          have d4 := (hbel.cell (p := ⟨g, off + k * 5 + 4, none⟩) hg').trans c4
          have HNO : Hid ((NodP F.ns[k] → HoldP F.ds F.ns[k] → ¬ (allB (F.ns.take k) ++ F.ns[k].b).Nodup) → shOk F = false) := shape_no hlt
          have HNX : Hid (NodP F.ns[k] → HoldP F.ds F.ns[k] → (allB (F.ns.take k) ++ F.ns[k].b).Nodup → ShTo F (k + 1)) := fun h1 h2 h3 => HN.out.next hlt h1 h2 h3
          have HTK : Hid (allB (F.ns.take (k + 1)) = allB (F.ns.take k) ++ F.ns[k].b) := allB_take hlt
          have HNL : Hid (F.ns[k].b.length ≤ 1048576) := HSM.out.2.1 _ (List.getElem_mem hlt)
          have HDU : Hid ((allB (F.ns.take k)).Nodup) := HN.out.dup
          have HRU : Hid (∀ W, Below w.heap.size w W → RdU W u F.ns[k].b) := fun W h => hru.below h (Nat.le_refl _)
          have HUA : Hid (∀ ua uc, u = .slice ua F.ns[k].b.length uc → Rd .i64 w ua F.ns[k].b) := by
            obtain ⟨ua, uc, rfl, _, _, h⟩ := hru
            intro ua' uc' e
            injection e with e1 _ _
            rw [← e1]; exact h
          clear c0 c1 c2 c3 c4 HN
          generalize F.ns[k] = n at *
          obtain ⟨ua, uc, rfl, _⟩ := hru
          have hsz := hbel.size
          have hp1 := HB.out.lt
          have hb9 : Below wr.heap.size wr (wr.alloc (.cells #[.int .i64 n.k, .int .i64 n.g, .int .i64 n.t, .int .i64 n.s, .slice ua n.b.length uc] 57)) := below1 _ _
          have hbel9 : Below w.heap.size w (wr.alloc (.cells #[.int .i64 n.k, .int .i64 n.g, .int .i64 n.t, .int .i64 n.s, .slice ua n.b.length uc] 57)) := hbel.trans (hb9.mono hsz)
          have hV9 : Var (wr.alloc (.cells #[.int .i64 n.k, .int .i64 n.g, .int .i64 n.t, .int .i64 n.s, .slice ua n.b.length uc] 57)) wr.heap.size #[.int .i64 n.k, .int .i64 n.g, .int .i64 n.t, .int .i64 n.s, .slice ua n.b.length uc] 57 := Var.made _ _ _
          have hX9 := HX.out.new hb9
          have hB9 := HB.out.new hb9
          go_wp2_with fail
          clear d0 d1 d2 d3 d4 hb9 HX HB hbel
          generalize wr.alloc (.cells #[.int .i64 n.k, .int .i64 n.g, .int .i64 n.t, .int .i64 n.s, .slice ua n.b.length uc] 57) = W9 at *
          refine (implNodeOk _ n _ HNL.out (HRU.out _ hbel9).node).mono ?_
          rintro e w1 ⟨rfl, hb1⟩
          have hbel1 : Below w.heap.size w w1 := hbel9.trans (hb1.mono hbel9.size)
          have hV1 := hV9.new hb1
          have hX1 := hX9.new hb1
          have hB1 := hB9.new hb1
          clear hbel9 hV9 hX9 hB9 hb1
          obtain ⟨q1, hq1⟩ : ∃ q, ndOk n = q := ⟨_, rfl⟩
          rw [hq1]
          cases q1 with
          | false =>
            have HF : Hid (shOk F = false) := HNO.out fun h => absurd (ndOk_yes h) (by rw [hq1]; decide)
            clear hq1
            go_wp2
            go_ret
            exact ⟨by rw [HF.out]; rfl, hbel1⟩
          | true =>
            have HNP : Hid (NodP n) := ndOk_iff.1 hq1
            clear hq1
            have v4 := hV1.cell 4
            simp at v4
            go_wp2_with fail
            refine (bitAdd (w.heap.size + 1) ua uc n.b (allB (F.ns.take k)) _ HNP.out.len HNP.out.blk ((HUA.out ua uc rfl).below hbel1 (Nat.le_refl _)) (fun q o e hne => ?_) hB1).mono ?_
            · rcases HUA.out ua uc rfl with h | ⟨b2, o2, e2, h2, _⟩
              · exact absurd h hne
              · rw [e] at e2
                injection e2 with e2
                injection e2 with e3 _ _
                omega
            rintro e w2 ⟨q2, rfl, hq2, hB2, hO2⟩
            have hbel2 : Below w.heap.size w w2 := hbel1.trans (hO2.below hbel1.size (fun j e => by omega))
            have hX2 := hX1.only hO2 (by omega)
            have hV2 := hV1.only hO2 (by omega)
            clear hX1 hV1 hB1 hO2 v4 hbel1
            cases q2 with
            | false =>
              have HF : Hid (shOk F = false) := HNO.out fun _ _ h => absurd (hq2.2 ((seen_nodup HDU.out).2 h)) (by decide)
              clear hq2 hB2
              go_wp2
              go_ret
              exact ⟨by rw [HF.out]; rfl, hbel2⟩
            | true =>
              have HND : Hid ((allB (F.ns.take k) ++ n.b).Nodup) := (seen_nodup HDU.out).1 (hq2.1 rfl)
              have hB3 := hB2 rfl
              clear hq2 hB2
              have v0 := hV2.cell 0
              have v1 := hV2.cell 1
              have v2 := hV2.cell 2
              have v3 := hV2.cell 3
              have v4 := hV2.cell 4
              simp at v0 v1 v2 v3 v4
              go_wp2_with fail
              refine (holdsW w.heap.size b cb F.ds n _ _ hX2.lt HNP.out hc4 HSM.out.2.2.2 (by have := hX2.cell 1; simpa using this) (HRU.out _ hbel2) (HR2.out.below hbel2 (Nat.le_refl _))).mono ?_
              rintro e w3 ⟨rfl, hb3⟩
              have hbel3 : Below w.heap.size w w3 := hbel2.trans (hb3.mono hbel2.size)
              have hX3 := hX2.new hb3
              have hB4 := hB3.new hb3
              clear hX2 hV2 hB3 hb3 hbel2 v0 v1 v2 v3 v4
              obtain ⟨q3, hq3⟩ : ∃ q, holdOk F.ds n = q := ⟨_, rfl⟩
              rw [hq3]
              cases q3 with
              | false =>
                have HF : Hid (shOk F = false) := HNO.out fun _ h => absurd (holdOk_yes h) (by rw [hq3]; decide)
                clear hq3
                go_wp2
                go_ret
                exact ⟨by rw [HF.out]; rfl, hbel3⟩
              | true =>
                have HN2 : Hid (ShTo F (k + 1)) := HNX.out HNP.out (holdOk_iff.1 hq3) HND.out
                have HB4 : Hid (Var w3 (w.heap.size + 1) (bitV (allB (F.ns.take (k + 1)))) 88) := by show Var _ _ _ _; rw [HTK.out]; exact hB4
                have HX3 : Hid (Var w3 w.heap.size #[.slice (some ⟨g, off, none⟩) F.ns.length ca, .slice b F.ds.length cb] 31) := hX3
                clear hq3 hB4 hX3
                go_wp2
                go_roundw
                case rel => exact ⟨k + 1, by omega, by go_num, HN2, HX3, HB4, hbel3⟩
                case measure => simp [intOf]; omega
        · obtain rfl : k = F.ns.length := by omega
          have HSH : Hid (shOk F = decide (bitsB (allB F.ns) 5 = bitsB (fillL F.ds F.ds.length) 5)) := by
            have h := HN.out
            rw [show F.ns.length = F.ns.length from rfl] at h
            obtain ⟨h1, h2, h3⟩ := h
            rw [List.take_length] at h1 h2 h3
            refine shOk_of ?_
            rw [decide_eq_true_iff]
            exact shape_bits HCP.out HRP.out h1 h3 h2
          have hB := HB.out
          rw [List.take_length, tenV] at hB
          have x0 := hB.cell 0
          have x1 := hB.cell 1
          have x2 := hB.cell 2
          have x3 := hB.cell 3
          have x4 := hB.cell 4
          simp at x0 x1 x2 x3 x4
          have HFI : Hid (Calls Try.prog 69 #[.pointer (some ⟨w.heap.size, 0, none⟩)] wr.drew fun e w' => e = .returned (.agg #[.int .u8 (byteAt (fillL F.ds F.ds.length) 0 : Int), .int .u8 (byteAt (fillL F.ds F.ds.length) 1 : Int), .int .u8 (byteAt (fillL F.ds F.ds.length) 2 : Int), .int .u8 (byteAt (fillL F.ds F.ds.length) 3 : Int), .int .u8 (byteAt (fillL F.ds F.ds.length) 4 : Int)]) ∧ Below wr.heap.size wr w') := by
            rw [← tenV]
            refine (filledW w.heap.size b cb F.ds wr.drew (by have := HX.out.lt; simpa using this) hc4 (by have := HX.out.cell 1; simpa using this) (HR2.out.below hbel.drew (Nat.le_refl _))).mono ?_
            rintro e w' ⟨rfl, h2⟩
            exact ⟨rfl, ⟨h2.os, h2.tape, h2.output, h2.size, h2.block⟩⟩
          have HEQ : Hid ((bitsB (allB F.ns) 5 = bitsB (fillL F.ds F.ds.length) 5) ↔ ((byteAt (allB F.ns) 0 : Int) = (byteAt (fillL F.ds F.ds.length) 0 : Int) ∧ (byteAt (allB F.ns) 1 : Int) = (byteAt (fillL F.ds F.ds.length) 1 : Int) ∧ (byteAt (allB F.ns) 2 : Int) = (byteAt (fillL F.ds F.ds.length) 2 : Int) ∧ (byteAt (allB F.ns) 3 : Int) = (byteAt (fillL F.ds F.ds.length) 3 : Int) ∧ (byteAt (allB F.ns) 4 : Int) = (byteAt (fillL F.ds F.ds.length) 4 : Int))) := by
            show _ ↔ _
            have h : ∀ L : List Int, bitsB L 5 = [(byteAt L 0 : Int), (byteAt L 1 : Int), (byteAt L 2 : Int), (byteAt L 3 : Int), (byteAt L 4 : Int)] := fun L => rfl
            rw [h, h]
            simp
          have HVB : Hid (Var wr (w.heap.size + 1) #[.int .u8 (byteAt (allB F.ns) 0 : Int), .int .u8 (byteAt (allB F.ns) 1 : Int), .int .u8 (byteAt (allB F.ns) 2 : Int), .int .u8 (byteAt (allB F.ns) 3 : Int), .int .u8 (byteAt (allB F.ns) 4 : Int)] 88) := hB
          clear hB HB HX HN
          generalize (byteAt (fillL F.ds F.ds.length) 0 : Int) = f0 at *
          generalize (byteAt (fillL F.ds F.ds.length) 1 : Int) = f1 at *
          generalize (byteAt (fillL F.ds F.ds.length) 2 : Int) = f2 at *
          generalize (byteAt (fillL F.ds F.ds.length) 3 : Int) = f3 at *
          generalize (byteAt (fillL F.ds F.ds.length) 4 : Int) = f4 at *
          generalize (byteAt (allB F.ns) 0 : Int) = h0 at *
          generalize (byteAt (allB F.ns) 1 : Int) = h1 at *
          generalize (byteAt (allB F.ns) 2 : Int) = h2 at *
          generalize (byteAt (allB F.ns) 3 : Int) = h3 at *
          generalize (byteAt (allB F.ns) 4 : Int) = h4 at *
          have heq : ∀ W, (Op.equalIn 10000 88 (.agg #[.int .u8 h0, .int .u8 h1, .int .u8 h2, .int .u8 h3, .int .u8 h4]) (.agg #[.int .u8 f0, .int .u8 f1, .int .u8 f2, .int .u8 f3, .int .u8 f4])).run Try.prog W = .ok ([h0, h1, h2, h3, h4] == [f0, f1, f2, f3, f4]) W := eqBits h0 h1 h2 h3 h4 f0 f1 f2 f3 f4
          have HQ : Hid (([h0, h1, h2, h3, h4] == [f0, f1, f2, f3, f4]) = shOk F) := by
            show _ = _
            rw [HSH.out, Bool.eq_iff_iff, decide_eq_true_iff, HEQ.out]
            simp
          have hgd := Try.guardBits
          generalize ([h0, h1, h2, h3, h4] == [f0, f1, f2, f3, f4]) = q at *
          go_wp2_with fail
          go_region_held3 (fun W => W.cell? ⟨w.heap.size + 1, 0, none⟩ = some (.int .u8 h0) ∧ W.cell? ⟨w.heap.size + 1, 1, none⟩ = some (.int .u8 h1) ∧ W.cell? ⟨w.heap.size + 1, 2, none⟩ = some (.int .u8 h2) ∧ W.cell? ⟨w.heap.size + 1, 3, none⟩ = some (.int .u8 h3) ∧ W.cell? ⟨w.heap.size + 1, 4, none⟩ = some (.int .u8 h4)) (go_keep) (first
            | (go_at_call 69
               refine HFI.out.mono ?_
               rintro e w2 ⟨rfl, hb2⟩
               obtain ⟨k0, k1, k2, k3, k4⟩ : w2.cell? ⟨w.heap.size + 1, 0, none⟩ = some (.int .u8 h0) ∧ w2.cell? ⟨w.heap.size + 1, 1, none⟩ = some (.int .u8 h1) ∧ w2.cell? ⟨w.heap.size + 1, 2, none⟩ = some (.int .u8 h2) ∧ w2.cell? ⟨w.heap.size + 1, 3, none⟩ = some (.int .u8 h3) ∧ w2.cell? ⟨w.heap.size + 1, 4, none⟩ = some (.int .u8 h4) := ⟨(HVB.out.new hb2).cell 0, (HVB.out.new hb2).cell 1, (HVB.out.new hb2).cell 2, (HVB.out.new hb2).cell 3, (HVB.out.new hb2).cell 4⟩
               skip))
          all_goals
            have hb3 : Below w.heap.size w w2 := hbel.trans (hb2.mono hbel.size)
            go_wp2
            go_ret
            exact ⟨by rw [← HQ.out]; rfl, hb3⟩
end Go.Proofs.Ytioecnfgliponaa
