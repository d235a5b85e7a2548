/-
  Own text: is a path a directory; an item of one's own; the program's TreeGet.
-/
import Derived.Test.YtmnngfaelanbcaaIItemsW
import Derived.Test.YtmnngfaelanbcaaCloneW
import Derived.Deep.RegionHeld3
namespace Go.Proofs.Ytmnngfaelanbcaa
open Go.RowKit

/-- The item that a list has at a path, and whether. -/
def itAt (l : List ItD) (s : ByteArray) : ItD := (itF l s).getD zeroI
def itIs (l : List ItD) (s : ByteArray) : Bool := (itF l s).isSome
def dirB (F : ByteArray → Option ItD) (s : ByteArray) : Bool := decide (((F s).getD zeroI).k = 2)
theorem itF_mem {l : List ItD} {s : ByteArray} {x : ItD} (h : itF l s = some x) : x = rootI ∨ x ∈ l := by
  unfold itF at h
  split at h
  · injection h with h; exact .inl h.symm
  · exact .inr (List.mem_of_find?_eq_some h)
theorem itAt_small {l : List ItD} {s : ByteArray} {n : Nat} (hn : szIt l ≤ n) (h1 : 1 ≤ n) : (itAt l s).p.size ≤ n ∧ (itAt l s).d.size ≤ n := by
  unfold itAt
  cases h : itF l s with
  | none => exact ⟨Nat.zero_le _, Nat.zero_le _⟩
  | some x =>
    rcases itF_mem h with rfl | hx
    · exact ⟨h1, Nat.zero_le _⟩
    · have := szIt_mem hx
      exact ⟨by show x.p.size ≤ n; omega, by show x.d.size ≤ n; omega⟩

theorem itF_scan {l : List ItD} {s : ByteArray} {k : Nat} (hroot : ¬ s = rootS) (h : ∀ j (hj : j < l.length), j < k → l[j].p ≠ s) :
    (∀ hk : k < l.length, l[k].p = s → itAt l s = l[k] ∧ itIs l s = true) ∧ (l.length ≤ k → itAt l s = zeroI ∧ itIs l s = false) := by
  unfold itAt itIs itF
  rw [if_neg hroot]
  constructor
  · intro hk he
    have : l.find? (fun x => decide (x.p = s)) = some l[k] := by
      rw [List.find?_eq_some_iff_getElem]
      refine ⟨by simpa using he, k, hk, rfl, fun j hj => ?_⟩
      simpa using h j (by omega) hj
    rw [this]
    exact ⟨rfl, rfl⟩
  · intro hk
    have : l.find? (fun x => decide (x.p = s)) = none := by
      rw [List.find?_eq_none]
      intro x hx
      obtain ⟨j, hj, rfl⟩ := List.mem_iff_getElem.1 hx
      simpa using h j hj (by omega)
    rw [this]
    exact ⟨rfl, rfl⟩
set_option maxRecDepth 20000 in
theorem implIsDir (b n : Nat) (F : ByteArray → Option ItD) (s : ByteArray) (w : World) (hs : s.size ≤ maxLen) (hM : MapIt w b n F) :
    Calls Try.prog 35 #[.map (some b), .string s] w fun e w' => e = .returned (.bool (dirB F s)) ∧ Below w.heap.size w w' := by
  have HD : Hid (dirB F s = decide (((F s).getD zeroI).k = 2)) := rfl
  obtain ⟨z, hz⟩ : ∃ z, (F s).getD zeroI = z := ⟨_, rfl⟩
  rw [hz] at HD
  have hfd : ∀ w : World, (Instr.field 34 (.agg #[.string z.p, .int .i64 z.k, .string z.d, .int .i64 z.t]) 1).run Try.prog w = .ok (.int .i64 z.k) w := fun _ => by kernel_rfl
  have hkb : (z.k == 2) = decide (z.k = 2) := rfl
  go_enter Try.func35, Try.ntmps35
  go_wp2_with (at_lookup; refine wp_look1It _ rfl _ _ 51 rfl Try.underlying51 b n F rfl hM s rfl hs z hz ?_; unfold aggI)
  go_ret
  exact ⟨by rw [HD.out]; rfl, Below.refl _ _⟩

set_option maxRecDepth 20000 in
theorem implFresh (b o : Nat) (x : ItD) (w : World) (hp : x.p.size ≤ 281474976710656) (hd : x.d.size ≤ 281474976710656) (hb : b < w.heap.size) (hc : ItAt w b o x) :
    Calls Try.prog 33 #[.pointer (some ⟨b, o, none⟩)] w fun e w' => e = .returned (aggI x) ∧ Below w.heap.size w w' := by
  obtain ⟨xp, xk, xd, xt⟩ := x
  have HX : Hid (∀ W, Below (w.heap.size + 1) (w.alloc (.cells #[.string ⟨#[]⟩, .int .i64 0, .string ⟨#[]⟩, .int .i64 0] 34)) W → W.cell? ⟨b, o, none⟩ = some (.string xp) ∧ W.cell? ⟨b, o + 1, none⟩ = some (.int .i64 xk) ∧ W.cell? ⟨b, o + 2, none⟩ = some (.string xd) ∧ W.cell? ⟨b, o + 3, none⟩ = some (.int .i64 xt)) := by
    intro W h
    have := (hc.below (below1 w (.cells #[.string ⟨#[]⟩, .int .i64 0, .string ⟨#[]⟩, .int .i64 0] 34)) hb).below h (by omega)
    exact this
  have HV : Hid (∀ W, Below (w.heap.size + 1) (w.alloc (.cells #[.string ⟨#[]⟩, .int .i64 0, .string ⟨#[]⟩, .int .i64 0] 34)) W → Var W w.heap.size #[.string ⟨#[]⟩, .int .i64 0, .string ⟨#[]⟩, .int .i64 0] 34 ∧ Below w.heap.size w W) := fun W h => ⟨(Var.made w _ _).below h (by omega), (below1 w _).trans (h.mono (by omega))⟩
  have HG : Hid (∀ W, Below (w.heap.size + 1) (w.alloc (.cells #[.string ⟨#[]⟩, .int .i64 0, .string ⟨#[]⟩, .int .i64 0] 34)) W → W.cell? ⟨w.heap.size, 0, none⟩ = some (.string ⟨#[]⟩) ∧ W.cell? ⟨w.heap.size, 1, none⟩ = some (.int .i64 0) ∧ W.cell? ⟨w.heap.size, 2, none⟩ = some (.string ⟨#[]⟩) ∧ W.cell? ⟨w.heap.size, 3, none⟩ = some (.int .i64 0) ∧ W.frozen? ⟨w.heap.size, 0, none⟩ = false ∧ W.frozen? ⟨w.heap.size, 1, none⟩ = false ∧ W.frozen? ⟨w.heap.size, 2, none⟩ = false ∧ W.frozen? ⟨w.heap.size, 3, none⟩ = false) := fun W h => by
    have hV := (HV.out W h).1
    exact ⟨hV.cell 0, hV.cell 1, hV.cell 2, hV.cell 3, hV.frozen 0, hV.frozen 1, hV.frozen 2, hV.frozen 3⟩
  have HB0 : Hid (Below (w.heap.size + 1) (w.alloc (.cells #[.string ⟨#[]⟩, .int .i64 0, .string ⟨#[]⟩, .int .i64 0] 34)) (w.alloc (.cells #[.string ⟨#[]⟩, .int .i64 0, .string ⟨#[]⟩, .int .i64 0] 34)).drew) := (Below.refl _ _).drew
  have HCL : Hid (∀ s : ByteArray, s.size ≤ 281474976710656 → ∀ W, Below (w.heap.size + 1) (w.alloc (.cells #[.string ⟨#[]⟩, .int .i64 0, .string ⟨#[]⟩, .int .i64 0] 34)) W → Calls Try.prog 50 #[.string s] W fun e w' => e = .returned (.string s) ∧ Below (w.heap.size + 1) (w.alloc (.cells #[.string ⟨#[]⟩, .int .i64 0, .string ⟨#[]⟩, .int .i64 0] 34)) w') := by
    intro s hs W h
    refine (cloneT s W hs).mono ?_
    rintro e w' ⟨rfl, hb⟩
    have hz : w.heap.size + 1 ≤ W.heap.size := by have := h.size; simp at this; omega
    exact ⟨rfl, h.trans (hb.mono hz)⟩
  simp only at hp hd
  unfold aggI
  obtain ⟨c0, c1, c2, c3⟩ := HX.out _ (Below.refl _ _)
  have hne1 : b ≠ w.heap.size := by omega
  have hne2 : w.heap.size ≠ b := by omega
  clear hc hb
  go_enter Try.func33, Try.ntmps33
  go_wp2_with fail
  go_region_held3 (fun W => W.cell? ⟨b, o, none⟩ = some (.string xp) ∧ W.cell? ⟨b, o + 1, none⟩ = some (.int .i64 xk) ∧ W.cell? ⟨b, o + 2, none⟩ = some (.string xd) ∧ W.cell? ⟨b, o + 3, none⟩ = some (.int .i64 xt)) (go_keep) (first
    | (go_at_call_of 50 (xd)
       refine (HCL.out xd hd _ hb1).mono ?_
       rintro e w2 ⟨rfl, hb2⟩
       obtain ⟨e0, e1, e2, e3⟩ := HX.out _ hb2
       obtain ⟨g0, g1, g2, g3, f0, f1, f2, f3⟩ := HG.out _ hb2
       clear d0 d1 d2 d3 hb1)
    | (go_at_call_of 50 (xp)
       refine (HCL.out xp hp _ HB0.out).mono ?_
       rintro e w1 ⟨rfl, hb1⟩
       obtain ⟨d0, d1, d2, d3⟩ := HX.out _ hb1
       skip))
  all_goals
    have hV := (HV.out _ hb2).1
    have hV2 := (((hV.set 0 (.string xp)).set 1 (.int .i64 xk)).set 2 (.string xd)).set 3 (.int .i64 xt)
    simp only [List.setIfInBounds_toArray, List.set_cons_zero, List.set_cons_succ] at hV2
    have hb4 := ((((HV.out _ hb2).2.setCell (p := ⟨w.heap.size, 0, none⟩) (Nat.le_refl _) (.string xp)).setCell (p := ⟨w.heap.size, 1, none⟩) (Nat.le_refl _) (.int .i64 xk)).setCell (p := ⟨w.heap.size, 2, none⟩) (Nat.le_refl _) (.string xd)).setCell (p := ⟨w.heap.size, 3, none⟩) (Nat.le_refl _) (.int .i64 xt)
    go_wp2
    refine bodyPost_ret (results_cell_row rfl _ _ w.heap.size 34 #[.string xp, .int .i64 xk, .string xd, .int .i64 xt] (0, 0) _ rfl hV2 Try.underlying34 rfl Try.sizeIt) rfl ?_
    exact ⟨rfl, hb4⟩

set_option maxRecDepth 20000 in
set_option maxHeartbeats 1000000 in
theorem implTreeGet (v : Value) (l : List ItD) (s : ByteArray) (w : World) (hl : szIt l ≤ 1048576) (hs : s.size ≤ 1048576) (hr : RdTr w v l) :
    Calls Try.prog 13 #[v, .string s] w fun e w' => e = .returned (.tuple #[aggI (itAt l s), .bool (itIs l s)]) ∧ Below w.heap.size w w' := by
  obtain ⟨a, ca, rfl, _, hr⟩ := hr
  have hll := Nat.le_trans (szIt_len l) hl
  have HP : Hid (∀ x ∈ l, x.p.size ≤ maxLen) := fun x hx => by have := szIt_mem hx; unfold maxLen; omega
  have HR : Hid (∀ W, Below w.heap.size w W → RdF encI 4 W a l) := fun W h => hr.below h (Nat.le_refl _)
  have HA : Hid ((itF l s).getD zeroI = itAt l s ∧ (itF l s).isSome = itIs l s ∧ (itAt l s).p.size ≤ 281474976710656 ∧ (itAt l s).d.size ≤ 281474976710656) := ⟨rfl, rfl, Nat.le_trans (itAt_small hl (by omega)).1 (by omega), Nat.le_trans (itAt_small hl (by omega)).2 (by omega)⟩
  have hsm : s.size ≤ maxLen := by unfold maxLen; omega
  have HCI : Hid (∀ w1 : World, ItAt (w1.alloc (.cells #[.string (itAt l s).p, .int .i64 (itAt l s).k, .string (itAt l s).d, .int .i64 (itAt l s).t] 34)) w1.heap.size 0 (itAt l s)) := fun w1 => by
    have hV := Var.made w1 #[.string (itAt l s).p, .int .i64 (itAt l s).k, .string (itAt l s).d, .int .i64 (itAt l s).t] 34
    exact ⟨hV.cell 0, hV.cell 1, hV.cell 2, hV.cell 3⟩
  clear hr hl
  go_enter Try.func13, Try.ntmps13
  go_wp2_with (first
    | (go_at_call 33; refine (implFresh w1.heap.size 0 (itAt l s) _ HA.out.2.2.1 HA.out.2.2.2 (by simp) (HCI.out _)).mono ?_; rintro e w2 ⟨rfl, hb2⟩; obtain ⟨g0, g1, g2, g3, f0, f1, f2, f3⟩ := HG.out _ hb2; unfold aggI)
    | (go_at_call 28; refine (implItems _ _ l _ hll HP.out (HR.out _ (below2 _ _ _))).mono ?_; rintro e w1 ⟨b, rfl, hbl, hM, hb1⟩
       have HB1 : Hid (Below w.heap.size w w1) := (below2 w _ _).trans (hb1.mono (by simp; omega))
       have HV1 : Hid (Var w1 (w.heap.size + 1) #[.string ⟨#[]⟩, .int .i64 0, .string ⟨#[]⟩, .int .i64 0] 34) := (Var.made2 w _ _ _).new hb1
       have HG : Hid (∀ W, Below (w1.alloc (.cells #[.string (itAt l s).p, .int .i64 (itAt l s).k, .string (itAt l s).d, .int .i64 (itAt l s).t] 34)).heap.size (w1.alloc (.cells #[.string (itAt l s).p, .int .i64 (itAt l s).k, .string (itAt l s).d, .int .i64 (itAt l s).t] 34)) W → W.cell? ⟨w.heap.size + 1, 0, none⟩ = some (.string ⟨#[]⟩) ∧ W.cell? ⟨w.heap.size + 1, 1, none⟩ = some (.int .i64 0) ∧ W.cell? ⟨w.heap.size + 1, 2, none⟩ = some (.string ⟨#[]⟩) ∧ W.cell? ⟨w.heap.size + 1, 3, none⟩ = some (.int .i64 0) ∧ W.frozen? ⟨w.heap.size + 1, 0, none⟩ = false ∧ W.frozen? ⟨w.heap.size + 1, 1, none⟩ = false ∧ W.frozen? ⟨w.heap.size + 1, 2, none⟩ = false ∧ W.frozen? ⟨w.heap.size + 1, 3, none⟩ = false) := fun W h => by
         have hV := (HV1.out.alloc (.cells #[.string (itAt l s).p, .int .i64 (itAt l s).k, .string (itAt l s).d, .int .i64 (itAt l s).t] 34)).new h
         exact ⟨hV.cell 0, hV.cell 1, hV.cell 2, hV.cell 3, hV.frozen 0, hV.frozen 1, hV.frozen 2, hV.frozen 3⟩)
    | (at_lookup; refine wp_lookIt _ rfl _ _ 51 rfl Try.underlying51 b (l.length + 1) (itF l) rfl hM s rfl hsm (itAt l s) HA.out.1 (itIs l s) HA.out.2.1 ?_; unfold aggI))
  have hV2 := ((((HV1.out.alloc (.cells #[.string (itAt l s).p, .int .i64 (itAt l s).k, .string (itAt l s).d, .int .i64 (itAt l s).t] 34)).new hb2).set 0 (.string (itAt l s).p)).set 1 (.int .i64 (itAt l s).k)).set 2 (.string (itAt l s).d)
  have hV3 := hV2.set 3 (.int .i64 (itAt l s).t)
  simp only [List.setIfInBounds_toArray, List.set_cons_zero, List.set_cons_succ] at hV3
  have hB2 : Below w.heap.size w w2 := (HB1.out.trans ((below1 w1 _).mono HB1.out.size)).trans (hb2.mono (by have := HB1.out.size; simp; omega))
  have hb4 := (((hB2.setCell (p := ⟨w.heap.size + 1, 0, none⟩) (Nat.le_succ _) (.string (itAt l s).p)).setCell (p := ⟨w.heap.size + 1, 1, none⟩) (Nat.le_succ _) (.int .i64 (itAt l s).k)).setCell (p := ⟨w.heap.size + 1, 2, none⟩) (Nat.le_succ _) (.string (itAt l s).d)).setCell (p := ⟨w.heap.size + 1, 3, none⟩) (Nat.le_succ _) (.int .i64 (itAt l s).t)
  refine bodyPost_ret (res_it2 rfl _ _ (w.heap.size + 1) 34 _ _ rfl hV3 Try.underlying34 rfl Try.sizeIt) rfl ?_
  exact ⟨rfl, hb4⟩
set_option maxRecDepth 20000 in
set_option maxHeartbeats 1000000 in
theorem specTreeGet (v : Value) (l : List ItD) (s : ByteArray) (w : World) (hl : szIt l ≤ 1048576) (hr : RdTr w v l) :
    Calls Try.prog 12 #[v, .string s] w fun e w' => e = .returned (.tuple #[aggI (itAt l s), .bool (itIs l s)]) ∧ Below w.heap.size w w' := by
  obtain ⟨a, ca, rfl, _, hr⟩ := hr
  have hll := Nat.le_trans (szIt_len l) hl
  have HCS : Hid (∀ k (hk : k < l.length), ∃ b off, a = some ⟨b, off, none⟩ ∧ b < w.heap.size ∧ ItAt w b (off + k * 4) l[k]) := fun k hk => RdIt.at hr k hk
  clear hr hl
  by_cases hroot : s = rootS
  · have hE : itAt l s = rootI ∧ itIs l s = true := by unfold itAt itIs itF; rw [if_pos hroot]; exact ⟨rfl, rfl⟩
    rw [hE.1, hE.2]
    subst hroot
    have hq : (rootS.toList == [47]) = true := by rw [ByteArray.toList_eq]; rfl
    unfold rootI aggI
    go_enter Try.func12, Try.ntmps12
    go_wp2
    have hV := Var.made2 w (.cells #[.slice a l.length ca] 29) #[.string ⟨#[47]⟩, .int .i64 2, .string ⟨#[]⟩, .int .i64 0] 34
    refine bodyPost_ret (res_it2 rfl _ _ (w.heap.size + 1) 34 _ _ rfl hV Try.underlying34 rfl Try.sizeIt) rfl ?_
    exact ⟨rfl, below2 _ _ _⟩
  · have hq : (s.toList == [47]) = false := by
      rw [beq_eq_false_iff_ne, ByteArray.toList_eq]
      exact fun e => hroot (Go.WideShapes.bytes_inj (b := rootS) e)
    have HF : Hid (∀ k, (∀ j (hj : j < l.length), j < k → l[j].p ≠ s) → (∀ hk : k < l.length, l[k].p = s → itAt l s = l[k] ∧ itIs l s = true) ∧ (l.length ≤ k → itAt l s = zeroI ∧ itIs l s = false)) := fun k h => itF_scan hroot h
    go_enter Try.func12, Try.ntmps12
    go_wp2
    go_loopw [6] (fun i wr => ∃ k : Nat, k ≤ l.length ∧ i = .int .i64 k ∧ wr = ((w.alloc (.cells #[.slice a l.length ca] 29)).alloc (.cells #[.string ⟨#[]⟩, .int .i64 0, .string ⟨#[]⟩, .int .i64 0] 34)) ∧ Hid (∀ j (hj : j < l.length), j < k → l[j].p ≠ s)) (fun i _ => l.length - (intOf i).toNat)
    case atStart => exact ⟨0, Nat.zero_le _, rfl, rfl, fun j _ h => by omega⟩
    case round =>
      obtain ⟨k, hk, rfl, rfl, HT⟩ := hrel
      by_cases hlt : k < l.length
      · obtain ⟨o, off, rfl, hblt, hcell⟩ := HCS.out k hlt
        obtain ⟨c0, c1, c2, c3⟩ := hcell.below (below2 w (.cells #[.slice (some ⟨o, off, none⟩) l.length ca] 29) (.cells #[.string ⟨#[]⟩, .int .i64 0, .string ⟨#[]⟩, .int .i64 0] 34)) hblt
        clear hcell
        by_cases he : l[k].p = s
        · have hs : (l[k].p.toList == s.toList) = true := by rw [he]; simp
          have HE : Hid (itAt l s = l[k] ∧ itIs l s = true) := (HF.out k HT.out).1 hlt he
          generalize l[k] = y at *
          have hV3 := Var.made2 w (.cells #[.slice (some ⟨o, off, none⟩) l.length ca] 29) #[.string y.p, .int .i64 y.k, .string y.d, .int .i64 y.t] 34
          clear he
          go_wp2
          refine bodyPost_ret (res_it2 rfl _ _ (w.heap.size + 1) 34 _ _ rfl hV3 Try.underlying34 rfl Try.sizeIt) rfl ?_
          exact ⟨by rw [HE.out.1, HE.out.2]; rfl, below2 _ _ _⟩
        · have hs : (l[k].p.toList == s.toList) = false := by rw [str_beq]; exact decide_eq_false he
          have HT2 : Hid (∀ j (hj : j < l.length), j < k + 1 → l[j].p ≠ s) := by
            intro j hj hjk
            by_cases e : j = k
            · subst e; exact he
            · exact HT.out j hj (by omega)
          clear he
          go_wp2
          go_roundw
          case rel => exact ⟨k + 1, by omega, by go_num, trivial, HT2⟩
          case measure => simp [intOf]; omega
      · obtain rfl : k = l.length := by omega
        have HE : Hid (itAt l s = zeroI ∧ itIs l s = false) := (HF.out _ HT.out).2 (Nat.le_refl _)
        have hV := Var.made2 w (.cells #[.slice a l.length ca] 29) #[.string ⟨#[]⟩, .int .i64 0, .string ⟨#[]⟩, .int .i64 0] 34
        go_wp2
        refine bodyPost_ret (res_it2 rfl _ _ (w.heap.size + 1) 34 _ _ rfl hV Try.underlying34 rfl Try.sizeIt) rfl ?_
        exact ⟨by rw [HE.out.1, HE.out.2]; rfl, below2 _ _ _⟩
/-- An item, as an answer. -/
def OwnIt1 (_ : World) (_ _ : Nat) (v : Value) (x : ItD) : Prop := v = aggI x
def RdIt1 (_ : World) (v : Value) (x : ItD) : Prop := v = aggI x
theorem OwnIt1.rd {w : World} {lo hi : Nat} {v : Value} {x : ItD} (h : OwnIt1 w lo hi v x) : RdIt1 w v x := h
theorem OwnIt1.lay {w : World} {lo hi : Nat} {v : Value} {x : ItD} (h : OwnIt1 w lo hi v x) : ∃ _ : Unit, v = .agg #[.string x.p, .int .i64 x.k, .string x.d, .int .i64 x.t] := ⟨(), h⟩
theorem OwnIt1.below {w w' : World} {lo hi : Nat} {v : Value} {x : ItD} (h : OwnIt1 w lo hi v x) (_ : Below w.heap.size w w') : OwnIt1 w' lo hi v x := h
theorem OwnIt1.only {S : Nat → Prop} {w w' : World} {lo hi : Nat} {v : Value} {x : ItD} (h : OwnIt1 w lo hi v x) (_ : Only S w w') (_ : ∀ k, lo ≤ k → k < hi → ¬ S k) : OwnIt1 w' lo hi v x := h
theorem eqIt1 (v u : Value) (x : ItD) (w : World) (_ : True) (hr : RdIt1 w v x) (hs : RdIt1 w u x) : Calls Try.prog 14 #[v, u] w fun e w' => e = .returned (.bool true) ∧ Below w.heap.size w w' := by
  have e1 : v = aggI x := hr
  have e2 : u = aggI x := hs
  rw [e1, e2]
  exact eqItemW x w
theorem specTreeGetX (v : Value) (l : List ItD) (s : ByteArray) (w : World) (hl : szIt l ≤ 1048576) (_ : s.size ≤ 1048576) (hr : RdTr w v l) :
    Calls Try.prog 12 #[v, .string s] w fun e w' => ∃ u, e = .returned (.tuple #[u, .bool (itIs l s)]) ∧ OwnIt1 w' w.heap.size w'.heap.size u (itAt l s) ∧ Below w.heap.size w w' :=
  (specTreeGet v l s w hl hr).mono fun _ _ h => ⟨_, h.1, rfl, h.2⟩
theorem implTreeGetX (v : Value) (l : List ItD) (s : ByteArray) (w : World) (hl : szIt l ≤ 1048576) (hs : s.size ≤ 1048576) (hr : RdTr w v l) :
    Calls Try.prog 13 #[v, .string s] w fun e w' => ∃ u, e = .returned (.tuple #[u, .bool (itIs l s)]) ∧ OwnIt1 w' w.heap.size w'.heap.size u (itAt l s) ∧ Below w.heap.size w w' :=
  (implTreeGet v l s w hl hs hr).mono fun _ _ h => ⟨_, h.1, rfl, h.2⟩
end Go.Proofs.Ytmnngfaelanbcaa
