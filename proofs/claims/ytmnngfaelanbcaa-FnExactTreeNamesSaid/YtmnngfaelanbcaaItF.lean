/-
  Own text: what the frame tells of a tree that came in; trees as answers.
-/
import Derived.Test.YtmnngfaelanbcaaItW
import Derived.OpenShut
import Derived.ShutString
import Derived.ChangeOld
import Derived.Below
import Derived.SliceStrings
import Derived.ChangeSame
import Derived.Lib.SmallJoins
namespace Go.Proofs.Ytmnngfaelanbcaa
open Go.Joins Go.ChangeShapes Go.WideShapes Go.ChangeAt Go.RowKit

def FitTr (l : List ItD) : Prop := l.length ≤ maxLen ∧ ∀ x ∈ l, x.p.size ≤ maxLen ∧ x.d.size ≤ maxLen
theorem szIt_len (l : List ItD) : l.length ≤ szIt l := by
  induction l with
  | nil => simp [szIt]
  | cons x l ih => simp only [szIt, List.map_cons, List.sum_cons, List.length_cons] at ih ⊢; omega
theorem szIt_mem {l : List ItD} {x : ItD} (h : x ∈ l) : 1 + x.p.size + x.d.size ≤ szIt l := by
  induction l with
  | nil => cases h
  | cons y l ih =>
    simp only [szIt, List.map_cons, List.sum_cons] at ih ⊢
    rcases List.mem_cons.1 h with rfl | h
    · omega
    · have := ih h; omega
def RdTr (w : World) (v : Value) (l : List ItD) : Prop := ∃ a c, v = .agg #[.slice a l.length c] ∧ l.length ≤ c ∧ RdF encI 4 w a l
def OwnTr (w : World) (lo hi : Nat) (v : Value) (l : List ItD) : Prop := ∃ u, v = .agg #[u] ∧ w.ownsRow lo 34 4 u l.length (l.flatMap encI) ∧ ∀ j, blk u j → j < hi
theorem OwnTr.rd {w : World} {lo hi : Nat} {v : Value} {l : List ItD} (h : OwnTr w lo hi v l) : RdTr w v l := by
  obtain ⟨u, rfl, h1, _⟩ := h
  obtain ⟨a, c, rfl, hc, hr⟩ := own_rdF encI_len h1 rfl
  exact ⟨a, c, rfl, hc, hr⟩
theorem RdTr.lay {w : World} {v : Value} {l : List ItD} (h : RdTr w v l) : ∃ a c, v = .agg #[.slice a l.length c] := by
  obtain ⟨a, c, rfl, _⟩ := h
  exact ⟨a, c, rfl⟩
theorem OwnTr.lay {w : World} {lo hi : Nat} {v : Value} {l : List ItD} (h : OwnTr w lo hi v l) : ∃ a c, v = .agg #[.slice a l.length c] := h.rd.lay
theorem OwnTr.below {w w' : World} {lo hi : Nat} {v : Value} {l : List ItD} (h : OwnTr w lo hi v l) (hb : Below w.heap.size w w') : OwnTr w' lo hi v l := by
  obtain ⟨u, rfl, h1, h2⟩ := h
  exact ⟨u, rfl, ownsRow_below h1 hb (Nat.le_refl _), h2⟩
theorem OwnTr.only {S : Nat → Prop} {w w' : World} {lo hi : Nat} {v : Value} {l : List ItD} (h : OwnTr w lo hi v l) (ho : Only S w w') (hs : ∀ k, lo ≤ k → k < hi → ¬ S k) : OwnTr w' lo hi v l := by
  obtain ⟨u, rfl, h1, h2⟩ := h
  exact ⟨u, rfl, own_only h1 ho (fun k hk => hs k (h1.lt k hk).1 (h2 k hk)), h2⟩
theorem RdTr.below {B : Nat} {w w' : World} {v : Value} {l : List ItD} (h : RdTr w v l) (hb : Below B w w') (hB : w.heap.size ≤ B) : RdTr w' v l := by
  obtain ⟨a, c, rfl, hc, hr⟩ := h
  exact ⟨a, c, rfl, hc, hr.below hb hB⟩

set_option maxRecDepth 20000 in
theorem eqTrW (v u : Value) (l : List ItD) (w : World) (hl : l.length ≤ 4194304) (hr : RdTr w v l) (hs : RdTr w u l) :
    Calls Try.prog 11 #[v, u] w fun e w' => e = .returned (.bool true) ∧ Below w.heap.size w w' := by
  obtain ⟨a, c, rfl, _, hr⟩ := hr
  obtain ⟨a', c', rfl, _, hs⟩ := hs
  have HR : Hid (∀ W, Below w.heap.size w W → RdF encI 4 W a l) := fun W h => hr.below h (Nat.le_refl _)
  have HS : Hid (∀ W, Below w.heap.size w W → RdF encI 4 W a' l) := fun W h => hs.below h (Nat.le_refl _)
  clear hr hs
  go_enter Try.func11, Try.ntmps11
  go_wp2_with fail
  refine (eqItems _ _ _ _ l _ hl (HR.out _ (below2 _ _ _)) (HS.out _ (below2 _ _ _))).mono ?_
  rintro e w1 ⟨rfl, hb⟩
  have hb2 : Below w.heap.size w w1 := (below2 w _ _).trans (hb.mono (by simp; omega))
  go_wp2
  go_ret
  exact ⟨rfl, hb2⟩

theorem Try.sizeTr : (Try.prog.info? 29).map (·.size) = some 1 := by kernel_rfl
set_option maxRecDepth 20000 in
theorem toTrW (v : Value) (l : List ItD) (w : World) (hl : szIt l ≤ 1048576) (hr : RdTr w v l) :
    Calls Try.prog 9 #[v] w fun e w' => ∃ v', e = .returned v' ∧ OwnTr w' w.heap.size w'.heap.size v' l ∧ Below w.heap.size w w' := by
  obtain ⟨a, c, rfl, _, hr⟩ := hr
  have hll := Nat.le_trans (szIt_len l) hl
  have HR : Hid (∀ W, Below w.heap.size w W → RdF encI 4 W a l) := fun W h => hr.below h (Nat.le_refl _)
  clear hr hl
  go_enter Try.func9, Try.ntmps9
  go_wp2_with fail
  refine (toItems _ _ l _ hll (HR.out _ (below3 _ _ _ _))).mono ?_
  rintro e w1 ⟨u, rfl, ho1, hb1⟩
  obtain ⟨a1, c1, rfl, _, _⟩ := own_rdF encI_len ho1 rfl
  have hV0 : Var w1 (w.heap.size + 1 + 1) #[.slice none 0 0] 29 := (Var.made3 w _ _ _ _).new hb1
  have hR0 : Var w1 (w.heap.size + 1) #[.slice none 0 0] 29 := ((Var.made2 w _ _ _).alloc _).new hb1
  have hs0 : (((w.alloc (.cells #[.slice a l.length c] 24)).alloc (.cells #[.slice none 0 0] 29)).alloc (.cells #[.slice none 0 0] 29)).heap.size = w.heap.size + 1 + 1 + 1 := by simp
  rw [hs0] at ho1 hb1
  have hb01 : Below w.heap.size w w1 := (below3 w _ _ _).trans (hb1.mono (by omega))
  have hV1 := hV0.set 0 (.slice a1 l.length c1)
  have hR1 := hR0.other (Q := w.heap.size + 1 + 1) (by omega) 0 (.slice a1 l.length c1)
  have hb02 : Below w.heap.size w (w1.setCell ⟨w.heap.size + 1 + 1, 0, none⟩ (.slice a1 l.length c1)) := hb01.setCell (p := ⟨w.heap.size + 1 + 1, 0, none⟩) (by show _ ≤ w.heap.size + 1 + 1; omega) _
  have hc0 := hV0.cell 0
  have hf0 := hV0.frozen 0
  have hc1 := hV1.cell 0
  have ho2 := own_only ho1 (Only.setCell (S := fun k => k = w.heap.size + 1 + 1) (Only.refl _ _) (p := ⟨w.heap.size + 1 + 1, 0, none⟩) rfl (.slice a1 l.length c1)) (fun k hk e => by have := (ho1.lt k hk).1; omega)
  have hR2 := hR1.cell 0
  have hf2 := hR1.frozen 0
  simp at hc0 hc1 hR2
  have HO2 : Hid ((w1.setCell ⟨w.heap.size + 1 + 1, 0, none⟩ (.slice a1 l.length c1)).ownsRow (w.heap.size + 1 + 1 + 1) 34 4 (.slice a1 l.length c1) l.length (l.flatMap encI)) := ho2
  have hO3 : Only (fun k => k = w.heap.size + 1) (w1.setCell ⟨w.heap.size + 1 + 1, 0, none⟩ (.slice a1 l.length c1)) ((w1.setCell ⟨w.heap.size + 1 + 1, 0, none⟩ (.slice a1 l.length c1)).setCell ⟨w.heap.size + 1, 0, none⟩ (.slice a1 l.length c1)) := Only.setCell (S := fun k => k = w.heap.size + 1) (Only.refl _ _) (p := ⟨w.heap.size + 1, 0, none⟩) rfl (.slice a1 l.length c1)
  have HO3 : Hid (((w1.setCell ⟨w.heap.size + 1 + 1, 0, none⟩ (.slice a1 l.length c1)).setCell ⟨w.heap.size + 1, 0, none⟩ (.slice a1 l.length c1)).ownsRow w.heap.size 34 4 (.slice a1 l.length c1) l.length (l.flatMap encI)) := ownsRow_base (own_only HO2.out hO3 (fun k hk e => by have := (HO2.out.lt k hk).1; omega)) (by omega)
  have HR3 : Hid (Var ((w1.setCell ⟨w.heap.size + 1 + 1, 0, none⟩ (.slice a1 l.length c1)).setCell ⟨w.heap.size + 1, 0, none⟩ (.slice a1 l.length c1)) (w.heap.size + 1) #[(.slice a1 l.length c1)] 29) := hR1.set 0 (.slice a1 l.length c1)
  have hb03 : Below w.heap.size w ((w1.setCell ⟨w.heap.size + 1 + 1, 0, none⟩ (.slice a1 l.length c1)).setCell ⟨w.heap.size + 1, 0, none⟩ (.slice a1 l.length c1)) := hb02.setCell (p := ⟨w.heap.size + 1, 0, none⟩) (by show _ ≤ w.heap.size + 1; omega) _
  clear ho1 ho2 hb1 hs0 hb01 hV0 hR0 hV1 hR1 HO2 hO3 HR hb02
  go_wp2
  refine bodyPost_ret (results_cell_row rfl _ _ (w.heap.size + 1) 29 #[(.slice a1 l.length c1)] (0, 0) _ rfl HR3.out Try.underlying29 rfl Try.sizeTr) rfl ?_
  exact ⟨_, rfl, ⟨_, rfl, HO3.out, fun j hj => (HO3.out.lt j hj).2⟩, hb03⟩

set_option maxRecDepth 20000 in
theorem szTrW (v : Value) (l : List ItD) (left : Int) (w : World) (h0 : 0 ≤ left) (h1 : left ≤ 1048576) (hf : FitTr l) (hr : RdTr w v l) :
    Calls Try.prog 7 #[v, .int .i64 left] w fun e w' => ∃ r : Int, e = .returned (.int .i64 r) ∧ (0 ≤ r → r + szIt l = left) ∧ -1 ≤ r ∧ r ≤ 1048576 ∧ Below w.heap.size w w' := by
  obtain ⟨a, c, rfl, _, hr⟩ := hr
  have HR : Hid (∀ W, Below w.heap.size w W → RdF encI 4 W a l) := fun W h => hr.below h (Nat.le_refl _)
  have HF : Hid (FitTr l) := hf
  clear hr hf
  go_enter Try.func7, Try.ntmps7
  go_wp2_with fail
  refine (szItems _ _ l left _ h0 h1 HF.out.1 HF.out.2 (HR.out _ (below1 _ _))).mono ?_
  rintro e w1 ⟨r, rfl, hr1, hr2, hr3, hb1⟩
  have hb01 : Below w.heap.size w w1 := (below1 w _).trans (hb1.mono (by simp))
  by_cases h : r < 0
  · clear hr1
    go_wp2
    go_ret
    exact ⟨-1, rfl, by omega, by omega, by omega, hb01⟩
  · have HR1 : Hid (r + (szIt l : Int) = left) := hr1 (by omega)
    clear hr1
    go_wp2
    go_ret
    exact ⟨r, rfl, fun _ => HR1.out, hr2, hr3, hb01⟩

set_option maxRecDepth 20000 in
theorem markTrW (v : Value) (lo hi k : Nat) (l : List ItD) (w : World) (hl : l.length ≤ 4194304) (hk : k ≤ 67108864) (_ : hi ≤ w.heap.size) (ho : OwnTr w lo hi v l) :
    Calls Try.prog 18 #[v, .int .i64 k] w fun e w' => e = .returned (.int .i64 ((k + 4 * l.length : Nat) : Int)) ∧ OwnTr w' lo hi v (marksIt k l.length) ∧ Only (fun j => lo ≤ j ∧ j < hi) w w' := by
  obtain ⟨u, rfl, ho1, hlt⟩ := ho
  have HO : Hid (∀ W, Below w.heap.size w W → W.ownsRow lo 34 4 u l.length (l.flatMap encI)) := fun W h => ownsRow_below ho1 h (Nat.le_refl _)
  have HL : Hid (∀ j, blk u j → lo ≤ j ∧ j < hi) := fun j hj => ⟨(ho1.lt j hj).1, hlt j hj⟩
  clear ho1 hlt
  go_enter Try.func18, Try.ntmps18
  go_wp2_with fail
  refine (markItems _ l.length k lo l _ (by omega) (by omega) rfl (HO.out _ (below1 _ _))).mono ?_
  rintro e w1 ⟨rfl, h1, h2⟩
  have hon : Only (fun j => lo ≤ j ∧ j < hi) w w1 := (Only.of_new (below1 w _)).trans (h2.mono fun j _ hj => HL.out j hj)
  have HO1 : Hid (w1.ownsRow lo 34 4 u l.length ((marksIt k l.length).flatMap encI)) := h1
  clear h1 h2
  go_wp2
  go_ret
  exact ⟨rfl, ⟨u, rfl, by rw [marksIt_len]; exact HO1.out, fun j hj => (HL.out j hj).2⟩, hon⟩

section
variable {H : Type} {enc : TypeId × Value → H} {w : World} {spare : Nat → Bool} {held : Bool}

set_option maxRecDepth 20000 in
theorem item_of_trod {fuel : Nat} {cs : List Value} {x : DataW H × List MemPlace} (h : DataW.trod enc Try.prog w 0 spare held fuel 60 cs = some x) :
    ∃ p : ItD, cs = encI p ∧ p.p.size ≤ maxLen ∧ p.d.size ≤ maxLen := by
  obtain ⟨y0, y1, y2, y3, n, _, hl, h0, h1, h2, h3⟩ := trod_struct4 Try.underlying60 h
  have hc : Try.prog.cellsOf 60 = 4 := by kernel_rfl
  have hc0 : Try.prog.cellsOf 9 = 1 := by kernel_rfl
  have hc1 : Try.prog.cellsOf 3 = 1 := by kernel_rfl
  rw [hc] at hl
  match cs, hl with
  | [c0, c1, c2, c3], _ =>
    simp only [hc0, hc1, List.drop_zero, List.take_succ_cons, List.take_zero, List.drop_succ_cons] at h0 h1 h2 h3
    obtain ⟨s, e0, _, hs⟩ := DataW.trod_string Try.underlying9 h0
    obtain ⟨m, e1, _, _⟩ := DataW.trod_int Try.underlying3 h1
    obtain ⟨s2, e2, _, hs2⟩ := DataW.trod_string Try.underlying9 h2
    obtain ⟨m2, e3, _, _⟩ := DataW.trod_int Try.underlying3 h3
    simp at e0 e1 e2 e3
    subst e0
    subst e1
    subst e2
    subst e3
    exact ⟨⟨s, m, s2, m2⟩, rfl, hs, hs2⟩

theorem items_of_trod {fuel : Nat} {v : Value} {x : DataW H × List MemPlace} (h : DataW.trod enc Try.prog w 0 spare held fuel 22 [v] = some x) :
    ∃ (a : Option Addr) (cap : Nat) (l : List ItD), v = .slice a l.length cap ∧ l.length ≤ cap ∧ l.length ≤ maxLen ∧ (∀ p ∈ l, p.p.size ≤ maxLen ∧ p.d.size ≤ maxLen) ∧ RdF encI 4 w a l := by
  have hc : Try.prog.cellsOf 60 = 4 := by kernel_rfl
  rcases DataW.trod_slice Try.underlying22 h with ⟨hv, _⟩ | ⟨a, len, cap, elems, rest, n, _, hv, _, _, hl, hm, hlen, hel, _, _⟩
  · simp at hv
    exact ⟨none, 0, [], hv, Nat.zero_le _, Nat.zero_le _, by simp, .inl rfl⟩
  · simp at hv
    rw [hc] at hel
    have each : ∀ i, i < len → ∃ p : ItD, w.cells? 0 (a.add (i * 4)) 4 = some (encI p) ∧ p.p.size ≤ maxLen ∧ p.d.size ≤ maxLen := by
      intro i hi
      have h1 := hel i hi
      rw [List.getElem?_eq_getElem (by omega)] at h1
      obtain ⟨cs, hcs, ht⟩ := Option.bind_eq_some_iff.1 h1
      obtain ⟨p, rfl, h2⟩ := item_of_trod ht
      exact ⟨p, hcs, h2⟩
    let g : Nat → ItD := fun i => if hi : i < len then Classical.choose (each i hi) else zeroI
    have hg : ∀ i (hi : i < len), w.cells? 0 (a.add (i * 4)) 4 = some (encI (g i)) ∧ (g i).p.size ≤ maxLen ∧ (g i).d.size ≤ maxLen := by
      intro i hi
      have := Classical.choose_spec (each i hi)
      simp only [g, hi, dif_pos]
      exact this
    refine ⟨some a, cap, (List.range len).map g, by simp [hv], by simp; omega, by simp; omega, ?_, ?_⟩
    · intro p hp
      obtain ⟨i, hi, rfl⟩ := List.mem_map.1 hp
      exact (hg i (List.mem_range.1 hi)).2
    · by_cases h0 : len = 0
      · left; simp [h0]
      · right
        obtain ⟨b, off, spot⟩ := a
        have hc0 := (World.cells?_some (hg 0 (by omega)).1).2.2 0 (by omega)
        have hspot : spot = none := by
          have := World.cell?_spot (hc0.trans (by rfl))
          simpa [Addr.add] using this
        subst hspot
        have hcell : ∀ i (hi : i < len) j, j < 4 → w.cell? ⟨b, off + i * 4 + j, none⟩ = (encI (g i))[j]? := by
          intro i hi j hj
          have := (World.cells?_some (hg i hi).1).2.2 j (by omega)
          rw [Go.WideShapes.add_plain, Go.WideShapes.add_plain] at this
          exact this
        refine ⟨b, off, rfl, World.block_lt_of_cell? w ⟨b, off + 0 * 4 + 0, none⟩ ((hcell 0 (by omega) 0 (by omega)).trans (by rfl)), fun i hi j hj => ?_⟩
        simp at hi
        rw [hcell i hi j hj]
        simp

set_option maxRecDepth 100000 in
theorem open_Tree {r : Reach} {b0 : Nat} {v : Value} {d : DataW H} {p : List MemPlace} (hv : Value.okWide Try.prog w r b0 24 v) (h : DataW.Trod enc Try.prog w 0 (fun _ => true) held 24 v d p) :
    ∃ l : List ItD, FitTr l ∧ RdTr w v l := by
  obtain ⟨cs, rfl, hsz⟩ := okWide_struct Try.underlying24 hv
  have hC : Try.prog.cellsOf 24 = 1 := by kernel_rfl
  have hc1 : Try.prog.cellsOf 22 = 1 := by kernel_rfl
  obtain ⟨c0, rfl⟩ : ∃ c0, cs = #[c0] := by
    obtain ⟨l⟩ := cs
    have hl : l.length = 1 := hsz.trans hC
    match l, hl with
    | [c0], _ => exact ⟨c0, rfl⟩
  obtain ⟨fuel, hf⟩ := h
  obtain ⟨y0, n, _, _, h0⟩ := trod_struct1 Try.underlying24 hf
  simp only [Value.cells, hc1] at h0
  obtain ⟨a, cap, l, rfl, hc, hm, hz, hr⟩ := items_of_trod (by simpa using h0)
  exact ⟨l, ⟨hm, hz⟩, a, cap, rfl, hc, hr⟩
end
end Go.Proofs.Ytmnngfaelanbcaa
