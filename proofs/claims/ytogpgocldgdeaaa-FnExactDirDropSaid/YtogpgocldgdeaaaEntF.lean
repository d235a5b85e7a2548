/-
  Own text: what the frame tells of a row of entries that came in; rows of entries as answers.
-/
import Derived.Test.YtogpgocldgdeaaaEntW
import Derived.OpenShut
import Derived.ShutString
import Derived.ChangeOld
import Derived.Below
import Derived.SliceStrings
import Derived.ChangeSame
import Derived.Lib.SmallJoins
namespace Go.Proofs.Ytogpgocldgdeaaa
open Go.ChangeShapes Go.WideShapes Go.ChangeAt Go.RowKit

def FitEn (l : List EntD) : Prop := l.length ≤ maxLen ∧ ∀ p ∈ l, p.1.size ≤ maxLen
theorem szEn_len (l : List EntD) : l.length ≤ szEn l := by
  induction l with
  | nil => simp [szEn]
  | cons x l ih => simp only [szEn, List.map_cons, List.sum_cons, List.length_cons] at ih ⊢; omega
theorem szEn_mem {l : List EntD} {n : EntD} (h : n ∈ l) : n.1.size ≤ szEn l := by
  induction l with
  | nil => cases h
  | cons x l ih =>
    simp only [szEn, List.map_cons, List.sum_cons] at ih ⊢
    rcases List.mem_cons.1 h with rfl | h
    · omega
    · have := ih h; omega
def RdEn (w : World) (v : Value) (l : List EntD) : Prop := ∃ a c, v = .slice a l.length c ∧ l.length ≤ c ∧ RdF encN 2 w a l
def OwnEn (w : World) (lo hi : Nat) (v : Value) (l : List EntD) : Prop := w.ownsRow lo 41 2 v l.length (l.flatMap encN) ∧ ∀ j, blk v j → j < hi
theorem OwnEn.rd {w : World} {lo hi : Nat} {v : Value} {l : List EntD} (h : OwnEn w lo hi v l) : RdEn w v l := by
  obtain ⟨a, c, rfl, hc, hr⟩ := own_rdF encN_len h.1 rfl
  exact ⟨a, c, rfl, hc, hr⟩
theorem OwnEn.below {w w' : World} {lo hi : Nat} {v : Value} {l : List EntD} (h : OwnEn w lo hi v l) (hb : Below w.heap.size w w') : OwnEn w' lo hi v l := ⟨ownsRow_below h.1 hb (Nat.le_refl _), h.2⟩
theorem OwnEn.only {S : Nat → Prop} {w w' : World} {lo hi : Nat} {v : Value} {l : List EntD} (h : OwnEn w lo hi v l) (ho : Only S w w') (hs : ∀ k, lo ≤ k → k < hi → ¬ S k) : OwnEn w' lo hi v l := ⟨own_only h.1 ho (fun k hk => hs k (h.1.lt k hk).1 (h.2 k hk)), h.2⟩
theorem OwnEn.of {w : World} {lo : Nat} {v : Value} {l : List EntD} (h : w.ownsRow lo 41 2 v l.length (l.flatMap encN)) : OwnEn w lo w.heap.size v l := ⟨h, fun j hj => (h.lt j hj).2⟩
theorem RdEn.below {w w' : World} {v : Value} {l : List EntD} (h : RdEn w v l) (hb : Below w.heap.size w w') : RdEn w' v l := by
  obtain ⟨a, c, rfl, hc, hr⟩ := h
  exact ⟨a, c, rfl, hc, hr.below hb (Nat.le_refl _)⟩
theorem eqEnX (v u : Value) (l : List EntD) (w : World) (hl : l.length ≤ 4194304) (hr : RdEn w v l) (hs : RdEn w u l) : Calls Try.prog 12 #[v, u] w fun e w' => e = .returned (.bool true) ∧ Below w.heap.size w w' := by
  obtain ⟨a, c, rfl, _, hr⟩ := hr
  obtain ⟨a', c', rfl, _, hs⟩ := hs
  exact eqEnts _ _ _ _ l w hl hr hs
theorem toEnX (v : Value) (l : List EntD) (w : World) (hl : szEn l ≤ 1048576) (hr : RdEn w v l) : Calls Try.prog 10 #[v] w fun e w' => ∃ v', e = .returned v' ∧ OwnEn w' w.heap.size w'.heap.size v' l ∧ Below w.heap.size w w' := by
  obtain ⟨a, c, rfl, _, hr⟩ := hr
  refine (toEnts a c l w (Nat.le_trans (szEn_len l) hl) hr).mono ?_
  rintro e w' ⟨v', rfl, h1, h2⟩
  exact ⟨v', rfl, OwnEn.of h1, h2⟩
theorem szEnX (l : List EntD) (left : Int) (v : Value) (w : World) (h0 : 0 ≤ left) (h1 : left ≤ 1048576) (hf : FitEn l) (hr : RdEn w v l) : Calls Try.prog 8 #[v, .int .i64 left] w fun e w' => ∃ r : Int, e = .returned (.int .i64 r) ∧ (0 ≤ r → r + szEn l = left) ∧ -1 ≤ r ∧ r ≤ 1048576 ∧ Below w.heap.size w w' := by
  obtain ⟨a, c, rfl, _, hr⟩ := hr
  exact szEnts a c l left w h0 h1 hf.1 hf.2 hr
theorem markEnX (v : Value) (lo hi k : Nat) (l : List EntD) (w : World) (hl : l.length ≤ 4194304) (hk : k ≤ 67108864) (_ : hi ≤ w.heap.size) (ho : OwnEn w lo hi v l) : Calls Try.prog 19 #[v, .int .i64 k] w fun e w' => e = .returned (.int .i64 ((k + 2 * l.length : Nat) : Int)) ∧ OwnEn w' lo hi v (marksEn k l.length) ∧ Only (fun j => lo ≤ j ∧ j < hi) w w' := by
  refine (markEnts v l.length k lo l w (by omega) (by omega) rfl ho.1).mono ?_
  rintro e w' ⟨rfl, h1, h2⟩
  refine ⟨rfl, ⟨by rw [marksEn_len]; exact h1, ho.2⟩, h2.mono fun j _ hj => ⟨(ho.1.lt j hj).1, ho.2 j hj⟩⟩
theorem heldEnX (v : Value) (lo hi k : Nat) (l : List EntD) (w : World) (hl : l.length ≤ 4194304) (hk : k ≤ 67108864) (ho : OwnEn w lo hi v (marksEn k l.length)) : Calls Try.prog 20 #[v, .int .i64 k] w fun e w' => e = .returned (.int .i64 ((k + 2 * l.length : Nat) : Int)) ∧ Below w.heap.size w w' := by
  obtain ⟨a, c, rfl, _, hr⟩ := ho.rd
  rw [marksEn_len]
  exact heldEnts a c l.length k w (by omega) (by omega) hr

section
variable {H : Type} {enc : TypeId × Value → H} {w : World} {spare : Nat → Bool} {held : Bool}

set_option maxRecDepth 20000 in
theorem ent_of_trod {fuel : Nat} {cs : List Value} {x : DataW H × List MemPlace} (h : DataW.trod enc Try.prog w 0 spare held fuel 39 cs = some x) :
    ∃ p : EntD, cs = encN p ∧ p.1.size ≤ maxLen ∧ (Lit.int .i64 p.2).wf = true := by
  obtain ⟨y0, y1, n, _, hl, h0, h1⟩ := trod_struct2 Try.underlying39 h
  have hc : Try.prog.cellsOf 39 = 2 := by kernel_rfl
  have hc0 : Try.prog.cellsOf 9 = 1 := by kernel_rfl
  have hc1 : Try.prog.cellsOf 3 = 1 := by kernel_rfl
  rw [hc] at hl
  match cs, hl with
  | [c0, c1], _ =>
    simp only [hc0, hc1, List.drop_zero, List.take_succ_cons, List.take_zero, List.drop_succ_cons] at h0 h1
    obtain ⟨s, e0, _, hs⟩ := DataW.trod_string Try.underlying9 h0
    obtain ⟨m, e1, _, hw⟩ := DataW.trod_int Try.underlying3 h1
    simp at e0 e1
    subst e0
    subst e1
    exact ⟨(s, m), rfl, hs, hw⟩

theorem ents_of_trod {fuel : Nat} {v : Value} {x : DataW H × List MemPlace} (h : DataW.trod enc Try.prog w 0 spare held fuel 22 [v] = some x) :
    ∃ (a : Option Addr) (cap : Nat) (l : List EntD), v = .slice a l.length cap ∧ l.length ≤ cap ∧ l.length ≤ maxLen ∧ (∀ p ∈ l, p.1.size ≤ maxLen ∧ (Lit.int .i64 p.2).wf = true) ∧ RdF encN 2 w a l := by
  have hc : Try.prog.cellsOf 39 = 2 := by kernel_rfl
  rcases DataW.trod_slice Try.underlying22 h with ⟨hv, _⟩ | ⟨a, len, cap, elems, rest, n, _, hv, _, _, hl, hm, hlen, hel, _, _⟩
  · simp at hv
    exact ⟨none, 0, [], hv, Nat.zero_le _, Nat.zero_le _, by simp, .inl rfl⟩
  · simp at hv
    rw [hc] at hel
    have each : ∀ i, i < len → ∃ p : EntD, w.cells? 0 (a.add (i * 2)) 2 = some (encN p) ∧ p.1.size ≤ maxLen ∧ (Lit.int .i64 p.2).wf = true := by
      intro i hi
      have h1 := hel i hi
      rw [List.getElem?_eq_getElem (by omega)] at h1
      obtain ⟨cs, hcs, ht⟩ := Option.bind_eq_some_iff.1 h1
      obtain ⟨p, rfl, h2⟩ := ent_of_trod ht
      exact ⟨p, hcs, h2⟩
    let g : Nat → EntD := fun i => if hi : i < len then Classical.choose (each i hi) else (⟨#[]⟩, 0)
    have hg : ∀ i (hi : i < len), w.cells? 0 (a.add (i * 2)) 2 = some (encN (g i)) ∧ (g i).1.size ≤ maxLen ∧ (Lit.int .i64 (g i).2).wf = true := by
      intro i hi
      have := Classical.choose_spec (each i hi)
      simp only [g, hi, dif_pos]
      exact this
    refine ⟨some a, cap, (List.range len).map g, by simp [hv], by simp; omega, by simp; omega, ?_, ?_⟩
    · intro p hp
      obtain ⟨i, hi, rfl⟩ := List.mem_map.1 hp
      exact (hg i (List.mem_range.1 hi)).2
    · by_cases h0 : len = 0
      · left; simp [h0]
      · right
        obtain ⟨b, off, spot⟩ := a
        have hc0 := (World.cells?_some (hg 0 (by omega)).1).2.2 0 (by omega)
        have hspot : spot = none := by
          have := World.cell?_spot (hc0.trans (by rfl))
          simpa [Addr.add] using this
        subst hspot
        have hcell : ∀ i (hi : i < len) j, j < 2 → w.cell? ⟨b, off + i * 2 + j, none⟩ = (encN (g i))[j]? := by
          intro i hi j hj
          have := (World.cells?_some (hg i hi).1).2.2 j (by omega)
          rw [Go.WideShapes.add_plain, Go.WideShapes.add_plain] at this
          exact this
        refine ⟨b, off, rfl, World.block_lt_of_cell? w ⟨b, off + 0 * 2 + 0, none⟩ ((hcell 0 (by omega) 0 (by omega)).trans (by rfl)), fun i hi j hj => ?_⟩
        simp at hi
        rw [hcell i hi j hj]
        simp


set_option maxRecDepth 100000 in
theorem open_Entries {r : Reach} {b0 : Nat} {v : Value} {d : DataW H} {p : List MemPlace} (hv : Value.okWide Try.prog w r b0 22 v) (h : DataW.Trod enc Try.prog w 0 (fun _ => true) held 22 v d p) :
    ∃ (a : Option Addr) (cap : Nat) (l : List EntD), v = .slice a l.length cap ∧ FitEn l ∧ l.length ≤ cap ∧ RdF encN 2 w a l := by
  obtain ⟨a0, len0, cap0, rfl⟩ := okWide_slice Try.underlying22 hv
  obtain ⟨fuel, hf⟩ := h
  obtain ⟨a, cap, l, h1, hc, h2, h3, h4⟩ := ents_of_trod hf
  exact ⟨a, cap, l, h1, ⟨h2, fun p hp => (h3 p hp).1⟩, hc, h4⟩
end
end Go.Proofs.Ytogpgocldgdeaaa
