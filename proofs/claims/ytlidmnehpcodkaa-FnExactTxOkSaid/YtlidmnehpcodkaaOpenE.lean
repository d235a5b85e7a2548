/-
  Own text: what the frame tells of a row of writes, of a row of events that came in.
-/
import Derived.Test.YtlidmnehpcodkaaBunA
import Derived.Test.YtlidmnehpcodkaaEvBase
import Derived.Deep.Strs
namespace Go.Proofs.Ytlidmnehpcodkaa
open Go.ChangeShapes Go.WideShapes Go.ChangeAt Go.RowKit

def FitP (l : List PutD) : Prop := l.length ≤ maxLen ∧ ∀ p ∈ l, p.2.size ≤ maxLen
def FitE (l : List EvD) : Prop := l.length ≤ maxLen ∧ ∀ p ∈ l, p.2.2.size ≤ maxLen
section
variable {H : Type} {enc : TypeId × Value → H} {w : World} {spare : Nat → Bool} {held : Bool}

set_option maxRecDepth 100000 in
theorem open_Puts {r : Reach} {b0 : Nat} {v : Value} {d : DataW H} {p : List MemPlace} (hv : Value.okWide Try.prog w r b0 22 v) (h : DataW.Trod enc Try.prog w 0 (fun _ => true) held 22 v d p) :
    ∃ (a : Option Addr) (cap : Nat) (l : List PutD), v = .slice a l.length cap ∧ FitP l ∧ RdF encP 2 w a l := by
  obtain ⟨a0, len0, cap0, rfl⟩ := okWide_slice Try.underlying22 hv
  obtain ⟨fuel, hf⟩ := h
  obtain ⟨a, cap, l, h1, h2, h3, h4⟩ := puts_of_trod hf
  exact ⟨a, cap, l, h1, ⟨h2, fun p hp => (h3 p hp).1⟩, h4⟩

set_option maxRecDepth 20000 in
theorem ev_of_trod {fuel : Nat} {cs : List Value} {x : DataW H × List MemPlace} (h : DataW.trod enc Try.prog w 0 spare held fuel 76 cs = some x) :
    ∃ p : EvD, cs = encE p ∧ p.2.2.size ≤ maxLen ∧ (Lit.int .i64 p.1).wf = true := by
  obtain ⟨y0, y1, y2, n, _, hl, h0, h1, h2⟩ := Go.Deep.trod_struct3 Try.underlying76 h
  have hc : Try.prog.cellsOf 76 = 3 := by kernel_rfl
  have hc0 : Try.prog.cellsOf 3 = 1 := by kernel_rfl
  have hc1 : Try.prog.cellsOf 9 = 1 := by kernel_rfl
  rw [hc] at hl
  match cs, hl with
  | [c0, c1, c2], _ =>
    simp only [hc0, hc1, List.drop_zero, List.take_succ_cons, List.take_zero, List.drop_succ_cons] at h0 h1 h2
    obtain ⟨m, e0, _, hw⟩ := DataW.trod_int Try.underlying3 h0
    obtain ⟨m1, e1, _, hw1⟩ := DataW.trod_int Try.underlying3 h1
    obtain ⟨s, e2, _, hs⟩ := DataW.trod_string Try.underlying9 h2
    simp at e0 e1 e2
    subst e0
    subst e1
    subst e2
    exact ⟨(m, m1, s), rfl, hs, hw⟩

theorem evs_of_trod {fuel : Nat} {v : Value} {x : DataW H × List MemPlace} (h : DataW.trod enc Try.prog w 0 spare held fuel 39 [v] = some x) :
    ∃ (a : Option Addr) (cap : Nat) (l : List EvD), v = .slice a l.length cap ∧ l.length ≤ maxLen ∧ (∀ p ∈ l, p.2.2.size ≤ maxLen ∧ (Lit.int .i64 p.1).wf = true) ∧ RdF encE 3 w a l := by
  have hc : Try.prog.cellsOf 76 = 3 := by kernel_rfl
  rcases DataW.trod_slice Try.underlying39 h with ⟨hv, _⟩ | ⟨a, len, cap, elems, rest, n, _, hv, _, _, hl, hm, hlen, hel, _, _⟩
  · simp at hv
    exact ⟨none, 0, [], hv, Nat.zero_le _, by simp, .inl rfl⟩
  · simp at hv
    rw [hc] at hel
    have each : ∀ i, i < len → ∃ p : EvD, w.cells? 0 (a.add (i * 3)) 3 = some (encE p) ∧ p.2.2.size ≤ maxLen ∧ (Lit.int .i64 p.1).wf = true := by
      intro i hi
      have h1 := hel i hi
      rw [List.getElem?_eq_getElem (by omega)] at h1
      obtain ⟨cs, hcs, ht⟩ := Option.bind_eq_some_iff.1 h1
      obtain ⟨p, rfl, h2⟩ := ev_of_trod ht
      exact ⟨p, hcs, h2⟩
    let g : Nat → EvD := fun i => if hi : i < len then Classical.choose (each i hi) else (0, 0, ⟨#[]⟩)
    have hg : ∀ i (hi : i < len), w.cells? 0 (a.add (i * 3)) 3 = some (encE (g i)) ∧ (g i).2.2.size ≤ maxLen ∧ (Lit.int .i64 (g i).1).wf = true := by
      intro i hi
      have := Classical.choose_spec (each i hi)
      simp only [g, hi, dif_pos]
      exact this
    refine ⟨some a, cap, (List.range len).map g, by simp [hv], by simp; omega, ?_, ?_⟩
    · intro p hp
      obtain ⟨i, hi, rfl⟩ := List.mem_map.1 hp
      exact (hg i (List.mem_range.1 hi)).2
    · by_cases h0 : len = 0
      · left; simp [h0]
      · right
        obtain ⟨b, off, spot⟩ := a
        have hc0 := (World.cells?_some (hg 0 (by omega)).1).2.2 0 (by omega)
        have hspot : spot = none := by
          have := World.cell?_spot (hc0.trans (by rfl))
          simpa [Addr.add] using this
        subst hspot
        have hcell : ∀ i (hi : i < len) j, j < 3 → w.cell? ⟨b, off + i * 3 + j, none⟩ = (encE (g i))[j]? := by
          intro i hi j hj
          have := (World.cells?_some (hg i hi).1).2.2 j (by omega)
          rw [Go.WideShapes.add_plain, Go.WideShapes.add_plain] at this
          exact this
        refine ⟨b, off, rfl, World.block_lt_of_cell? w ⟨b, off + 0 * 3 + 0, none⟩ ((hcell 0 (by omega) 0 (by omega)).trans (by rfl)), fun i hi j hj => ?_⟩
        simp at hi
        rw [hcell i hi j hj]
        simp

set_option maxRecDepth 100000 in
theorem open_Events {r : Reach} {b0 : Nat} {v : Value} {d : DataW H} {p : List MemPlace} (hv : Value.okWide Try.prog w r b0 39 v) (h : DataW.Trod enc Try.prog w 0 (fun _ => true) held 39 v d p) :
    ∃ (a : Option Addr) (cap : Nat) (l : List EvD), v = .slice a l.length cap ∧ FitE l ∧ RdF encE 3 w a l := by
  obtain ⟨a0, len0, cap0, rfl⟩ := okWide_slice Try.underlying39 hv
  obtain ⟨fuel, hf⟩ := h
  obtain ⟨a, cap, l, h1, h2, h3, h4⟩ := evs_of_trod hf
  exact ⟨a, cap, l, h1, ⟨h2, fun p hp => (h3 p hp).1⟩, h4⟩
end
end Go.Proofs.Ytlidmnehpcodkaa
