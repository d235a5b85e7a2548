/-
  Own text: what the frame tells of a disk that came in: it can be read, and no text in it is longer than a text can be.
-/
import Derived.Test.YtlidmnehpcodkaaDiskW
import Derived.OpenShut
import Derived.ShutString
import Derived.ChangeOld
import Derived.Below
import Derived.SliceStrings
import Derived.ChangeSame
import Derived.Lib.SmallJoins
namespace Go.Proofs.Ytlidmnehpcodkaa
open Go.ChangeShapes Go.WideShapes Go.ChangeAt Go.RowKit

theorem len_of_sz {d : DiskD} (h : szD d ≤ 1048576) : d.1.length ≤ 4194304 ∧ d.2.length ≤ 4194304 := by
  have h1 := szT_len d.1
  have h2 := szP_len d.2
  unfold szD at h
  omega

section
variable {H : Type} {enc : TypeId × Value → H} {w : World} {spare : Nat → Bool} {held : Bool}

set_option maxRecDepth 20000 in
theorem put_of_trod {fuel : Nat} {cs : List Value} {x : DataW H × List MemPlace} (h : DataW.trod enc Try.prog w 0 spare held fuel 56 cs = some x) :
    ∃ p : PutD, cs = encP p ∧ p.2.size ≤ maxLen ∧ (Lit.int .i64 p.1).wf = true := by
  obtain ⟨y0, y1, n, _, hl, h0, h1⟩ := trod_struct2 Try.underlying56 h
  have hc : Try.prog.cellsOf 56 = 2 := by kernel_rfl
  have hc0 : Try.prog.cellsOf 3 = 1 := by kernel_rfl
  have hc1 : Try.prog.cellsOf 9 = 1 := by kernel_rfl
  rw [hc] at hl
  match cs, hl with
  | [c0, c1], _ =>
    simp only [hc0, hc1, List.drop_zero, List.take_succ_cons, List.take_zero, List.drop_succ_cons] at h0 h1
    obtain ⟨m, e0, _, hw⟩ := DataW.trod_int Try.underlying3 h0
    obtain ⟨s, e1, _, hs⟩ := DataW.trod_string Try.underlying9 h1
    simp at e0 e1
    subst e0
    subst e1
    exact ⟨(m, s), rfl, hs, hw⟩

theorem puts_of_trod {fuel : Nat} {v : Value} {x : DataW H × List MemPlace} (h : DataW.trod enc Try.prog w 0 spare held fuel 22 [v] = some x) :
    ∃ (a : Option Addr) (cap : Nat) (l : List PutD), v = .slice a l.length cap ∧ l.length ≤ maxLen ∧ (∀ p ∈ l, p.2.size ≤ maxLen ∧ (Lit.int .i64 p.1).wf = true) ∧ RdF encP 2 w a l := by
  have hc : Try.prog.cellsOf 56 = 2 := by kernel_rfl
  rcases DataW.trod_slice Try.underlying22 h with ⟨hv, _⟩ | ⟨a, len, cap, elems, rest, n, _, hv, _, _, hl, hm, hlen, hel, _, _⟩
  · simp at hv
    exact ⟨none, 0, [], hv, Nat.zero_le _, by simp, .inl rfl⟩
  · simp at hv
    rw [hc] at hel
    have each : ∀ i, i < len → ∃ p : PutD, w.cells? 0 (a.add (i * 2)) 2 = some (encP p) ∧ p.2.size ≤ maxLen ∧ (Lit.int .i64 p.1).wf = true := by
      intro i hi
      have h1 := hel i hi
      rw [List.getElem?_eq_getElem (by omega)] at h1
      obtain ⟨cs, hcs, ht⟩ := Option.bind_eq_some_iff.1 h1
      obtain ⟨p, rfl, h2⟩ := put_of_trod ht
      exact ⟨p, hcs, h2⟩
    let g : Nat → PutD := fun i => if hi : i < len then Classical.choose (each i hi) else (0, ⟨#[]⟩)
    have hg : ∀ i (hi : i < len), w.cells? 0 (a.add (i * 2)) 2 = some (encP (g i)) ∧ (g i).2.size ≤ maxLen ∧ (Lit.int .i64 (g i).1).wf = true := by
      intro i hi
      have := Classical.choose_spec (each i hi)
      simp only [g, hi, dif_pos]
      exact this
    refine ⟨some a, cap, (List.range len).map g, by simp [hv], by simp; omega, ?_, ?_⟩
    · intro p hp
      obtain ⟨i, hi, rfl⟩ := List.mem_map.1 hp
      exact (hg i (List.mem_range.1 hi)).2
    · by_cases h0 : len = 0
      · left; simp [h0]
      · right
        obtain ⟨b, off, spot⟩ := a
        have hc0 := (World.cells?_some (hg 0 (by omega)).1).2.2 0 (by omega)
        have hspot : spot = none := by
          have := World.cell?_spot (hc0.trans (by rfl))
          simpa [Addr.add] using this
        subst hspot
        have hcell : ∀ i (hi : i < len) j, j < 2 → w.cell? ⟨b, off + i * 2 + j, none⟩ = (encP (g i))[j]? := by
          intro i hi j hj
          have := (World.cells?_some (hg i hi).1).2.2 j (by omega)
          rw [Go.WideShapes.add_plain, Go.WideShapes.add_plain] at this
          exact this
        refine ⟨b, off, rfl, World.block_lt_of_cell? w ⟨b, off + 0 * 2 + 0, none⟩ ((hcell 0 (by omega) 0 (by omega)).trans (by rfl)), fun i hi j hj => ?_⟩
        simp at hi
        rw [hcell i hi j hj]
        simp

set_option maxRecDepth 20000 in
theorem open_Disk {r : Reach} {b0 : Nat} {v : Value} {d : DataW H} {p : List MemPlace} (hv : Value.okWide Try.prog w r b0 38 v) (h : DataW.Trod enc Try.prog w 0 (fun _ => true) held 38 v d p) :
    ∃ D : DiskD, FitD D ∧ RdD w v D := by
  obtain ⟨v0, v1, y0, y1, n, rfl, _, _, h0, h1⟩ := Go.Joins.open_agg2 Try.underlying38 (by kernel_rfl) (by kernel_rfl) hv h
  obtain ⟨b, cb, lp, rfl, hlp, hfp, hrp⟩ := puts_of_trod h1
  have hS : ∃ (a : Option Addr) (ca : Nat) (ls : List ByteArray), v0 = .slice a ls.length ca ∧ ls.length ≤ maxLen ∧ (∀ s ∈ ls, s.size ≤ maxLen) ∧ RdS w a ls := by
    rcases open_strings Try.underlying36 Try.underlying9 (by kernel_rfl) h0 with ⟨hcs, _⟩ | ⟨x, l, c, zs, hcs, _, hl, hm, hz, _, hcell, hwz⟩
    · simp at hcs
      exact ⟨none, 0, [], hcs, Nat.zero_le _, by simp, .inl rfl⟩
    · simp at hcs
      simp at hz
      refine ⟨some x, c, zs.take l, by rw [hcs]; simp; omega, by simp; omega, fun s hs => hwz s (List.mem_of_mem_take hs), ?_⟩
      by_cases h0 : l = 0
      · left; simp [h0]
      · right
        obtain ⟨b, off, spot⟩ := x
        have hc0 := hcell 0 (by omega)
        have hspot : spot = none := by simpa [Addr.add] using World.cell?_spot hc0
        subst hspot
        refine ⟨b, off, rfl, World.block_lt_of_cell? w _ hc0, fun i hi => ?_⟩
        simp at hi
        have := hcell i (by omega)
        rw [Go.WideShapes.add_plain] at this
        rw [this]
        simp [List.getD, show i < zs.length by omega]
  obtain ⟨a, ca, ls, rfl, hls, hfs, hrs⟩ := hS
  exact ⟨(ls, lp), ⟨hls, hlp, hfs, fun p hp => (hfp p hp).1⟩, ⟨a, ca, b, cb, rfl, hrs, hrp⟩⟩
end
end Go.Proofs.Ytlidmnehpcodkaa
