/-
  Own text: the laws' helpers over rows of yes and no: a copy, alike, marked; what the frame tells of such a row that came in.
-/
import Derived.Test.YtlidmnehpcodkaaDoorBunS
import Derived.Deep.Grids
namespace Go.Proofs.YtlidmnehpcodkaaDoor
open Go.RowKit

theorem Tryd.infoBool : (Tryd.prog.info? 4).map (fun i => (i.zero, i.size, i.bytes)) = some (some (.bool false), 1, 1) := by kernel_rfl
theorem RdF.cellB {w : World} {a : Option Addr} {l : List Bool} (h : RdF encB 1 w a l) (k : Nat) (hk : k < l.length) : ∃ x off, a = some ⟨x, off, none⟩ ∧ x < w.heap.size ∧ w.cell? ⟨x, off + k, none⟩ = some (.bool l[k]) := by
  obtain ⟨x, off, h1, h2, h3⟩ := h.at k hk
  have := h3 0 (by omega)
  rw [Nat.mul_one, Nat.add_zero] at this
  exact ⟨x, off, h1, h2, this⟩
theorem flatB (l : List Bool) : l.flatMap encB = l.map Value.bool := by
  induction l with
  | nil => rfl
  | cons b l ih => rw [List.flatMap_cons, ih]; rfl

theorem rdB {w : World} {base : Nat} {a : Option Addr} {cap : Nat} {l : List Bool} (h : w.ownsRow base 4 1 (.slice a l.length cap) l.length (l.flatMap encB)) : RdF encB 1 w a l := by
  obtain ⟨a', c', e, _, hr⟩ := own_rdF encB_len h rfl
  cases e
  exact hr
theorem OwnD.notRow {w : World} {lo lo' : Nat} {v u : Value} {d : DiskD} {e : TypeId} {size n : Nat} {xs : List Value} (h : OwnD w lo v d) (hr : w.ownsRow lo' e size u n xs) (h1 : 9 ≠ e) (h2 : 39 ≠ e) : ∀ j, blkD v j → ¬ u.ownBlock = some j := by
  obtain ⟨v1, v2, rfl, o1, o2⟩ := h
  rintro j ⟨x, y, e', hk⟩ hu
  cases e'
  rcases hk with hk | hk
  · exact own_apart o1 hr h1 j hk hu
  · exact own_apart o2 hr h2 j hk hu
theorem cnt_le {d : DiskD} (h : szD d ≤ 1048576) : 1 + cntD d ≤ 2147483648 := by
  have h1 := szT_len d.1
  have h2 := szP_len d.2
  unfold szD at h
  unfold cntD
  omega

section
open Go.ChangeShapes Go.WideShapes Go.ChangeAt
variable {H : Type} {enc : TypeId × Value → H} {w : World} {held : Bool}
set_option maxRecDepth 100000 in
theorem open_Bools {r : Reach} {b0 : Nat} {v : Value} {d : DataW H} {p : List MemPlace} (hv : Value.okWide Tryd.prog w r b0 32 v) (h : DataW.Trod enc Tryd.prog w 0 (fun _ => true) held 32 v d p) :
    ∃ (a : Option Addr) (cap : Nat) (l : List Bool), v = .slice a l.length cap ∧ l.length ≤ maxLen ∧ RdF encB 1 w a l := by
  obtain ⟨a0, len0, cap0, rfl⟩ := okWide_slice Tryd.underlying32 hv
  obtain ⟨fuel, hf⟩ := h
  rcases Go.Deep.open_bools Tryd.underlying32 Tryd.underlying4 (by kernel_rfl) hf with ⟨hcs, _⟩ | ⟨x, l, c, B, hcs, _, hl, hm, _, hcell⟩
  · simp [Value.cells] at hcs
    obtain ⟨rfl, rfl, rfl⟩ := hcs
    exact ⟨none, 0, [], rfl, Nat.zero_le _, .inl rfl⟩
  · simp [Value.cells] at hcs
    obtain ⟨rfl, rfl, rfl⟩ := hcs
    refine ⟨some x, cap0, (List.range len0).map B, by simp, by simp; omega, ?_⟩
    by_cases h0 : len0 = 0
    · left; simp [h0]
    · right
      obtain ⟨b, off, spot⟩ := x
      have hc0 := hcell 0 (by omega)
      have hspot : spot = none := by simpa [Addr.add] using World.cell?_spot hc0
      subst hspot
      refine ⟨b, off, rfl, World.block_lt_of_cell? w _ hc0, fun i hi j hj => ?_⟩
      simp at hi
      obtain rfl : j = 0 := by omega
      have := hcell i (by omega)
      rw [Go.WideShapes.add_plain] at this
      rw [Nat.mul_one, Nat.add_zero, this]
      simp [encB]
end
end Go.Proofs.YtlidmnehpcodkaaDoor
