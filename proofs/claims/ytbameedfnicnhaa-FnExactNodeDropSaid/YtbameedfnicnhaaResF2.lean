/-
  Own text: an answer of a branch, a number and a flag; the first free node.
-/
import Derived.Test.YtbameedfnicnhaaCpF
import Derived.Test.YtbameedfnicnhaaIdxW
namespace Go.Proofs.Ytbameedfnicnhaa
open Go.RowKit

theorem res_fs2 {P : Program} {fn : Func} {p u u' : Tmp} {ty : TypeId} (h : fn.results = #[.cell p ty, .tmp u, .tmp u']) (tmps : Array Value) (w : World) (g : Nat) (t : TypeId) (cs : Array Value) (d : TypeDesc)
    (hp : tmps.getD p undef = .pointer (some ⟨g, 0, none⟩)) (hg : Var w g cs t)
    (hu : P.underlying ty = some d) (hd : (match d with | .struct _ | .array _ _ => true | _ => false) = true) (hi : (P.info? ty).map (·.size) = some cs.size) :
    (results fn tmps).run P w = .ok (.tuple #[.agg cs, tmps.getD u undef, tmps.getD u' undef]) w := by
  have key : (results fn tmps).run P w = ((asAddr (tmps.getD p undef)).run P w).andThen fun a w₁ => ((loadVar ty a).run P w₁).andThen fun v w₂ => .ok (.tuple #[v, tmps.getD u undef, tmps.getD u' undef]) w₂ := by
    simp only [results, h]
    simp [Sem.run_bind, Result.andThen]
  rw [key, hp]
  simp [asAddr, run_loadVar_row w g t ty cs (0, 0) d hg hu hd hi]

theorem idx_at {ns : List NodeD} {k : Nat} (hk : k < ns.length) (h0 : (ns[k]).k = 0) (h : ∀ j (hj : j < ns.length), j < k → (ns[j]).k ≠ 0) : ns.findIdx (·.k == 0) = k := by
  rw [List.findIdx_eq hk]
  refine ⟨by simp [h0], fun j hj => ?_⟩
  simpa using h j (by omega) hj
theorem idx_none {ns : List NodeD} (h : ∀ j (hj : j < ns.length), (ns[j]).k ≠ 0) : ¬ ns.findIdx (·.k == 0) < ns.length := by
  intro hlt
  have := List.findIdx_getElem (p := fun x : NodeD => x.k == 0) (xs := ns) (w := hlt)
  exact h _ hlt (by simpa using this)
/-- What is made where the first free node stands at k. -/
theorem made_at {F : FsD} {kind : Int} {k : Nat} (hS : ShapeP F) (hki : 1 ≤ kind ∧ kind ≤ 3) (hk : k < F.ns.length) (h0 : (F.ns[k]).k = 0) (h : ∀ j (hj : j < F.ns.length), j < k → (F.ns[j]).k ≠ 0) :
    mdOk F kind = true ∧ mdI F kind = (k : Int) ∧ mdD F kind = ⟨F.ns.set k ⟨kind, 0, 0, 0, []⟩, F.ds⟩ ∧ F.ns[k] = zeroN := by
  have e := idx_at hk h0 h
  have hok : mdOk F kind = true := mdOk_yes ⟨hS, hki, by rw [e]; exact hk⟩
  refine ⟨hok, ?_, ?_, (hS.2.2.1 _ (List.getElem_mem hk)).kind.2.2 h0⟩
  · unfold mdI; rw [hok, if_pos rfl, e]
  · unfold mdD; rw [hok, if_pos rfl, e]
theorem made_not {F : FsD} {kind : Int} (h : ¬ MdP F kind) : mdOk F kind = false ∧ mdI F kind = -1 ∧ mdD F kind = F := by
  have hok := mdOk_no h
  refine ⟨hok, ?_, ?_⟩
  · unfold mdI; rw [hok]; rfl
  · unfold mdD; rw [hok]; rfl
theorem and_noK {x lo hi : Int} (h : ¬ (lo ≤ x ∧ x ≤ hi)) : (decide (lo ≤ x) && decide (x ≤ hi)) = false := by
  rw [Bool.and_eq_false_iff]
  by_cases h1 : lo ≤ x
  · right; exact decide_eq_false fun h2 => h ⟨h1, h2⟩
  · left; exact decide_eq_false h1
end Go.Proofs.Ytbameedfnicnhaa
