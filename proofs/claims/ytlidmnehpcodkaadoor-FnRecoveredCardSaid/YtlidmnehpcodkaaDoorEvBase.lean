/-
  Own text: rows of events; one event, as the other program makes it.
-/
import Derived.Test.YtlidmnehpcodkaaDoorBunJ
import Derived.Test.YtlidmnehpcodkaaDoorBunS
namespace Go.Proofs.YtlidmnehpcodkaaDoor
open Go.RowKit

def encE (e : EvD) : List Value := [.int .i64 e.1, .int .i64 e.2.1, .string e.2.2]
theorem encE_len (e : EvD) : (encE e).length = 3 := rfl
theorem Tryd.infoEv : (Tryd.prog.info? 85).map (fun i => (i.zero, i.size, i.bytes)) = some (some (.agg #[.int .i64 0, .int .i64 0, .string ⟨#[]⟩]), 3, 32) := by kernel_rfl
theorem Tryd.sizeEv : (Tryd.prog.info? 85).map (·.size) = some 3 := by kernel_rfl
theorem encE_one {l : List EvD} : ∀ u ∈ l.flatMap encE, u.oneCell' = true := by
  intro u hu
  obtain ⟨y, _, hy⟩ := List.mem_flatMap.1 hu
  simp [encE] at hy
  rcases hy with rfl | rfl | rfl <;> rfl
/-- Events that lie in a block by themselves, as a source. -/
theorem src_evs {W : World} {P : Nat} {C : Array Value} {t : TypeId} (l : List EvD) (h : Var W P C t) (hC : C.toList = l.flatMap encE) : Src Tryd.prog 3 40 (.slice (some ⟨P, 0, none⟩) l.length l.length) l.length (l.flatMap encE) W := by
  refine Src.ofSlice W Tryd.underlying40 ⟨P, 0, none⟩ l.length l.length _ (flat_len_c encE_len l) ?_ encE_one
  intro j u hj
  rw [Go.WideShapes.add_plain, Nat.zero_add, h.cell j, ← Array.getElem?_toList, hC]
  exact hj

set_option maxRecDepth 20000 in
theorem specEvent (n : Int) (s : ByteArray) (w : World) :
    Calls Tryd.prog 58 #[.int .i64 n, .string s] w fun e w' => e = .returned (.agg #[.int .i64 0, .int .i64 n, .string s]) ∧ Below w.heap.size w w' := by
  have hV : Var (w.alloc (.cells #[.int .i64 0, .int .i64 n, .string s] 85)) w.heap.size #[.int .i64 0, .int .i64 n, .string s] 85 := Var.made w _ _
  go_enter Tryd.func58, Tryd.ntmps58
  go_wp2
  refine bodyPost_ret (results_cell_row rfl _ _ w.heap.size 85 #[.int .i64 0, .int .i64 n, .string s] (0, 0) _ rfl hV Tryd.underlying85 rfl Tryd.sizeEv) rfl ?_
  exact ⟨rfl, below1 _ _⟩

/-! ### A commit's events, part by part -/
def evA (l : List PutD) (k : Nat) : List EvD := (List.range k).map fun i => ((0 : Int), ((1 + i : Nat) : Int), (l.getD i (0, ⟨#[]⟩)).2)
def evB (n : Int) (l : List PutD) (k : Nat) : List EvD := (l.take k).map fun p => ((0 : Int), n + 1 + p.1, p.2)
noncomputable def evM (l : List PutD) : List EvD := [(1, 0, ⟨#[]⟩), (0, 0, headText l), (1, 0, ⟨#[]⟩)]
def evZ : List EvD := [(1, 0, ⟨#[]⟩), (0, 0, ⟨#[]⟩), (1, 0, ⟨#[]⟩)]
theorem evA_len (l : List PutD) (k : Nat) : (evA l k).length = k := by simp [evA]
theorem evB_len (n : Int) (l : List PutD) (k : Nat) (h : k ≤ l.length) : (evB n l k).length = k := by simp [evB]; omega
theorem evA_succ (l : List PutD) (k : Nat) (h : k < l.length) : evA l (k + 1) = evA l k ++ [((0 : Int), (1 : Int) + (k : Int), l[k].2)] := by
  unfold evA
  rw [List.range_succ, List.map_append]
  simp [List.getD, h]
theorem evB_succ (n : Int) (l : List PutD) (k : Nat) (h : k < l.length) : evB n l (k + 1) = evB n l k ++ [((0 : Int), n + 1 + l[k].1, l[k].2)] := by
  unfold evB
  rw [List.take_succ_eq_append_getElem h, List.map_append]
  rfl
theorem commit_parts {n : Int} {l : List PutD} (h : jtx n l = true) : commitE n l = evA l l.length ++ evM l ++ evB n l l.length ++ evZ := by
  unfold commitE evA evM evB evZ
  rw [if_pos h, List.take_length]
end Go.Proofs.YtlidmnehpcodkaaDoor
