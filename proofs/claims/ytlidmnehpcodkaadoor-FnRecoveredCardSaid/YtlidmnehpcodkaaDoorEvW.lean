/-
  Own text: the laws' helpers over events (a kind, a place and a text): copies, sizes, alike, marks, whether they are still there.
-/
import Derived.Test.YtlidmnehpcodkaaDoorEvBase
import Derived.Test.YtlidmnehpcodkaaDoorBunA
import Derived.Handy
import Derived.Deep.RegionWith
namespace Go.Proofs.YtlidmnehpcodkaaDoor
open Go.RowKit

def aggE (p : EvD) : Value := .agg #[.int .i64 p.1, .int .i64 p.2.1, .string p.2.2]

theorem evKind (l : List EvD) (i : Nat) (h : i < l.length) (n : Int) : (l.flatMap encE).set (i * 3) (.int .i64 n) = (l.set i (n, l[i].2.1, l[i].2.2)).flatMap encE := by
  have := flat_set encE_len l i h 0 (n, l[i].2.1, l[i].2.2) (.int .i64 n) (by omega) rfl
  simpa using this
theorem evAtS (l : List EvD) (i : Nat) (h : i < l.length) (n : Int) : (l.flatMap encE).set (i * 3 + 1) (.int .i64 n) = (l.set i (l[i].1, n, l[i].2.2)).flatMap encE :=
  flat_set encE_len l i h 1 (l[i].1, n, l[i].2.2) (.int .i64 n) (by omega) rfl
theorem evData (l : List EvD) (i : Nat) (h : i < l.length) (s : ByteArray) : (l.flatMap encE).set (i * 3 + 2) (.string s) = (l.set i (l[i].1, l[i].2.1, s)).flatMap encE :=
  flat_set encE_len l i h 2 (l[i].1, l[i].2.1, s) (.string s) (by omega) rfl
theorem evAll (l : List EvD) (i : Nat) (h : i < l.length) (n m : Int) (s : ByteArray) : (((l.flatMap encE).set (i * 3) (.int .i64 n)).set (i * 3 + 1) (.int .i64 m)).set (i * 3 + 2) (.string s) = (l.set i (n, m, s)).flatMap encE := by
  rw [evKind l i h, evAtS _ i (by simpa using h), evData _ i (by simpa using h)]
  simp
theorem evCells {l : List EvD} {i : Nat} (h : i < l.length) : (l.flatMap encE)[i * 3]? = some (.int .i64 l[i].1) ∧ (l.flatMap encE)[i * 3 + 1]? = some (.int .i64 l[i].2.1) ∧ (l.flatMap encE)[i * 3 + 2]? = some (.string l[i].2.2) := by
  have e0 := flat_get encE_len l i h 0 (by omega)
  have e1 := flat_get encE_len l i h 1 (by omega)
  have e2 := flat_get encE_len l i h 2 (by omega)
  exact ⟨by simpa [encE] using e0, by simpa [encE] using e1, by simpa [encE] using e2⟩

/-- How great writes are. -/
def szE (l : List EvD) : Nat := (l.map fun p => 1 + p.2.2.size).sum
theorem szE_take {l : List EvD} {k : Nat} (h : k < l.length) : szE (l.take (k + 1)) = szE (l.take k) + 1 + (l[k]).2.2.size := by
  unfold szE
  rw [List.take_succ_eq_append_getElem h, List.map_append, List.sum_append]
  simp
  omega

end Go.Proofs.YtlidmnehpcodkaaDoor
