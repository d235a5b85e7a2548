/-
  Own text: the two PutNum functions answer a new row that holds 'putNum', and turn nothing that was there.
-/
import Derived.Test.YtioecnfgliponaaRows
import Derived.Test.YtioecnfgliponaaNumBase
namespace Go.Proofs.Ytioecnfgliponaa
open Go.RowKit

theorem Try.infoU8 : (Try.prog.info? 5).map (fun i => (i.zero, i.size, i.bytes)) = some (some (.int .u8 0), 1, 1) := by kernel_rfl

theorem inY (n : Int) (w : World) (h : 0 ≤ n ∧ n ≤ 2147483647) : Calls Try.prog 42 #[.int .i64 n, .int .i64 0, .int .i64 2147483647] w fun e w' => e = .returned (.bool true) ∧ w' = w := by
  obtain ⟨h1, h2⟩ := h
  go_enter Try.func42, Try.ntmps42
  go_wp2
  go_ret
  exact ⟨rfl, rfl⟩

theorem inN (n : Int) (w : World) (h : ¬ (0 ≤ n ∧ n ≤ 2147483647)) : Calls Try.prog 42 #[.int .i64 n, .int .i64 0, .int .i64 2147483647] w fun e w' => e = .returned (.bool false) ∧ w' = w := by
  by_cases h1 : 0 ≤ n
  · have h2 : ¬ n ≤ 2147483647 := fun x => h ⟨h1, x⟩
    clear h
    go_enter Try.func42, Try.ntmps42
    go_wp2
    go_ret
    exact ⟨rfl, rfl⟩
  · clear h
    go_enter Try.func42, Try.ntmps42
    go_wp2
    go_ret
    exact ⟨rfl, rfl⟩

end Go.Proofs.Ytioecnfgliponaa
