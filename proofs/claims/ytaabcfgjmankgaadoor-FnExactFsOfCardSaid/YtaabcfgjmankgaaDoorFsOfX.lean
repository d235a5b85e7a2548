/-
  Own text: what FsOf answers, in the make of a law's frame.
-/
import Derived.Test.YtaabcfgjmankgaaDoorBunR
import Derived.Test.YtaabcfgjmankgaaDoorSFsOfW
import Derived.Test.YtaabcfgjmankgaaDoorIFsOfW
import Derived.Test.YtaabcfgjmankgaaDoorBunX
namespace Go.Proofs.YtaabcfgjmankgaaDoor
open Go.RowKit

theorem ofFs_sz {l : List ByteArray} (_ : szTk l ≤ 1048576) : szF (ofFs l) ≤ 1048576 := by
  by_cases h : ∃ F, FsIs l F
  · obtain ⟨F, hF⟩ := h
    rw [(ofFs_yes hF).1]
    obtain ⟨h1, h2, h3, h4⟩ := shape_ns hF.1
    exact szF_few h1 h2 (fun n hn => by have := h3 n hn; omega) (fun s hs => by have := h4 s hs; omega)
  · rw [(ofFs_no fun F hF => h ⟨F, hF⟩).1]
    simp [szF, zeroF, szN, szT]
theorem specFsOfX (v : Value) (l : List ByteArray) (w : World) (hs : szTk l ≤ 1048576) (hr : RdTk w v l) : Calls Tryd.prog 5 #[v] w fun e w' => ∃ v, e = .returned (.tuple #[v, .bool (ofFsOk l)]) ∧ OwnFs w' w.heap.size w'.heap.size v (ofFs l) ∧ Below w.heap.size w w' := by
  obtain ⟨a, c, rfl, hc, hr⟩ := hr
  exact specFsOf a c l w (Nat.le_trans (szTk_len l) hs) hc (fun s h => Nat.le_trans (szTk_mem h) hs) hr
theorem implFsOfX (v : Value) (l : List ByteArray) (er : Addr) (w : World) (hs : szTk l ≤ 1048576) (hr : RdTk w v l) (he : ErrAt er w) : Calls Tryd.prog 7 #[v] w fun e w' => ∃ v, e = .returned (.tuple #[v, .bool (ofFsOk l)]) ∧ OwnFs w' w.heap.size w'.heap.size v (ofFs l) ∧ Below w.heap.size w w' := by
  obtain ⟨a, c, rfl, _, hr⟩ := hr
  exact implFsOf a c l er w (Nat.le_trans (szTk_len l) hs) (fun s h => Nat.le_trans (szTk_mem h) hs) hr he
end Go.Proofs.YtaabcfgjmankgaaDoor
