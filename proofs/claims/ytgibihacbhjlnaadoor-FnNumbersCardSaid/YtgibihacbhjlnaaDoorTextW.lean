/-
  Own text: the two PutText functions answer a new row that holds the length and the bytes, and turn nothing that was there.
-/
import Derived.Test.YtgibihacbhjlnaaDoorNumW
import Derived.Test.YtgibihacbhjlnaaDoorAppSrc
import Derived.Laws.IdiomStrings
namespace Go.Proofs.YtgibihacbhjlnaaDoor
open Go.RowKit

/-- A string's bytes, as numbers. -/
def bytesOf (s : ByteArray) : List Int := s.data.toList.map fun b => (b.toNat : Int)
theorem bytesOf_len (s : ByteArray) : (bytesOf s).length = s.size := by simp [bytesOf]
theorem bytesOf_u8 (s : ByteArray) : U8 (bytesOf s) := by
  intro n hn
  obtain ⟨b, _, rfl⟩ := List.mem_map.1 hn
  have := b.toNat_lt; omega
theorem byteCells_eq (s : ByteArray) : byteCells s = (bytesOf s).map (Value.int .u8) := by simp [byteCells, bytesOf]
def putText (s : ByteArray) : List Int := putNum (s.size : Int) ++ bytesOf s
theorem putText_u8 (s : ByteArray) : U8 (putText s) := by
  intro n hn
  rcases List.mem_append.1 hn with h | h
  · exact putNum_u8 _ n h
  · exact bytesOf_u8 s n h
theorem putText_len (s : ByteArray) : (putText s).length ≤ s.size + 5 := by
  have := putNum_len (s.size : Int); simp [putText, bytesOf_len]; omega

set_option maxRecDepth 20000 in
set_option maxHeartbeats 400000 in
theorem implPutText (s : ByteArray) (w : World) (hs : s.size ≤ 1048576) :
    Calls Tryd.prog 12 #[.string s] w fun e w' => ∃ v, e = .returned v ∧ w'.ownsRow w.heap.size 5 1 v (putText s).length ((putText s).map (Value.int .u8)) ∧ Below w.heap.size w w' := by
  obtain ⟨i0, hi, hz0, hz1, hz2⟩ := info_parts Tryd.infoU8
  go_enter Tryd.func12, Tryd.ntmps12
  go_wp2_with fail
  refine (implPutNum s.size _).mono ?_
  rintro e w1 ⟨v1, rfl, ho1, hb1⟩
  have hpl := putNum_len (s.size : Int)
  go_wp2_with (at_builtin; refine wpList_append_own_src _ rfl _ _ 22 9 rfl w.heap.size 5 i0 (.int .u8 0) 1 1 Tryd.underlying22 hi hz0 hz1 hz2 rfl _ _ _ rfl ho1 _ s.size (byteCells s) rfl (Src.ofString _ Tryd.underlying9 s) (by unfold maxLen; omega) (by omega) hb1.size ?_)
  intro v' w2 ho2 hg2
  have hb2 : Below w.heap.size w w2 := hb1.grown hg2 hb1.size (fun k hk => (ho1.lt k hk).1)
  clear hg2
  go_wp2
  go_ret
  refine ⟨_, rfl, ?_, hb2⟩
  rw [byteCells_eq, ← List.map_append] at ho2
  rw [show (putText s).length = (putNum (s.size : Int)).length + s.size by simp [putText, bytesOf_len]]
  exact ho2

end Go.Proofs.YtgibihacbhjlnaaDoor
