/-
  Own text: the two PutText functions answer a new row that holds the length and the bytes, and turn nothing that was there.
-/
import Derived.Test.YtioecnfgliponaaNumW
import Derived.Test.YtioecnfgliponaaAppSrc
import Derived.Laws.IdiomStrings
namespace Go.Proofs.Ytioecnfgliponaa
open Go.RowKit

/-- A string's bytes, as numbers. -/
def bytesOf (s : ByteArray) : List Int := s.data.toList.map fun b => (b.toNat : Int)
theorem bytesOf_len (s : ByteArray) : (bytesOf s).length = s.size := by simp [bytesOf]
theorem bytesOf_u8 (s : ByteArray) : U8 (bytesOf s) := by
  intro n hn
  obtain ⟨b, _, rfl⟩ := List.mem_map.1 hn
  have := b.toNat_lt; omega
theorem byteCells_eq (s : ByteArray) : byteCells s = (bytesOf s).map (Value.int .u8) := by simp [byteCells, bytesOf]
def putText (s : ByteArray) : List Int := putNum (s.size : Int) ++ bytesOf s
theorem putText_u8 (s : ByteArray) : U8 (putText s) := by
  intro n hn
  rcases List.mem_append.1 hn with h | h
  · exact putNum_u8 _ n h
  · exact bytesOf_u8 s n h
theorem putText_len (s : ByteArray) : (putText s).length ≤ s.size + 5 := by
  have := putNum_len (s.size : Int); simp [putText, bytesOf_len]; omega

end Go.Proofs.Ytioecnfgliponaa
