/-
  Own text: the two PutText functions answer a new row that holds the length and the bytes, and turn nothing that was there.
-/
import Derived.Test.YtogpgocldgdeaaaDoorNumW
import Derived.Test.YtogpgocldgdeaaaDoorAppSrc
import Derived.Laws.IdiomStrings
namespace Go.Proofs.YtogpgocldgdeaaaDoor
open Go.RowKit

/-- A string's bytes, as numbers. -/
def bytesOf (s : ByteArray) : List Int := s.data.toList.map fun b => (b.toNat : Int)
theorem bytesOf_len (s : ByteArray) : (bytesOf s).length = s.size := by simp [bytesOf]
theorem bytesOf_u8 (s : ByteArray) : U8 (bytesOf s) := by
  intro n hn
  obtain ⟨b, _, rfl⟩ := List.mem_map.1 hn
  have := b.toNat_lt; omega
theorem byteCells_eq (s : ByteArray) : byteCells s = (bytesOf s).map (Value.int .u8) := by simp [byteCells, bytesOf]
def putText (s : ByteArray) : List Int := putNum (s.size : Int) ++ bytesOf s
theorem putText_u8 (s : ByteArray) : U8 (putText s) := by
  intro n hn
  rcases List.mem_append.1 hn with h | h
  · exact putNum_u8 _ n h
  · exact bytesOf_u8 s n h
theorem putText_len (s : ByteArray) : (putText s).length ≤ s.size + 5 := by
  have := putNum_len (s.size : Int); simp [putText, bytesOf_len]; omega

set_option maxRecDepth 20000 in
set_option maxHeartbeats 400000 in
theorem implPutText (s : ByteArray) (w : World) (hs : s.size ≤ 1048576) :
    Calls Tryd.prog 34 #[.string s] w fun e w' => ∃ v, e = .returned v ∧ w'.ownsRow w.heap.size 5 1 v (putText s).length ((putText s).map (Value.int .u8)) ∧ Below w.heap.size w w' := by
  obtain ⟨i0, hi, hz0, hz1, hz2⟩ := info_parts Tryd.infoU8
  go_enter Tryd.func34, Tryd.ntmps34
  go_wp2_with fail
  refine (implPutNum s.size _).mono ?_
  rintro e w1 ⟨v1, rfl, ho1, hb1⟩
  have hpl := putNum_len (s.size : Int)
  go_wp2_with (at_builtin; refine wpList_append_own_src _ rfl _ _ 22 9 rfl w.heap.size 5 i0 (.int .u8 0) 1 1 Tryd.underlying22 hi hz0 hz1 hz2 rfl _ _ _ rfl ho1 _ s.size (byteCells s) rfl (Src.ofString _ Tryd.underlying9 s) (by unfold maxLen; omega) (by omega) hb1.size ?_)
  intro v' w2 ho2 hg2
  have hb2 : Below w.heap.size w w2 := hb1.grown hg2 hb1.size (fun k hk => (ho1.lt k hk).1)
  clear hg2
  go_wp2
  go_ret
  refine ⟨_, rfl, ?_, hb2⟩
  rw [byteCells_eq, ← List.map_append] at ho2
  rw [show (putText s).length = (putNum (s.size : Int)).length + s.size by simp [putText, bytesOf_len]]
  exact ho2

set_option maxRecDepth 20000 in
set_option maxHeartbeats 400000 in
theorem specPutText (s : ByteArray) (w : World) (hs : s.size ≤ 1048576) :
    Calls Tryd.prog 58 #[.string s] w fun e w' => ∃ v, e = .returned v ∧ w'.ownsRow w.heap.size 5 1 v (putText s).length ((putText s).map (Value.int .u8)) ∧ Below w.heap.size w w' := by
  obtain ⟨i0, hi, hz0, hz1, hz2⟩ := info_parts Tryd.infoU8
  go_enter Tryd.func58, Tryd.ntmps58
  go_wp2_with fail
  refine (specPutNum s.size _).mono ?_
  rintro e w1 ⟨v1, rfl, ho1, hb1⟩
  have hpl := putNum_len (s.size : Int)
  have hcv := run_bytes_of_string (P := Tryd.prog) w1 9 22 5 s Tryd.underlying9 Tryd.underlying22 Tryd.underlying5
  generalize hcap : grownCap w1 s.size 0 5 = cap at hcv
  generalize hW : w1.drew.alloc (.cells (bytesRow s cap) 5 ((bytesRow s cap).size, (bytesRow s cap).size + 1)) = W at hcv
  have hcells : ∀ j u, (byteCells s)[j]? = some u → W.cell? ((⟨w1.heap.size, 0, none⟩ : Addr).add j) = some u := by
    intro j u hu
    have hj : j < s.data.size := by
      have := (List.getElem?_eq_some_iff.1 hu).1
      rw [byteCells_length] at this
      exact this
    have e1 : W.heap[w1.heap.size]? = some (.cells (bytesRow s cap) 5 ((bytesRow s cap).size, (bytesRow s cap).size + 1)) := by rw [← hW]; exact heap_alloc_new w1.drew _
    rw [Addr.add_lit, Nat.zero_add, cell_of_row W w1.heap.size j _ _ _ e1, bytesRow_at s cap j hj]
    rw [← hu, byteCells]
    simp [Array.getElem?_eq_getElem hj]
  have hsrc : Src Tryd.prog 1 22 (.slice (some ⟨w1.heap.size, 0, none⟩) s.size cap) s.size (byteCells s) W :=
    Src.ofSlice W Tryd.underlying22 _ _ _ _ (by rw [byteCells_length, Nat.mul_one]) hcells (fun u hu => by obtain ⟨_, _, rfl⟩ := List.mem_map.1 hu; rfl)
  have hbW : Below w1.heap.size w1 W := by rw [← hW]; exact (Below.refl _ _).drew.alloc (Nat.le_refl _) _
  have hoW := ownsRow_below ho1 hbW (Nat.le_refl _)
  have hb2 : Below w.heap.size w W := hb1.trans (hbW.mono hb1.size)
  clear hW hcap hcells hbW ho1 hb1
  go_wp2_with (at_builtin; refine wpList_append_own_src _ rfl _ _ 22 22 rfl w.heap.size 5 i0 (.int .u8 0) 1 1 Tryd.underlying22 hi hz0 hz1 hz2 rfl _ _ _ rfl hoW _ s.size (byteCells s) rfl hsrc (by unfold maxLen; omega) (by omega) hb2.size ?_)
  intro v' w2 ho2 hg2
  have hb3 : Below w.heap.size w w2 := hb2.grown hg2 hb2.size (fun k hk => (hoW.lt k hk).1)
  clear hg2
  go_wp2
  go_ret
  refine ⟨_, rfl, ?_, hb3⟩
  rw [byteCells_eq, ← List.map_append] at ho2
  rw [show (putText s).length = (putNum (s.size : Int)).length + s.size by simp [putText, bytesOf_len]]
  exact ho2
end Go.Proofs.YtogpgocldgdeaaaDoor
