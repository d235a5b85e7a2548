/-
  Own text: a list of texts from a place on; its copy; a byte of a text.
-/
import Derived.Test.YtaabcfgjmankgaaDoorBlkB
namespace Go.Proofs.YtaabcfgjmankgaaDoor
open Go.RowKit

theorem cutT (g off cr L k : Nat) (hL : k ≤ L) (hc : L ≤ cr) : ∃ o c', (∀ W : World, (Instr.slice 22 (.slice (some ⟨g, off, none⟩) L cr) (some (.int .i64 (k : Int))) none none).run Tryd.prog W = .ok (.slice (some ⟨g, o, none⟩) (L - k) c') W) ∧ (L - k = 0 ∨ o = off + k) := by
  have hs : ∀ W : World, (sizeOf 9).run Tryd.prog W = .ok 1 W := fun W => by
    obtain ⟨i, hi, hz0, hz1, hz2⟩ := info_parts Tryd.infoTxt
    simp [sizeOf, typeInfo, hi, hz1]
  have hsz : ∀ W : World, (sizeOf (Tryd.prog.elem 22)).run Tryd.prog W = .ok 1 W := fun W => by
    have he : Tryd.prog.elem 22 = 9 := by kernel_rfl
    rw [he]
    exact hs W
  have hel : Tryd.prog.underlying 22 = some (.slice (Tryd.prog.elem 22)) := by kernel_rfl
  have hk : ((k : Int)).toNat = k := by omega
  by_cases h : cr = k
  · refine ⟨off, 0, fun W => ?_, .inl (by omega)⟩
    have e := run_slice_l W 22 (some ⟨g, off, none⟩) L cr hel .i64 (k : Int) (by omega) (by omega)
    rw [e, hsz]
    subst h
    simp [sliced]
  · refine ⟨off + k, cr - k, fun W => ?_, .inr rfl⟩
    have e := run_slice_l W 22 (some ⟨g, off, none⟩) L cr hel .i64 (k : Int) (by omega) (by omega)
    rw [e, hsz]
    simp [sliced, Addr.add]
    rw [if_neg h]
    split
    · rename_i hz; rw [hz]; rfl
    · rfl
theorem rdS_cut {w : World} {g off o : Nat} {l : List ByteArray} (h : RdS w (some ⟨g, off, none⟩) l) (k : Nat) (ho : l.length - k = 0 ∨ o = off + k) : RdS w (some ⟨g, o, none⟩) (l.drop k) := by
  rcases ho with ho | rfl
  · exact .inl (List.drop_eq_nil_of_le (by omega))
  · rcases h with rfl | ⟨b, f, he, hb, hc⟩
    · exact .inl (by simp)
    · cases he
      refine .inr ⟨g, off + k, rfl, hb, fun i hi => ?_⟩
      have hi' : k + i < l.length := by rw [List.length_drop] at hi; omega
      have := hc (k + i) hi'
      rw [← Nat.add_assoc] at this
      rw [this, List.getElem_drop]

set_option maxRecDepth 20000 in
set_option maxHeartbeats 400000 in
theorem copyT (a : Option Addr) (cap : Nat) (l : List ByteArray) (w : World) (hl : l.length ≤ 4194305) (hr : RdS w a l) :
    Calls Tryd.prog 13 #[.slice a l.length cap] w fun e w' => ∃ v, e = .returned v ∧ w'.ownsRow w.heap.size 9 1 v l.length (l.map Value.string) ∧ Below w.heap.size w w' := by
  obtain ⟨i0, hi, hz0, hz1, hz2⟩ := info_parts Tryd.infoTxt
  have ho0 : (w.alloc (.cells #[] 9)).ownsRow w.heap.size 9 1 (.slice (some ⟨w.heap.size, 0, none⟩) 0 0) 0 [] := World.ownsRow_made w #[] 0 (Nat.le_refl _) (Nat.zero_le _) rfl
  have hb0 : Below w.heap.size w (w.alloc (.cells #[] 9)) := (Below.refl _ _).alloc (Nat.le_refl _) _
  have HR : Hid (RdS (w.alloc (.cells #[] 9)) a l) := hr.below hb0 (Nat.le_refl _)
  clear hr
  go_enter Tryd.func13, Tryd.ntmps13
  go_wp2_with (at_builtin; refine wpList_append_own_src _ rfl _ _ 22 22 rfl w.heap.size 9 i0 (.string ⟨#[]⟩) 1 16 Tryd.underlying22 hi hz0 hz1 hz2 rfl _ _ _ rfl ho0 _ l.length (l.map Value.string) rfl (srcTxt cap HR.out) (by unfold maxLen; omega) (by omega) hb0.size ?_)
  intro v' w2 ho2 hg2
  have hb2 : Below w.heap.size w w2 := hb0.grown hg2 hb0.size (fun k hk => (ho0.lt k hk).1)
  clear hg2
  go_wp2
  go_ret
  exact ⟨_, rfl, by simpa using ho2, hb2⟩
end Go.Proofs.YtaabcfgjmankgaaDoor
