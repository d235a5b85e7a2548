/-
  Own text: what is wanted for adding and dropping an entry: cuts, where a name goes.
-/
import Derived.Test.YtogpgocldgdeaaaDoorSEokW
namespace Go.Proofs.YtogpgocldgdeaaaDoor
open Go.RowKit

theorem Tryd.sizeEn : ∀ W : World, (sizeOf (Tryd.prog.elem 24)).run Tryd.prog W = .ok 2 W := fun W => by
  have he : Tryd.prog.elem 24 = 32 := by kernel_rfl
  rw [he]
  obtain ⟨i, hi, hz0, hz1, hz2⟩ := info_parts Tryd.infoEnt
  simp [sizeOf, typeInfo, hi, hz1]
theorem Tryd.elemEn : Tryd.prog.underlying 24 = some (.slice (Tryd.prog.elem 24)) := by kernel_rfl
/-- Entries up to a place. -/
theorem cutHi (a : Option Addr) (c L k : Nat) (hk : k ≤ c) (W : World) : (Instr.slice 24 (.slice a L c) none (some (.int .i64 (k : Int))) none).run Tryd.prog W = .ok (.slice a k c) W := by
  have e := run_slice_h W 24 a L c Tryd.elemEn .i64 (k : Int) (by omega) (by omega)
  rw [e, Tryd.sizeEn]
  simp [sliced]
  intro _
  cases a with
  | none => rfl
  | some x => simp [Addr.add]
/-- Entries from a place on. -/
theorem cutLo (a : Option Addr) (c L k : Nat) (hk : k ≤ L) (hc : L ≤ c) : ∃ a' c', (∀ W : World, (Instr.slice 24 (.slice a L c) (some (.int .i64 (k : Int))) none none).run Tryd.prog W = .ok (.slice a' (L - k) c') W) ∧ (L - k = 0 ∨ a' = a.map (·.add (k * 2))) := by
  refine ⟨if c = k then a else a.map (·.add (k * 2)), c - k, fun W => ?_, ?_⟩
  · have e := run_slice_l W 24 a L c Tryd.elemEn .i64 (k : Int) (by omega) (by omega)
    rw [e, Tryd.sizeEn]
    simp [sliced]
  · by_cases h : c = k
    · left; omega
    · right; rw [if_neg h]
theorem rdF_take {w : World} {a : Option Addr} {l : List EntD} (h : RdF encN 2 w a l) (k : Nat) : RdF encN 2 w a (l.take k) := by
  rcases h with rfl | ⟨b, off, rfl, hb, hc⟩
  · left; simp
  · refine .inr ⟨b, off, rfl, hb, fun i hi j hj => ?_⟩
    rw [List.length_take] at hi
    rw [hc i (by omega) j hj, List.getElem_take]
theorem rdF_drop {w : World} {a a' : Option Addr} {l : List EntD} (h : RdF encN 2 w a l) (k : Nat) (ha : l.length - k = 0 ∨ a' = a.map (·.add (k * 2))) : RdF encN 2 w a' (l.drop k) := by
  rcases ha with h0 | rfl
  · exact .inl (List.drop_eq_nil_of_le (by omega))
  · rcases h with rfl | ⟨b, off, rfl, hb, hc⟩
    · left; simp
    · refine .inr ⟨b, off + k * 2, by simp [Addr.add], hb, fun i hi j hj => ?_⟩
      rw [List.length_drop] at hi
      have := hc (k + i) (by omega) j hj
      rw [show off + k * 2 + i * 2 + j = off + (k + i) * 2 + j by omega, this, List.getElem_drop]
theorem szEn_app (l m : List EntD) : szEn (l ++ m) = szEn l + szEn m := by unfold szEn; rw [List.map_append, List.sum_append]
theorem enAt_le (l : List EntD) (s : ByteArray) : enAt l s ≤ l.length := List.findIdx_le_length
theorem enAdded_sz {l : List EntD} {s : ByteArray} {n : Int} : szEn (enAdded l s n) = szEn l + 1 + s.size := by
  unfold enAdded
  rw [szEn_app]
  have e : szEn l = szEn (l.take (enAt l s)) + szEn (l.drop (enAt l s)) := by rw [← szEn_app, List.take_append_drop]
  rw [e]
  show _ + szEn ((s, n) :: _) = _
  unfold szEn
  simp
  omega
theorem enAt_at {l : List EntD} {s : ByteArray} {q : Nat} (hq : q ≤ l.length) (h1 : ∀ j (hj : j < l.length), j < q → ltB s (l[j]).1 = false) (h2 : ∀ (h : q < l.length), ltB s (l[q]).1 = true) : enAt l s = q := by
  unfold enAt
  rcases Nat.lt_or_ge q l.length with h | h
  · rw [List.findIdx_eq h]
    exact ⟨h2 h, fun j hj => h1 j (by omega) hj⟩
  · obtain rfl : q = l.length := by omega
    rw [List.findIdx_eq_length]
    intro x hx
    obtain ⟨i, hi, rfl⟩ := List.getElem_of_mem hx
    exact h1 i hi hi
theorem srcEnOne (w : World) (s : ByteArray) (n : Int) : Src Tryd.prog 2 24 (.slice (some ⟨w.heap.size, 0, none⟩) 1 1) 1 [.string s, .int .i64 n] (w.alloc (.cells #[.string s, .int .i64 n] 32)) := by
  have h := srcEn (w := w.alloc (.cells #[.string s, .int .i64 n] 32)) (a := some ⟨w.heap.size, 0, none⟩) (l := [(s, n)]) 1 (.inr ⟨w.heap.size, 0, rfl, by simp, fun i hi j hj => by
    obtain rfl : i = 0 := by simpa using hi
    have hv := (Var.made w #[.string s, .int .i64 n] 32).cell j
    simp only [Nat.zero_mul, Nat.zero_add]
    rw [hv]
    match j, hj with
    | 0, _ => rfl
    | 1, _ => rfl⟩)
  exact h
theorem enAdded_sm {l : List EntD} {s : ByteArray} {n : Int} (hl : szEn l ≤ 1048576) (hs : s.size ≤ 1048576) : SmE (enAdded l s n) := by
  refine ⟨by rw [enAdded_sz]; omega, fun e he => ?_⟩
  unfold enAdded at he
  rcases List.mem_append.1 he with h | h
  · have := szEn_mem (List.mem_of_mem_take h); omega
  · rcases List.mem_cons.1 h with rfl | h
    · exact hs
    · have := szEn_mem (List.mem_of_mem_drop h); omega
noncomputable def addOk (l : List EntD) (s : ByteArray) (n : Int) : Bool := enOk l && enOk (enAdded l s n)
noncomputable def addD (l : List EntD) (s : ByteArray) (n : Int) : List EntD := if addOk l s n = true then enAdded l s n else l
end Go.Proofs.YtogpgocldgdeaaaDoor
