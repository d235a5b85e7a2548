/-
  Own text: the number at a place, read by the program: it is there as 'Good' says, or the program panics with its own error.
-/
import Derived.Test.YtogpgocldgdeaaaDoorEndW
import Derived.Laws.IdiomStrings
import Derived.Deep.RegionWith
import Derived.Lib.BufferRead
namespace Go.Proofs.YtogpgocldgdeaaaDoor
open Go.RowKit

/-- The text of these bytes. -/
def bytesS (l : List Int) : ByteArray := ⟨(l.map fun x => UInt8.ofNat x.toNat).toArray⟩
theorem bytesS_inj {l m : List Int} (hl : U8 l) (hm : U8 m) (h : bytesS l = bytesS m) : l = m := by
  have h1 : (l.map fun x => UInt8.ofNat x.toNat) = (m.map fun x => UInt8.ofNat x.toNat) := by
    have := congrArg (fun b : ByteArray => b.data.toList) h
    simpa [bytesS] using this
  have key : ∀ a : List Int, U8 a → (a.map fun x => UInt8.ofNat x.toNat).map (fun u => (u.toNat : Int)) = a := by
    intro a ha
    rw [List.map_map]
    conv => rhs; rw [← List.map_id a]
    apply List.map_congr_left
    intro x hx
    have := ha x hx
    simp only [Function.comp_apply, id, UInt8.toNat_ofNat']
    omega
  have := congrArg (fun a : List UInt8 => a.map (fun u => (u.toNat : Int))) h1
  simpa only [key l hl, key m hm] using this

theorem str_ne {a b : ByteArray} (h : ¬ a = b) : (a.toList == b.toList) = false := by
  rw [beq_eq_false_iff_ne]
  intro e
  rw [ByteArray.toList_eq, ByteArray.toList_eq] at e
  exact h (Go.WideShapes.bytes_inj e)

theorem conv_rd {w : World} {b off cap : Nat} {l : List Int} (hu : U8 l) (hc : ∀ i, i < l.length → w.cell? ⟨b, off + i, none⟩ = some (.int .u8 (l.getD i 0))) :
    (convert 22 9 (.slice (some ⟨b, off, none⟩) l.length cap)).run Tryd.prog w = .ok (.string (bytesS l)) w := by
  have h := run_convert_bytes_back (P := Tryd.prog) w 22 9 5 ⟨b, off, none⟩ cap (l.map fun x => UInt8.ofNat x.toNat) Tryd.underlying22 Tryd.underlying5 Tryd.underlying9 (by
    intro j hj
    have hj' : j < l.length := by simpa using hj
    rw [Addr.add_lit, hc j hj']
    have hb := hu.at j
    simp only [List.getElem_map]
    have e : l.getD j 0 = l[j] := by simp [List.getD, hj']
    rw [e] at hb ⊢
    congr 2
    rw [UInt8.toNat_ofNat']; omega)
  simpa [bytesS] using h

theorem conv_ownN {w : World} {base n : Nat} {v : Value} {l : List Int} (hu : U8 l) (h : w.ownsRow base 5 1 v n (l.map (Value.int .u8))) :
    (convert 22 9 v).run Tryd.prog w = .ok (.string (bytesS l)) w := by
  have hl : l.length = n := by have := h.1; simpa using this
  rcases h.2 with ⟨rfl, h0⟩ | ⟨g, cap, cur, rfl, _⟩
  · subst h0
    obtain rfl : l = [] := List.eq_nil_of_length_eq_zero hl
    have := Lib.run_convert_nil_bytes (P := Tryd.prog) w 22 9 5 0 Tryd.underlying22 Tryd.underlying5 Tryd.underlying9
    simpa [bytesS] using this
  · subst hl
    have hr := Rd.own h
    rcases hr with rfl | ⟨b, off, he, _, hc⟩
    · exact conv_rd hu (fun i hi => by simp at hi)
    · simp only [Option.some.injEq, Addr.mk.injEq, and_true] at he
      obtain ⟨rfl, rfl⟩ := he
      exact conv_rd hu hc

theorem valL_lt (l : List Int) : valL l < 128 ^ l.length := by
  induction l with
  | nil => simp [valL]
  | cons x r ih => simp only [valL, List.length_cons, Nat.pow_succ]; omega

/-- The value of the bytes from the j-th to the k-th. -/
def part (l : List Int) (p j k : Nat) : Nat := valL ((l.drop (p + j)).take (k + 1 - j))
theorem part_end (l : List Int) (p k : Nat) : part l p (k + 1) k = 0 := by simp [part, valL]
theorem part_step (l : List Int) (p j k : Nat) (hj : j ≤ k) (hl : p + k < l.length) : part l p j k = (l.getD (p + j) 0).toNat % 128 + 128 * part l p (j + 1) k := by
  unfold part
  have hd : p + j < l.length := by omega
  rw [List.drop_eq_getElem_cons hd, show k + 1 - j = (k + 1 - (j + 1)) + 1 by omega, List.take_succ_cons, valL, Nat.add_assoc]
  have e : l.getD (p + j) 0 = l[p + j] := by simp [List.getD, hd]
  rw [e]
theorem part_lt (l : List Int) (p j k : Nat) : part l p j k < 128 ^ (k + 1 - j) := by
  unfold part
  have := valL_lt ((l.drop (p + j)).take (k + 1 - j))
  have h2 : ((l.drop (p + j)).take (k + 1 - j)).length ≤ k + 1 - j := List.length_take_le _ _
  exact Nat.lt_of_lt_of_le this (Nat.pow_le_pow_right (by omega) h2)
theorem part_zero (l : List Int) (p k : Nat) (hl : p + k < l.length) : part l p 0 k = valTo l p (k + 1) := by
  unfold part
  simpa using valL_take l p (k + 1) (by omega)
theorem part_lt' (l : List Int) (p j k : Nat) (hk : k < 5) : part l p j k < 34359738368 := by
  have h := part_lt l p j k
  have h2 : 128 ^ (k + 1 - j) ≤ 128 ^ 5 := Nat.pow_le_pow_right (by omega) (by omega)
  have h3 : (128 : Nat) ^ 5 = 34359738368 := by decide
  omega

theorem cut_u8 {l : List Int} (h : U8 l) (p k : Nat) : U8 (cut l p k) := fun n hn => h n (List.mem_of_mem_drop (List.mem_of_mem_take hn))
theorem cut_len {l : List Int} {p k : Nat} (h : p + k < l.length) : (cut l p k).length = k + 1 := by simp [cut]; omega
theorem cut_at {l : List Int} {p k i : Nat} (hi : i < k + 1) : (cut l p k).getD i 0 = l.getD (p + i) 0 := by
  simp [cut, List.getD, hi]
theorem cut_snoc {l : List Int} {p k : Nat} (h : p + k < l.length) : cut l p k = (l.drop p).take k ++ [l.getD (p + k) 0] := by
  unfold cut
  have hk : k < (l.drop p).length := by simp; omega
  rw [List.take_succ_eq_append_getElem hk]
  congr 2
  simp [List.getD, h]

/-- The bytes are how their number is written just where the last one of several is not 0 and the number is not too great. -/
theorem good_iff {l : List Int} (hu : U8 l) {p k : Nat} (hs : Stop l p k) :
    (putNum (valTo l p (k + 1) : Nat) = cut l p k) ↔ ((k = 0 ∨ l.getD (p + k) 0 ≠ 0) ∧ valTo l p (k + 1) ≤ 2147483647) := by
  obtain ⟨h5, hlt, hlow, hhi⟩ := hs
  have hv : valL (cut l p k) = valTo l p (k + 1) := by unfold cut; exact valL_take l p (k + 1) (by omega)
  have hd := hu.at (p + k)
  constructor
  · intro h
    have hle : valTo l p (k + 1) ≤ 2147483647 := by
      rcases Nat.lt_or_ge 2147483647 (valTo l p (k + 1)) with h' | h'
      · rw [putNum, if_neg (by omega)] at h
        have := congrArg List.length h
        rw [cut_len hlt] at this
        simp at this
      · exact h'
    refine ⟨?_, hle⟩
    rw [putNum, if_pos (by omega)] at h
    by_cases hk : k = 0
    · exact .inl hk
    · right
      intro h0
      rw [cut_snoc hlt, h0] at h
      refine vlq_last 4 _ _ h ?_
      intro he
      have := congrArg List.length he
      simp at this
      omega
  · rintro ⟨hz, hle⟩
    rw [putNum, if_pos (by omega)]
    simp only [Int.toNat_natCast]
    rw [← hv, cut_snoc hlt]
    refine vlq_valL _ (fun n hn => hu n (List.mem_of_mem_drop (List.mem_of_mem_take hn))) _ hd.1 hlow ?_ ?_ 4 ?_
    · intro x hx
      obtain ⟨i, hi, rfl⟩ := List.mem_iff_getElem.1 hx
      simp at hi
      have := hhi i (by omega)
      simpa [List.getD, show p + i < l.length by omega] using this
    · rcases hz with rfl | h
      · left; simp
      · exact .inr h
    · simp; omega
end Go.Proofs.YtogpgocldgdeaaaDoor
