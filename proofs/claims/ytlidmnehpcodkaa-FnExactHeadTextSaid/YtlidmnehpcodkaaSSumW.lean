/-
  Own text: the check sum of texts, one behind the other, as the other program reckons it.
-/
import Derived.Test.YtlidmnehpcodkaaSTxW
import Derived.Test.YtlidmnehpcodkaaTxtW
import Derived.Test.YtlidmnehpcodkaaTextW
import Derived.Test.YtlidmnehpcodkaaCrcW
namespace Go.Proofs.Ytlidmnehpcodkaa
open Go.RowKit

/-- A row of the call's own, as a source. -/
theorem src_own {P : Program} {w : World} {base : Nat} {t e e' : TypeId} {v : Value} {n : Nat} {xs : List Value} (ht : P.underlying t = some (.slice e')) (h : w.ownsRow base e 1 v n xs) (h1 : ∀ u ∈ xs, u.oneCell' = true) : Src P 1 t v n xs w := by
  have hl : xs.length = n * 1 := h.1
  rcases h.2 with ⟨rfl, rfl⟩ | ⟨g, cap, cur, rfl, _⟩
  · obtain rfl : xs = [] := List.eq_nil_of_length_eq_zero (by simpa using hl)
    exact Src.ofNil w ht 0
  · exact Src.ofSlice w ht ⟨g, 0, none⟩ n cap xs hl (h.cells (g := g) rfl) h1
theorem sumB_len {l : List ByteArray} (hz : ∀ s ∈ l, s.size ≤ 90) : (sumB l).length ≤ l.length * 95 := by
  induction l with
  | nil => simp [sumB]
  | cons s l ih =>
    have h1 := ih (fun x hx => hz x (by simp [hx]))
    have h2 := putText_len s
    have h3 := hz s (by simp)
    simp only [sumB, List.flatMap_cons, List.length_append, List.length_cons] at h1 ⊢
    omega
theorem sumB_take {l : List ByteArray} {k : Nat} (h : k < l.length) : sumB (l.take (k + 1)) = sumB (l.take k) ++ putText l[k] := by
  rw [List.take_succ_eq_append_getElem h]; unfold sumB; rw [List.flatMap_append]; simp only [List.flatMap_cons, List.flatMap_nil, List.append_nil]

set_option maxRecDepth 20000 in
set_option maxHeartbeats 1000000 in
theorem specSum (a : Option Addr) (cap : Nat) (l : List ByteArray) (w : World) (hl : l.length ≤ 48) (hz : ∀ s ∈ l, s.size ≤ 90) (hr : RdS w a l) :
    Calls Try.prog 42 #[.slice a l.length cap] w fun e w' => e = .returned (.int .i64 ((sumOf l : Nat) : Int)) ∧ Below w.heap.size w w' := by
  obtain ⟨i0, hi, hz0, hz1, hz2⟩ := info_parts Try.infoU8
  have HCS : Hid (∀ k (hk : k < l.length), ∃ x off, a = some ⟨x, off, none⟩ ∧ x < w.heap.size ∧ w.cell? ⟨x, off + k, none⟩ = some (.string l[k])) := fun k hk => hr.cellT k hk
  have HZ : Hid (∀ k (hk : k < l.length), l[k].size ≤ 90) := fun k hk => hz _ (List.getElem_mem hk)
  have HL : Hid (∀ k, k ≤ l.length → (sumB (l.take k)).length ≤ 4560) := by
    intro k hk
    have := sumB_len (l := l.take k) (fun s hs => hz s (List.mem_of_mem_take hs))
    simp at this
    omega
  have HS : Hid (sumOf l = crcTo (sumB l) (sumB l).length ^^^ 4294967295) := rfl
  have hmade : (w.alloc (.cells #[] 5)).ownsRow w.heap.size 5 1 (.slice (some ⟨w.heap.size, 0, none⟩) 0 0) 0 [] := World.ownsRow_made w #[] 0 (Nat.le_refl _) (Nat.zero_le _) rfl
  clear hr hz
  go_enter Try.func42, Try.ntmps42
  go_wp2
  go_loopw [3, 4] (fun v i wr => ∃ k : Nat, k ≤ l.length ∧ i = .int .i64 k ∧ wr.ownsRow w.heap.size 5 1 v (sumB (l.take k)).length ((sumB (l.take k)).map (Value.int .u8)) ∧ Below w.heap.size w wr) (fun _ i _ => l.length - (intOf i).toNat)
  case atStart => exact ⟨0, Nat.zero_le _, rfl, hmade, below1 _ _⟩
  case round =>
    obtain ⟨k, hk, rfl, hO, hb⟩ := hrel
    clear hmade
    by_cases hlt : k < l.length
    · obtain ⟨x, off, rfl, hblt, hcx⟩ := HCS.out k hlt
      have hcr : wr.cell? ⟨x, off + k, none⟩ = some (.string l[k]) := (hb.cell hblt).trans hcx
      have hsz := HZ.out k hlt
      have HTK : Hid (sumB (l.take (k + 1)) = sumB (l.take k) ++ putText l[k]) := sumB_take hlt
      have hl0 := HL.out k hk
      clear hcx
      generalize l[k] = y at *
      have HPT : Hid (Calls Try.prog 70 #[.string y] wr fun e w' => ∃ v, e = .returned v ∧ w'.ownsRow wr.heap.size 5 1 v (putText y).length ((putText y).map (Value.int .u8)) ∧ Below wr.heap.size wr w') := specPutText y wr (by omega)
      have hpl := putText_len y
      generalize putText y = py at *
      generalize sumB (l.take k) = p0 at *
      go_wp2_with fail
      refine HPT.out.mono ?_
      rintro e w1 ⟨v1, rfl, ho1, hb1⟩
      have hO1 := ownsRow_below hO hb1 (Nat.le_refl _)
      have HSR : Hid (Src Try.prog 1 66 v1 py.length (py.map (Value.int .u8)) w1) := src_own Try.underlying66 ho1 (fun u hu => by obtain ⟨_, _, rfl⟩ := List.mem_map.1 hu; rfl)
      have hb01 : Below w.heap.size w w1 := hb.trans (hb1.mono hb.size)
      clear hO hb1 ho1
      go_wp2_with (at_builtin; refine wpList_append_own_src _ rfl _ _ 66 66 rfl w.heap.size 5 i0 (.int .u8 0) 1 1 Try.underlying66 hi hz0 hz1 hz2 rfl _ _ _ rfl hO1 _ _ _ rfl HSR.out (by unfold maxLen; omega) (by omega) hb01.size ?_)
      intro v2 w2 ho2 hg2
      have hb2 : Below w.heap.size w w2 := hb01.grown hg2 hb01.size (fun j hj => (hO1.lt j hj).1)
      have ho3 : w2.ownsRow w.heap.size 5 1 v2 (sumB (l.take (k + 1))).length ((sumB (l.take (k + 1))).map (Value.int .u8)) := by
        rw [HTK.out, List.map_append, List.length_append]; exact ho2
      clear ho2 hg2 hO1 HSR hb01
      go_wp2
      go_roundw
      case rel => exact ⟨k + 1, by omega, by go_num, ho3, hb2⟩
      case measure => simp [intOf]; omega
    · obtain rfl : k = l.length := by omega
      rw [List.take_length] at hO
      have hl1 := HL.out l.length (Nat.le_refl _)
      rw [List.take_length] at hl1
      have hu := sumB_u8 l
      obtain ⟨q, qc, rfl, hrq⟩ := own_rd hO
      have HC : Hid (Calls Try.prog 71 #[.slice q (sumB l).length qc] wr fun e w' => e = .returned (.int .i64 ((sumOf l : Nat) : Int)) ∧ w' = wr) := by
        show Calls _ _ _ _ _
        rw [HS.out]
        exact specCrc q qc (sumB l) wr (by omega) hu hrq.2
      clear hrq hO hu HS
      go_wp2_with fail
      refine HC.out.mono ?_
      rintro e w1 ⟨rfl, hw1⟩
      subst w1
      go_wp2
      go_ret
      exact ⟨rfl, hb⟩
end Go.Proofs.Ytlidmnehpcodkaa
