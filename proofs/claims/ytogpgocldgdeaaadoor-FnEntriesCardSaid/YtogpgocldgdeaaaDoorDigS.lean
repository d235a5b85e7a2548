/-
  Own text: the digits of a number that is not 0, by the other program.
-/
import Derived.Test.YtogpgocldgdeaaaDoorRows
import Derived.Test.YtogpgocldgdeaaaDoorStrBase
import Derived.Test.YtogpgocldgdeaaaDoorBase
import Derived.Lib.SmallJoins
namespace Go.Proofs.YtogpgocldgdeaaaDoor
open Go.RowKit

theorem dstr_cons (d : UInt8) (l : List UInt8) : (⟨#[d]⟩ ++ ⟨l.toArray⟩ : ByteArray) = ⟨(d :: l).toArray⟩ := by
  have := ByteArray.mk_append_mk (x := [d]) (y := l)
  simpa using this

theorem conv1 (wr : World) (x : Int) (d : Nat) (hx : x = 48 + (d : Int)) (hd : d < 10) :
    (convert 22 9 (.slice (some ⟨wr.heap.size, 0, none⟩) 1 1)).run Tryd.prog (wr.alloc (.cells #[.int .u8 x] 5)) = .ok (.string ⟨#[UInt8.ofNat (48 + d)]⟩) (wr.alloc (.cells #[.int .u8 x] 5)) := by
  subst hx
  have h := run_convert_bytes_back (P := Tryd.prog) (wr.alloc (.cells #[.int .u8 (48 + (d : Int))] 5)) 22 9 5 ⟨wr.heap.size, 0, none⟩ 1 [UInt8.ofNat (48 + d)] Tryd.underlying22 Tryd.underlying5 Tryd.underlying9 (by
    intro j hj
    match j, hj with
    | 0, _ =>
      have e : (((UInt8.ofNat (48 + d)).toNat : Nat) : Int) = 48 + (d : Int) := by rw [UInt8.toNat_ofNat']; omega
      simp only [List.getElem_cons_zero]
      rw [e]
      simp [Addr.add])
  exact h

set_option maxRecDepth 20000 in
set_option maxHeartbeats 400000 in
theorem specDigPos (K : Nat) (w : World) (h0 : 0 < K) (hk : K ≤ 9223372036854775807) :
    Calls Tryd.prog 41 #[.int .i64 K] w fun e w' => e = .returned (.string ⟨(dec 20 K).toArray⟩) ∧ Below w.heap.size w w' := by
  go_enter Tryd.func41, Tryd.ntmps41
  go_wp2
  go_loopw [0, 4] (fun x s wr => ∃ (m : Nat) (l : List UInt8), x = .int .i64 m ∧ m ≤ 9223372036854775807 ∧ Hid (DecPart K m l) ∧ s = .string ⟨l.toArray⟩ ∧ Below w.heap.size w wr) (fun x _ _ => (intOf x).toNat)
  case atStart => exact ⟨K, [], rfl, hk, DecPart.start K (by omega), rfl, Below.refl _ _⟩
  case round =>
    obtain ⟨m, l, rfl, hm, HP, rfl, hbel⟩ := hrel
    have hll := HP.out.len
    by_cases hm0 : 0 < m
    · have hcv' := conv1 wr (48 + (m : Int) % 10) (m % 10) (by omega) (by omega)
      have hbel' : Below w.heap.size w (wr.alloc (.cells #[.int .u8 (48 + (m : Int) % 10)] 5)) := hbel.alloc hbel.size _
      have HP' : Hid (DecPart K (m / 10) (UInt8.ofNat (48 + m % 10) :: l)) := HP.out.step hm0
      generalize UInt8.ofNat (48 + m % 10) = d at *
      go_wp2
      go_roundw
      case rel => exact ⟨m / 10, d :: l, by go_num, by omega, HP', by rw [dstr_cons d l], hbel'⟩
      case measure => simp [intOf]; omega
    · go_wp2
      go_ret
      refine ⟨?_, hbel⟩
      obtain rfl : m = 0 := by omega
      rw [← HP.out.last]
      rfl

end Go.Proofs.YtogpgocldgdeaaaDoor
