/-
  Own text: the laws' helpers over rows of texts: alike, marked, still marked.
-/
import Derived.Test.YtogpgocldgdeaaaDoorRows
import Derived.Test.YtogpgocldgdeaaaDoorStrBase
namespace Go.Proofs.YtogpgocldgdeaaaDoor
open Go.RowKit

theorem str_cons (d : UInt8) (l : List UInt8) : (⟨#[d]⟩ ++ ⟨l.toArray⟩ : ByteArray) = ⟨(d :: l).toArray⟩ := by
  have := ByteArray.mk_append_mk (x := [d]) (y := l)
  simpa using this
theorem ret_str {a b : List UInt8} (h : a = b) : Ending.returned (.string ⟨a.toArray⟩) = .returned (.string ⟨b.toArray⟩) := by rw [h]

set_option maxRecDepth 20000 in
set_option maxHeartbeats 400000 in
theorem markT (k : Nat) (w : World) (hk : k ≤ 4294967296) :
    Calls Tryd.prog 39 #[.int .i64 k] w fun e w' => e = .returned (.string (markS k)) ∧ Below w.heap.size w w' := by
  by_cases h0 : k = 0
  · subst h0
    go_enter Tryd.func39, Tryd.ntmps39
    go_wp2
    go_ret
    exact ⟨rfl, Below.refl _ _⟩
  · have HM : Hid (markS k = ⟨(109 :: dec 20 k).toArray⟩) := by show _ = _; unfold markS; rw [if_neg h0]
    go_enter Tryd.func39, Tryd.ntmps39
    go_wp2
    go_loopw [0, 3] (fun x s wr => ∃ (m : Nat) (l : List UInt8), x = .int .i64 m ∧ m ≤ 4294967296 ∧ Hid (DecPart k m l) ∧ s = .string ⟨l.toArray⟩ ∧ Below w.heap.size w wr) (fun x _ _ => (intOf x).toNat)
    case atStart => exact ⟨k, [], rfl, hk, DecPart.start k (by omega), rfl, Below.refl _ _⟩
    case round =>
      obtain ⟨m, l, rfl, hm, HP, rfl, hbel⟩ := hrel
      have hll := HP.out.len
      by_cases hm0 : 0 < m
      · have hcv := run_convert_bytes_back (P := Tryd.prog) (wr.alloc (.cells #[.int .u8 (48 + (m : Int) % 10)] 5)) 22 9 5 ⟨wr.heap.size, 0, none⟩ 1 [UInt8.ofNat (48 + m % 10)] Tryd.underlying22 Tryd.underlying5 Tryd.underlying9 (by
          intro j hj
          match j, hj with
          | 0, _ =>
            have e : (((UInt8.ofNat (48 + m % 10)).toNat : Nat) : Int) = 48 + (m : Int) % 10 := by rw [UInt8.toNat_ofNat']; omega
            simp only [List.getElem_cons_zero]
            rw [e]
            simp [Addr.add])
        have hcv' : (convert 22 9 (.slice (some ⟨wr.heap.size, 0, none⟩) 1 1)).run Tryd.prog (wr.alloc (.cells #[.int .u8 (48 + (m : Int) % 10)] 5)) = .ok (.string ⟨[UInt8.ofNat (48 + m % 10)].toArray⟩) (wr.alloc (.cells #[.int .u8 (48 + (m : Int) % 10)] 5)) := hcv
        clear hcv
        have hbel' : Below w.heap.size w (wr.alloc (.cells #[.int .u8 (48 + (m : Int) % 10)] 5)) := hbel.alloc hbel.size _
        have HP' : Hid (DecPart k (m / 10) (UInt8.ofNat (48 + m % 10) :: l)) := HP.out.step hm0
        generalize UInt8.ofNat (48 + m % 10) = d at *
        go_wp2
        go_roundw
        case rel => exact ⟨m / 10, d :: l, by go_num, by omega, HP', by rw [str_cons d l], hbel'⟩
        case measure => simp [intOf]; omega
      · go_wp2
        go_ret
        refine ⟨?_, hbel⟩
        obtain rfl : m = 0 := by omega
        rw [HM.out, ← HP.out.last, str_cons 109 l]
        rfl

end Go.Proofs.YtogpgocldgdeaaaDoor
