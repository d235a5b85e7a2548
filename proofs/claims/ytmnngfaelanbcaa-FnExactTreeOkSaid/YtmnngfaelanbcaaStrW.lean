/-
  Own text: the laws' helpers over rows of texts: alike, marked, still marked.
-/
import Derived.Test.YtmnngfaelanbcaaRows
import Derived.Test.YtmnngfaelanbcaaStrBase
namespace Go.Proofs.Ytmnngfaelanbcaa
open Go.RowKit

theorem str_cons (d : UInt8) (l : List UInt8) : (⟨#[d]⟩ ++ ⟨l.toArray⟩ : ByteArray) = ⟨(d :: l).toArray⟩ := by
  have := ByteArray.mk_append_mk (x := [d]) (y := l)
  simpa using this
theorem ret_str {a b : List UInt8} (h : a = b) : Ending.returned (.string ⟨a.toArray⟩) = .returned (.string ⟨b.toArray⟩) := by rw [h]

set_option maxRecDepth 20000 in
set_option maxHeartbeats 400000 in
theorem markT (k : Nat) (w : World) (hk : k ≤ 4294967296) :
    Calls Try.prog 39 #[.int .i64 k] w fun e w' => e = .returned (.string (markS k)) ∧ Below w.heap.size w w' := by
  by_cases h0 : k = 0
  · subst h0
    go_enter Try.func39, Try.ntmps39
    go_wp2
    go_ret
    exact ⟨rfl, Below.refl _ _⟩
  · have HM : Hid (markS k = ⟨(109 :: dec 20 k).toArray⟩) := by show _ = _; unfold markS; rw [if_neg h0]
    go_enter Try.func39, Try.ntmps39
    go_wp2
    go_loopw [0, 3] (fun x s wr => ∃ (m : Nat) (l : List UInt8), x = .int .i64 m ∧ m ≤ 4294967296 ∧ Hid (DecPart k m l) ∧ s = .string ⟨l.toArray⟩ ∧ Below w.heap.size w wr) (fun x _ _ => (intOf x).toNat)
    case atStart => exact ⟨k, [], rfl, hk, DecPart.start k (by omega), rfl, Below.refl _ _⟩
    case round =>
      obtain ⟨m, l, rfl, hm, HP, rfl, hbel⟩ := hrel
      have hll := HP.out.len
      by_cases hm0 : 0 < m
      · have hcv := run_convert_bytes_back (P := Try.prog) (wr.alloc (.cells #[.int .u8 (48 + (m : Int) % 10)] 5)) 69 9 5 ⟨wr.heap.size, 0, none⟩ 1 [UInt8.ofNat (48 + m % 10)] Try.underlying69 Try.underlying5 Try.underlying9 (by
          intro j hj
          match j, hj with
          | 0, _ =>
            have e : (((UInt8.ofNat (48 + m % 10)).toNat : Nat) : Int) = 48 + (m : Int) % 10 := by rw [UInt8.toNat_ofNat']; omega
            simp only [List.getElem_cons_zero]
            rw [e]
            simp [Addr.add])
        have hcv' : (convert 69 9 (.slice (some ⟨wr.heap.size, 0, none⟩) 1 1)).run Try.prog (wr.alloc (.cells #[.int .u8 (48 + (m : Int) % 10)] 5)) = .ok (.string ⟨[UInt8.ofNat (48 + m % 10)].toArray⟩) (wr.alloc (.cells #[.int .u8 (48 + (m : Int) % 10)] 5)) := hcv
        clear hcv
        have hbel' : Below w.heap.size w (wr.alloc (.cells #[.int .u8 (48 + (m : Int) % 10)] 5)) := hbel.alloc hbel.size _
        have HP' : Hid (DecPart k (m / 10) (UInt8.ofNat (48 + m % 10) :: l)) := HP.out.step hm0
        generalize UInt8.ofNat (48 + m % 10) = d at *
        go_wp2
        go_roundw
        case rel => exact ⟨m / 10, d :: l, by go_num, by omega, HP', by rw [str_cons d l], hbel'⟩
        case measure => simp [intOf]; omega
      · go_wp2
        go_ret
        refine ⟨?_, hbel⟩
        obtain rfl : m = 0 := by omega
        rw [HM.out, ← HP.out.last, str_cons 109 l]
        rfl

set_option maxRecDepth 20000 in
set_option maxHeartbeats 400000 in
theorem eqS (a c : Option Addr) (ca cc : Nat) (l : List ByteArray) (w : World) (hl : l.length ≤ 4194304) (hr : RdS w a l) (hs : RdS w c l) :
    Calls Try.prog 17 #[.slice a l.length ca, .slice c l.length cc] w fun e w' => e = .returned (.bool true) ∧ Below w.heap.size w w' := by
  have HCS : Hid (∀ k (h : k < l.length), ∃ b off, a = some ⟨b, off, none⟩ ∧ b < w.heap.size ∧ w.cell? ⟨b, off + k, none⟩ = some (.string l[k])) := by
    intro k hk
    rcases hr with rfl | ⟨b, off, rfl, hlt, hc⟩
    · simp at hk
    · exact ⟨b, off, rfl, hlt, hc k hk⟩
  have HDS : Hid (∀ k (h : k < l.length), ∃ b off, c = some ⟨b, off, none⟩ ∧ b < w.heap.size ∧ w.cell? ⟨b, off + k, none⟩ = some (.string l[k])) := by
    intro k hk
    rcases hs with rfl | ⟨b, off, rfl, hlt, hc⟩
    · simp at hk
    · exact ⟨b, off, rfl, hlt, hc k hk⟩
  clear hr hs
  go_enter Try.func17, Try.ntmps17
  go_wp2
  go_loopw [5] (fun i wr => ∃ k : Nat, k ≤ l.length ∧ i = .int .i64 k ∧ Below w.heap.size w wr) (fun i _ => l.length - (intOf i).toNat)
  case atStart => exact ⟨0, Nat.zero_le _, rfl, Below.refl _ _⟩
  case round =>
    obtain ⟨k, hk, rfl, hbel⟩ := hrel
    by_cases hlt : k < l.length
    · obtain ⟨b, off, rfl, hblt, hcell⟩ := HCS.out k hlt
      obtain ⟨d, off2, rfl, hdlt, hcell2⟩ := HDS.out k hlt
      have hcr : wr.cell? ⟨b, off + k, none⟩ = some (.string l[k]) := (hbel.cell hblt).trans hcell
      have hdr : wr.cell? ⟨d, off2 + k, none⟩ = some (.string l[k]) := (hbel.cell hdlt).trans hcell2
      generalize l[k] = z at *
      clear hcell hcell2
      go_wp2
      go_region
      all_goals (go_wp2)
      all_goals go_roundw
      case rel => exact ⟨k + 1, by omega, by go_num, hbel.drew⟩
      case measure => simp [intOf]; omega
    · go_wp2
      go_ret
      exact ⟨rfl, hbel⟩

set_option maxRecDepth 20000 in
set_option maxHeartbeats 400000 in
theorem markStr (v : Value) (n k base : Nat) (l : List ByteArray) (w : World) (hn : n ≤ 2147483648) (hk : k ≤ 2147483648) (hb : base ≤ w.heap.size) (hown : w.ownsRow base 9 1 v n (l.map Value.string)) :
    Calls Try.prog 19 #[v, .int .i64 k] w fun e w' => e = .returned (.int .i64 ((k + n : Nat) : Int)) ∧ w'.ownsRow base 9 1 v n ((marksS k n).map Value.string) ∧ Below base w w' := by
  have hl : l.length = n := by have := hown.1; simpa using this
  rcases hown.2 with ⟨rfl, rfl⟩ | ⟨g, cap, cur, rfl, hbg, hrest⟩
  · go_enter Try.func19, Try.ntmps19
    go_wp2
    go_loop [1, 5] (fun x i => x = .int .i64 k ∧ i = .int .i64 0) (fun _ _ => 0)
    case atStart => exact ⟨rfl, rfl⟩
    case round =>
      obtain ⟨rfl, rfl⟩ := hrel
      go_wp2
      go_ret
      exact ⟨by simp, World.ownsRow_nil _ _ _ _, Below.refl _ _⟩
  · clear hrest
    subst hl
    go_enter Try.func19, Try.ntmps19
    go_wp2
    go_loopw [1, 5] (fun x i wr => ∃ j : Nat, j ≤ l.length ∧ x = .int .i64 ((k + j : Nat) : Int) ∧ i = .int .i64 j ∧ wr.ownsRow base 9 1 (.slice (some ⟨g, 0, none⟩) l.length cap) l.length ((markToS l k j).map Value.string) ∧ Below base w wr) (fun _ i _ => l.length - (intOf i).toNat)
    case atStart => exact ⟨0, Nat.zero_le _, by simp, rfl, by rw [markToS_zero]; exact hown, Below.refl _ _⟩
    case round =>
      obtain ⟨j, hj, rfl, rfl, ho, hbel⟩ := hrel
      by_cases hlt : j < l.length
      · clear hown
        go_wp2_with fail
        refine (markT (k + j) _ (by omega)).mono ?_
        rintro e w1 ⟨rfl, hb1⟩
        have ho1 := ownsRow_below ho hb1 (Nat.le_refl _)
        have hbel1 : Below base w w1 := hbel.trans (hb1.mono (by have := hbel.size; omega))
        clear ho hbel hb1
        have hfz := ho1.frozenAt j
        have hce : w1.cell? ⟨g, j, none⟩ = some (.string ((markToS l k j).getD j ⟨#[]⟩)) := by
          rw [ho1.cellAt j (by omega)]
          have := markToS_len l k j hj
          simp [List.getD, show j < (markToS l k j).length by omega]
        generalize (markToS l k j).getD j ⟨#[]⟩ = old at hce
        have hst := (ho1.stored j (.string (markS (k + j)))).1
        rw [← List.map_set, markToS_set l k j hlt] at hst
        have hb2 : Below base w (w1.setCell ⟨g, j, none⟩ (.string (markS (k + j)))) := hbel1.setCell hbg _
        generalize markS (k + j) = ms at *
        go_wp2
        go_roundw
        case rel => exact ⟨j + 1, by omega, by go_num, by go_num, hst, hb2⟩
        case measure => simp [intOf]; omega
      · obtain rfl : j = l.length := by omega
        go_wp2
        go_ret
        exact ⟨by simp, by rw [← markToS_all]; exact ho, hbel⟩
end Go.Proofs.Ytmnngfaelanbcaa
