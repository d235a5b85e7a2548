/-
  Own text: the bits of blocks, as the program keeps them.
-/
import Derived.Test.YtioecnfgliponaaFsL
import Derived.Test.YtioecnfgliponaaINodeW
namespace Go.Proofs.Ytioecnfgliponaa
open Go.RowKit

def bitV (L : List Int) : Array Value := ((bitsB L 5).map (Value.int .u8)).toArray
theorem bitV_at (L : List Int) {q : Nat} (h : q < 5) : (bitV L)[q]? = some (.int .u8 (byteAt L q : Int)) := by
  unfold bitV
  simp [bitsB, h]
theorem bitV_set (L : List Int) {k : Nat} (hk : k < 40) (h : (k : Int) ∉ L) : (bitV L).setIfInBounds (k / 8) (.int .u8 ((byteAt L (k / 8) + 2 ^ (k % 8) : Nat) : Int)) = bitV (L ++ [(k : Int)]) := by
  unfold bitV
  rw [← bitsB_add L (m := 5) (k := k) (by omega) h, List.map_set]
  simp
theorem tdiv8 (k : Nat) : (k : Int).tdiv 8 = ((k / 8 : Nat) : Int) := by rw [Int.tdiv_eq_ediv_of_nonneg (by omega)]; omega
theorem tmod8 (k : Nat) : (k : Int).tmod 8 = ((k % 8 : Nat) : Int) := by rw [Int.tmod_eq_emod_of_nonneg (by omega)]; omega
theorem and_one : ∀ a : Fin 256, bits .and .u8 (a.val : Int) 1 = ((a.val % 2 : Nat) : Int) := by decide +kernel
theorem or_bit : ∀ a : Fin 256, ∀ r : Fin 8, a.val / 2 ^ r.val % 2 = 0 → bits .or .u8 (a.val : Int) ((2 ^ r.val : Nat) : Int) = ((a.val + 2 ^ r.val : Nat) : Int) := by decide +kernel

set_option maxRecDepth 20000 in
theorem bitHas (P k : Nat) (L : List Int) (w : World) (hk : k < 40) (hV : Var w P (bitV L) 88) :
    Calls Try.prog 80 #[.pointer (some ⟨P, 0, none⟩), .int .i64 (k : Nat)] w fun e w' => e = .returned (.bool (decide ((k : Int) ∈ L))) ∧ w' = w := by
  have h1 := tdiv8 k
  have h2 := tmod8 k
  have hc : w.cell? ⟨P, k / 8, none⟩ = some (.int .u8 (byteAt L (k / 8) : Int)) := (hV.cell (k / 8)).trans (bitV_at L (by omega))
  have hb := byteAt_lt L (k / 8)
  have HQ : Hid ((bits .and .u8 ((byteAt L (k / 8) : Int) / 2 ^ (k % 8)) 1 == 1) = decide ((k : Int) ∈ L)) := by
    have hlt : byteAt L (k / 8) / 2 ^ (k % 8) < 256 := Nat.lt_of_le_of_lt (Nat.div_le_self _ _) hb
    have h3 := and_one ⟨_, hlt⟩
    have h4 : ((byteAt L (k / 8) / 2 ^ (k % 8) : Nat) : Int) = (byteAt L (k / 8) : Int) / 2 ^ (k % 8) := by simp
    show _ = _
    rw [← h4, h3, byteAt_bit L _ _ (by omega), show 8 * (k / 8) + k % 8 = k by omega]
    unfold memB
    split <;> simp_all
  clear hV
  go_enter Try.func80, Try.ntmps80
  go_wp2
  go_ret
  exact ⟨by rw [← HQ.out]; rfl, rfl⟩

set_option maxRecDepth 20000 in
theorem bitSet (P k : Nat) (L : List Int) (w : World) (hk : k < 40) (hn : (k : Int) ∉ L) (hV : Var w P (bitV L) 88) :
    Calls Try.prog 81 #[.pointer (some ⟨P, 0, none⟩), .int .i64 (k : Nat)] w fun e w' => e = .returned (.tuple #[]) ∧ Var w' P (bitV (L ++ [(k : Int)])) 88 ∧ Only (fun j => j = P) w w' := by
  have h1 := tdiv8 k
  have h2 := tmod8 k
  have hc : w.cell? ⟨P, k / 8, none⟩ = some (.int .u8 (byteAt L (k / 8) : Int)) := (hV.cell (k / 8)).trans (bitV_at L (by omega))
  have hb := byteAt_lt L (k / 8)
  have hf := hV.frozen (k / 8)
  have hp8 : (2 : Int) ^ (k % 8) % 256 = ((2 ^ (k % 8) : Nat) : Int) := by
    have : ∀ r : Fin 8, (2 : Int) ^ r.val % 256 = ((2 ^ r.val : Nat) : Int) := by decide +kernel
    exact this ⟨k % 8, by omega⟩
  have hor : bits .or .u8 (byteAt L (k / 8) : Int) (2 ^ (k % 8) % 256) = ((byteAt L (k / 8) + 2 ^ (k % 8) : Nat) : Int) := by
    rw [hp8]
    have h3 := or_bit ⟨_, hb⟩ ⟨k % 8, by omega⟩ (by show byteAt L (k / 8) / 2 ^ (k % 8) % 2 = 0; rw [byteAt_bit L _ _ (by omega), show 8 * (k / 8) + k % 8 = k by omega]; exact memB_no.2 hn)
    exact h3
  clear hp8
  have HV : Hid (Var w P (bitV L) 88) := hV
  clear hV
  go_enter Try.func81, Try.ntmps81
  go_region
  go_end0
  have h3 := HV.out.set (k / 8) (.int .u8 ((byteAt L (k / 8) + 2 ^ (k % 8) : Nat) : Int))
  rw [bitV_set L hk hn] at h3
  simp only [Int.natCast_add, Int.natCast_pow, Int.cast_ofNat_Int] at h3
  exact ⟨rfl, h3, (Only.setCell (S := fun j => j = P) (Only.refl _ _) (p := ⟨P, k / 8, none⟩) rfl _).trans ⟨rfl, rfl, rfl, Nat.le_refl _, fun _ _ _ => rfl⟩⟩
theorem only_new {S : Nat → Prop} {w w1 w2 : World} (h : Only S w w1) (hb : Below w1.heap.size w1 w2) : Only S w w2 := h.trans (Only.of_new hb)

/-- What is known while bits are set, one block behind the other. -/
def seenB (b : List Int) (L : List Int) (k : Nat) : Prop := ∀ j x, j < k → b[j]? = some x → x ∉ L ++ b.take j
def AddAns (P : Nat) (b L : List Int) (w : World) (e : Ending) (w' : World) : Prop :=
  ∃ q : Bool, e = .returned (.bool q) ∧ (q = true ↔ seenB b L b.length) ∧ (q = true → Var w' P (bitV (L ++ b)) 88) ∧ Only (fun j => j = P) w w'
set_option maxRecDepth 20000 in
set_option maxHeartbeats 1000000 in
theorem bitAdd (P : Nat) (a : Option Addr) (cap : Nat) (b L : List Int) (w : World) (hl : b.length ≤ 5) (hb : ∀ x ∈ b, 0 ≤ x ∧ x ≤ 35) (hr : Rd .i64 w a b) (hne : ∀ q off, a = some ⟨q, off, none⟩ → b ≠ [] → q ≠ P) (hV : Var w P (bitV L) 88) :
    Calls Try.prog 67 #[.pointer (some ⟨P, 0, none⟩), .slice a b.length cap] w fun e w' => AddAns P b L w e w' := by
  have HCS : Hid (∀ k (hk : k < b.length), ∃ g off, a = some ⟨g, off, none⟩ ∧ g < w.heap.size ∧ g ≠ P ∧ w.cell? ⟨g, off + k, none⟩ = some (.int .i64 b[k])) := by
    intro k hk
    obtain ⟨g, off, rfl, h1, hc⟩ := hr.cellI k hk
    exact ⟨g, off, rfl, h1, hne g off rfl (fun e => by rw [e] at hk; simp at hk), hc⟩
  have HBD : Hid (∀ k (hk : k < b.length), 0 ≤ b[k] ∧ b[k] ≤ 35) := fun k hk => hb _ (List.getElem_mem hk)
  clear hr hne hb
  go_enter Try.func67, Try.ntmps67
  go_wp2
  go_loopw [6, 9] (fun _ i wr => ∃ k : Nat, k ≤ b.length ∧ i = .int .i64 k ∧ Hid (seenB b L k) ∧ Hid (Var wr P (bitV (L ++ b.take k)) 88) ∧ Only (fun j => j = P) w wr) (fun _ i _ => b.length - (intOf i).toNat)
  case atStart => exact ⟨0, Nat.zero_le _, rfl, fun j x h => by omega, by show Var _ _ _ _; simpa using hV, Only.refl _ _⟩
  case round =>
    obtain ⟨k, hk, rfl, HN, HV, hO⟩ := hrel
    by_cases hlt : k < b.length
    · obtain ⟨g, off, rfl, hg, hgp, hc⟩ := HCS.out k hlt
      have hcr : wr.cell? ⟨g, off + k, none⟩ = some (.int .i64 b[k]) := (hO.cell (p := ⟨g, off + k, none⟩) hg hgp).trans hc
      obtain ⟨x0, x35⟩ := HBD.out k hlt
      obtain ⟨m, hm⟩ := Int.eq_ofNat_of_zero_le x0
      have HT : Hid (b.take (k + 1) = b.take k ++ [(m : Int)]) := by show _ = _; rw [List.take_succ_eq_append_getElem hlt, hm]
      have HX : Hid (b[k]? = some (m : Int)) := by show _ = _; rw [List.getElem?_eq_getElem hlt, hm]
      have hm40 : m < 40 := by omega
      rw [hm] at hcr
      clear hc x0 x35 hm
      by_cases hin : (m : Int) ∈ L ++ b.take k
      · have HF : Hid (¬ seenB b L b.length) := fun h => h k _ hlt HX.out hin
        have HH := bitHas P m (L ++ b.take k) wr hm40 HV.out
        rw [decide_eq_true hin] at HH
        have HH2 : Hid (Calls Try.prog 80 #[.pointer (some ⟨P, 0, none⟩), .int .i64 (m : Nat)] wr fun e w' => e = .returned (.bool true) ∧ w' = wr) := HH
        clear HH hin
        go_wp2_with fail
        refine HH2.out.mono ?_
        rintro e w1 ⟨rfl, hw1⟩
        subst w1
        go_wp2
        go_ret
        exact ⟨false, rfl, ⟨fun h => absurd h (by decide), fun h => absurd h HF.out⟩, fun h => absurd h (by decide), hO⟩
      · have HH := bitHas P m (L ++ b.take k) wr hm40 HV.out
        rw [decide_eq_false hin] at HH
        have HH2 : Hid (Calls Try.prog 80 #[.pointer (some ⟨P, 0, none⟩), .int .i64 (m : Nat)] wr fun e w' => e = .returned (.bool false) ∧ w' = wr) := HH
        have HS : Hid (Calls Try.prog 81 #[.pointer (some ⟨P, 0, none⟩), .int .i64 (m : Nat)] wr fun e w' => e = .returned (.tuple #[]) ∧ Var w' P (bitV ((L ++ b.take k) ++ [(m : Int)])) 88 ∧ Only (fun j => j = P) wr w') := bitSet P m _ wr hm40 hin HV.out
        have HN2 : Hid (seenB b L (k + 1)) := by
          intro j x hj hx
          by_cases e : j = k
          · subst e
            rw [HX.out] at hx
            injection hx with hx
            rw [← hx]; exact hin
          · exact HN.out j x (by omega) hx
        clear HH hin HN
        go_wp2_with fail
        refine HH2.out.mono ?_
        rintro e w1 ⟨rfl, hw1⟩
        subst w1
        go_wp2_with fail
        refine HS.out.mono ?_
        rintro e w1 ⟨rfl, hV1, hO1⟩
        have HV1 : Hid (Var w1 P (bitV (L ++ b.take (k + 1))) 88) := by show Var _ _ _ _; rw [HT.out, ← List.append_assoc]; exact hV1
        have hO2 := hO.trans hO1
        clear hV1 hO hO1
        go_wp2
        go_roundw
        case rel => exact ⟨k + 1, by omega, by go_num, HN2, HV1, hO2⟩
        case measure => simp [intOf]; omega
    · obtain rfl : k = b.length := by omega
      have HV2 : Hid (Var wr P (bitV (L ++ b)) 88) := by have := HV.out; rwa [List.take_length] at this
      go_wp2
      go_ret
      exact ⟨true, rfl, ⟨fun _ => HN.out, fun _ => rfl⟩, fun _ => HV2.out, hO⟩
end Go.Proofs.Ytioecnfgliponaa
