/-
  Own texts, several together.
-/
import Derived.Test.YtaabcfgjmankgaaDoorRows
import Derived.Test.YtaabcfgjmankgaaDoorBase
import Derived.LaidMore
import Derived.Stop.Joined
import Derived.Stop.LaidErr
import Derived.Test.YtaabcfgjmankgaaDoorNumW
import Derived.Test.YtaabcfgjmankgaaDoorGetBase
import Derived.WalkLawsBesides
import Derived.Laws.IdiomStrings
import Derived.Deep.RegionWith
import Derived.Lib.BufferRead
import Derived.Defers
import Derived.Recover
/-
  Own text: what the row's list gives of the program's own error variable: it holds an error that is not nil.
-/
namespace Go.Proofs.YtaabcfgjmankgaaDoor
open Go.RowKit
def errG : Nat := 0
theorem gErr : Tryd.prog.globalNamed "loop.example/g00483/impl.errNoNum" = some errG := by kernel_rfl
theorem tErr : (Tryd.prog.globals[errG]?).map (·.type) = some 79 := by kernel_rfl
theorem nErr : Tryd.prog.typeName? 3 81 = some "*errors.errorString" := by kernel_rfl
theorem starErr : "*" ++ "errors.errorString" = "*errors.errorString" := by decide
theorem rowErr (u : TypeId) (h : Tryd.prog.typeName? 3 u = some "*errors.errorString") : u = 81 :=
  typeName_ptr_named (nm := "errors.errorString") (by rw [starErr]; kernel_rfl) (by kernel_rfl) (by decide) u (by rw [starErr]; exact h)
theorem errVar (l : List (String × DataW Unit)) {W : World} (hl : l = [("loop.example/g00483/impl.errNoNum", Rows.laid_loop_example_g00483_impl_errNoNum)]) (h : laidMetH Tryd.prog l W) :
    ∃ a : Addr, W.var? Tryd.prog "loop.example/g00483/impl.errNoNum" = some #[.iface 81 (.pointer (some a))] := by
  subst hl
  rw [MakeChecks.laidMetH_plain _ _ _ (by kernel_rfl)] at h
  obtain ⟨a, s, hv, _⟩ := laid_sentinel h gErr tErr Tryd.underlying79 rowErr Tryd.underlying81 Tryd.underlying98 rfl rfl Tryd.underlying9 (by kernel_rfl) (by kernel_rfl)
  exact ⟨a, hv⟩
end Go.Proofs.YtaabcfgjmankgaaDoor

/-
  Own text: where the number ends that begins at a place; a panic with the program's own error, where it does not.
-/
namespace Go.Proofs.YtaabcfgjmankgaaDoor
open Go.RowKit

/-- The panic that is meant to be recovered. -/
def thePanic (a : Addr) : Ending := .panicked [{ v := .iface 81 (.pointer (some a)), recovered := false }]

theorem max_len : (putNum 2147483647).length = 5 := by decide

set_option maxRecDepth 20000 in
set_option maxHeartbeats 400000 in
theorem endOut (x : Option Addr) (cap len : Nat) (at' : Int) (a : Addr) (w : World) (h : at' < 0 ∨ (len : Int) ≤ at') (hg : w.cell? ⟨errG, 0, none⟩ = some (.iface 81 (.pointer (some a)))) :
    Calls Tryd.prog 66 #[.slice x len cap, .int .i64 at'] w fun e w' => e = thePanic a ∧ w' = w := by
  unfold errG at hg
  unfold thePanic
  by_cases hn : at' < 0
  · go_enter Tryd.func66, Tryd.ntmps66
    go_wp2
    exact ⟨rfl, rfl, rfl⟩
  · have hge : (len : Int) ≤ at' := by omega
    clear h
    go_enter Tryd.func66, Tryd.ntmps66
    go_wp2
    exact ⟨rfl, rfl, rfl⟩

theorem noStop {l : List Int} {p M : Nat} (hM : M = 5 ∨ p + M = l.length) (hall : ∀ j, j < M → 128 ≤ l.getD (p + j) 0) : ∀ k, ¬ Stop l p k := by
  rintro k ⟨h1, h2, h3, _⟩
  have := hall k (by omega)
  omega

set_option maxRecDepth 20000 in
set_option maxHeartbeats 400000 in
theorem endIn (b off cap : Nat) (l : List Int) (p : Nat) (a : Addr) (w : World) (hl : l.length ≤ 1048581) (hu : U8 l) (hcap : l.length ≤ cap) (hm : cap ≤ maxLen) (hp : p < l.length) (hb : b < w.heap.size)
    (hc : ∀ i, i < l.length → w.cell? ⟨b, off + i, none⟩ = some (.int .u8 (l.getD i 0))) (hgl : errG < w.heap.size) (hg : w.cell? ⟨errG, 0, none⟩ = some (.iface 81 (.pointer (some a)))) :
    Calls Tryd.prog 66 #[.slice (some ⟨b, off, none⟩) l.length cap, .int .i64 p] w fun e w' => ((∃ k, Stop l p k ∧ e = .returned (.int .i64 ((p + k + 1 : Nat) : Int))) ∨ ((∀ k, ¬ Stop l p k) ∧ e = thePanic a)) ∧ Below w.heap.size w w' := by
  unfold maxLen at hm
  have hml := max_len
  have HC : Hid (∀ i, i < l.length → w.cell? ⟨b, off + i, none⟩ = some (.int .u8 (l.getD i 0))) := hc
  have HG : Hid (w.cell? ⟨errG, 0, none⟩ = some (.iface 81 (.pointer (some a)))) := hg
  have HU : Hid (U8 l) := hu
  clear hc hg hu
  have hpn : ¬ ((p : Int) < 0) := by omega
  by_cases hbig : l.length ≤ p + 5
  · have hge : (l.length : Int) ≤ (p : Int) + 5 := by omega
    obtain ⟨M, hM⟩ : ∃ M, l.length = p + M := ⟨l.length - p, by omega⟩
    have HM : Hid (l.length = p + M) := hM
    have e1 : l.length - p = M := by omega
    have hM5 : M ≤ 5 := by omega
    clear hM
    go_enter Tryd.func66, Tryd.ntmps66
    go_wp2_with (go_at_call 44; refine (implPutNum 2147483647 _).mono ?_; rintro e w1 ⟨v1, rfl, ho1, hb1⟩; obtain ⟨a1, c1, rfl, hn1, hr1⟩ := own_rd ho1)
    clear ho1 hr1 hn1 e1
    go_loop [27] (fun i => ∃ k : Nat, k ≤ M ∧ i = .int .i64 k ∧ Hid (∀ j, j < k → 128 ≤ l.getD (p + j) 0)) (fun i => M - (intOf i).toNat)
    case atStart => exact ⟨0, Nat.zero_le _, rfl, fun j hj => by omega⟩
    case round =>
      obtain ⟨k, hk, rfl, HA⟩ := hrel
      by_cases hkM : k < M
      · have hcell : w1.cell? ⟨b, off + p + k, none⟩ = some (.int .u8 (l.getD (p + k) 0)) := by
          rw [hb1.cell (by exact hb), Nat.add_assoc]; exact HC.out (p + k) (by have := HM.out; omega)
        have hub := HU.out.at (p + k)
        have HD : Hid (∀ d, d = l.getD (p + k) 0 → (d < 128 → Stop l p k) ∧ (128 ≤ d → ∀ j, j < k + 1 → 128 ≤ l.getD (p + j) 0)) := by
          rintro d rfl
          exact ⟨fun h => ⟨by omega, by have := HM.out; omega, h, HA.out⟩, fun h j hj => by
            rcases Nat.lt_succ_iff_lt_or_eq.1 hj with h' | h'
            · exact HA.out j h'
            · subst h'; exact h⟩
        generalize hd : l.getD (p + k) 0 = d at *
        have HD' := HD.out d rfl
        clear hd HD
        have H1 : Hid (d < 128 → Stop l p k) := HD'.1
        have H2 : Hid (128 ≤ d → ∀ j, j < k + 1 → 128 ≤ l.getD (p + j) 0) := HD'.2
        clear HD' HA
        by_cases hlow : d < 128
        · go_wp2
          go_ret
          exact ⟨.inl ⟨k, H1.out hlow, by go_num⟩, hb1⟩
        · go_wp2
          go_round
          case rel => exact ⟨k + 1, by omega, by go_num, H2.out (by omega)⟩
          case measure => simp [intOf]; omega
      · obtain rfl : k = M := by omega
        have hge2 : w1.cell? ⟨errG, 0, none⟩ = some (.iface 81 (.pointer (some a))) := (hb1.cell (by exact hgl)).trans HG.out
        unfold errG at hge2
        go_wp2
        exact ⟨rfl, .inr ⟨noStop (.inr HM.out.symm) HA.out, rfl⟩, hb1⟩
  · have hge : (p : Int) + 5 < (l.length : Int) := by omega
    have e1 : ((p : Int) + 5).toNat - p = 5 := by omega
    go_enter Tryd.func66, Tryd.ntmps66
    go_wp2_with (go_at_call 44; refine (implPutNum 2147483647 _).mono ?_; rintro e w1 ⟨v1, rfl, ho1, hb1⟩; obtain ⟨a1, c1, rfl, hn1, hr1⟩ := own_rd ho1)
    clear ho1 hr1 hn1
    go_loop [27] (fun i => ∃ k : Nat, k ≤ 5 ∧ i = .int .i64 k ∧ Hid (∀ j, j < k → 128 ≤ l.getD (p + j) 0)) (fun i => 5 - (intOf i).toNat)
    case atStart => exact ⟨0, Nat.zero_le _, rfl, fun j hj => by omega⟩
    case round =>
      obtain ⟨k, hk, rfl, HA⟩ := hrel
      by_cases hkM : k < 5
      · have hcell : w1.cell? ⟨b, off + p + k, none⟩ = some (.int .u8 (l.getD (p + k) 0)) := by
          rw [hb1.cell (by exact hb), Nat.add_assoc]; exact HC.out (p + k) (by omega)
        have hub := HU.out.at (p + k)
        have HD : Hid (∀ d, d = l.getD (p + k) 0 → (d < 128 → Stop l p k) ∧ (128 ≤ d → ∀ j, j < k + 1 → 128 ≤ l.getD (p + j) 0)) := by
          rintro d rfl
          exact ⟨fun h => ⟨by omega, by omega, h, HA.out⟩, fun h j hj => by
            rcases Nat.lt_succ_iff_lt_or_eq.1 hj with h' | h'
            · exact HA.out j h'
            · subst h'; exact h⟩
        generalize hd : l.getD (p + k) 0 = d at *
        have HD' := HD.out d rfl
        clear hd HD
        have H1 : Hid (d < 128 → Stop l p k) := HD'.1
        have H2 : Hid (128 ≤ d → ∀ j, j < k + 1 → 128 ≤ l.getD (p + j) 0) := HD'.2
        clear HD' HA
        by_cases hlow : d < 128
        · go_wp2
          go_ret
          exact ⟨.inl ⟨k, H1.out hlow, by go_num⟩, hb1⟩
        · go_wp2
          go_round
          case rel => exact ⟨k + 1, by omega, by go_num, H2.out (by omega)⟩
          case measure => simp [intOf]; omega
      · obtain rfl : k = 5 := by omega
        have hge2 : w1.cell? ⟨errG, 0, none⟩ = some (.iface 81 (.pointer (some a))) := (hb1.cell (by exact hgl)).trans HG.out
        unfold errG at hge2
        go_wp2
        exact ⟨rfl, .inr ⟨noStop (.inl rfl) HA.out, rfl⟩, hb1⟩
end Go.Proofs.YtaabcfgjmankgaaDoor

/-
  Own text: the number at a place, read by the program: it is there as 'Good' says, or the program panics with its own error.
-/
namespace Go.Proofs.YtaabcfgjmankgaaDoor
open Go.RowKit

/-- The text of these bytes. -/
def bytesS (l : List Int) : ByteArray := ⟨(l.map fun x => UInt8.ofNat x.toNat).toArray⟩
theorem bytesS_inj {l m : List Int} (hl : U8 l) (hm : U8 m) (h : bytesS l = bytesS m) : l = m := by
  have h1 : (l.map fun x => UInt8.ofNat x.toNat) = (m.map fun x => UInt8.ofNat x.toNat) := by
    have := congrArg (fun b : ByteArray => b.data.toList) h
    simpa [bytesS] using this
  have key : ∀ a : List Int, U8 a → (a.map fun x => UInt8.ofNat x.toNat).map (fun u => (u.toNat : Int)) = a := by
    intro a ha
    rw [List.map_map]
    conv => rhs; rw [← List.map_id a]
    apply List.map_congr_left
    intro x hx
    have := ha x hx
    simp only [Function.comp_apply, id, UInt8.toNat_ofNat']
    omega
  have := congrArg (fun a : List UInt8 => a.map (fun u => (u.toNat : Int))) h1
  simpa only [key l hl, key m hm] using this

theorem str_ne {a b : ByteArray} (h : ¬ a = b) : (a.toList == b.toList) = false := by
  rw [beq_eq_false_iff_ne]
  intro e
  rw [ByteArray.toList_eq, ByteArray.toList_eq] at e
  exact h (Go.WideShapes.bytes_inj e)

theorem conv_rd {w : World} {b off cap : Nat} {l : List Int} (hu : U8 l) (hc : ∀ i, i < l.length → w.cell? ⟨b, off + i, none⟩ = some (.int .u8 (l.getD i 0))) :
    (convert 45 9 (.slice (some ⟨b, off, none⟩) l.length cap)).run Tryd.prog w = .ok (.string (bytesS l)) w := by
  have h := run_convert_bytes_back (P := Tryd.prog) w 45 9 5 ⟨b, off, none⟩ cap (l.map fun x => UInt8.ofNat x.toNat) Tryd.underlying45 Tryd.underlying5 Tryd.underlying9 (by
    intro j hj
    have hj' : j < l.length := by simpa using hj
    rw [Addr.add_lit, hc j hj']
    have hb := hu.at j
    simp only [List.getElem_map]
    have e : l.getD j 0 = l[j] := by simp [List.getD, hj']
    rw [e] at hb ⊢
    congr 2
    rw [UInt8.toNat_ofNat']; omega)
  simpa [bytesS] using h

theorem conv_ownN {w : World} {base n : Nat} {v : Value} {l : List Int} (hu : U8 l) (h : w.ownsRow base 5 1 v n (l.map (Value.int .u8))) :
    (convert 45 9 v).run Tryd.prog w = .ok (.string (bytesS l)) w := by
  have hl : l.length = n := by have := h.1; simpa using this
  rcases h.2 with ⟨rfl, h0⟩ | ⟨g, cap, cur, rfl, _⟩
  · subst h0
    obtain rfl : l = [] := List.eq_nil_of_length_eq_zero hl
    have := Lib.run_convert_nil_bytes (P := Tryd.prog) w 45 9 5 0 Tryd.underlying45 Tryd.underlying5 Tryd.underlying9
    simpa [bytesS] using this
  · subst hl
    have hr := Rd.own h
    rcases hr with rfl | ⟨b, off, he, _, hc⟩
    · exact conv_rd hu (fun i hi => by simp at hi)
    · simp only [Option.some.injEq, Addr.mk.injEq, and_true] at he
      obtain ⟨rfl, rfl⟩ := he
      exact conv_rd hu hc

theorem valL_lt (l : List Int) : valL l < 128 ^ l.length := by
  induction l with
  | nil => simp [valL]
  | cons x r ih => simp only [valL, List.length_cons, Nat.pow_succ]; omega

/-- The value of the bytes from the j-th to the k-th. -/
def part (l : List Int) (p j k : Nat) : Nat := valL ((l.drop (p + j)).take (k + 1 - j))
theorem part_end (l : List Int) (p k : Nat) : part l p (k + 1) k = 0 := by simp [part, valL]
theorem part_step (l : List Int) (p j k : Nat) (hj : j ≤ k) (hl : p + k < l.length) : part l p j k = (l.getD (p + j) 0).toNat % 128 + 128 * part l p (j + 1) k := by
  unfold part
  have hd : p + j < l.length := by omega
  rw [List.drop_eq_getElem_cons hd, show k + 1 - j = (k + 1 - (j + 1)) + 1 by omega, List.take_succ_cons, valL, Nat.add_assoc]
  have e : l.getD (p + j) 0 = l[p + j] := by simp [List.getD, hd]
  rw [e]
theorem part_lt (l : List Int) (p j k : Nat) : part l p j k < 128 ^ (k + 1 - j) := by
  unfold part
  have := valL_lt ((l.drop (p + j)).take (k + 1 - j))
  have h2 : ((l.drop (p + j)).take (k + 1 - j)).length ≤ k + 1 - j := List.length_take_le _ _
  exact Nat.lt_of_lt_of_le this (Nat.pow_le_pow_right (by omega) h2)
theorem part_zero (l : List Int) (p k : Nat) (hl : p + k < l.length) : part l p 0 k = valTo l p (k + 1) := by
  unfold part
  simpa using valL_take l p (k + 1) (by omega)
theorem part_lt' (l : List Int) (p j k : Nat) (hk : k < 5) : part l p j k < 34359738368 := by
  have h := part_lt l p j k
  have h2 : 128 ^ (k + 1 - j) ≤ 128 ^ 5 := Nat.pow_le_pow_right (by omega) (by omega)
  have h3 : (128 : Nat) ^ 5 = 34359738368 := by decide
  omega

theorem cut_u8 {l : List Int} (h : U8 l) (p k : Nat) : U8 (cut l p k) := fun n hn => h n (List.mem_of_mem_drop (List.mem_of_mem_take hn))
theorem cut_len {l : List Int} {p k : Nat} (h : p + k < l.length) : (cut l p k).length = k + 1 := by simp [cut]; omega
theorem cut_at {l : List Int} {p k i : Nat} (hi : i < k + 1) : (cut l p k).getD i 0 = l.getD (p + i) 0 := by
  simp [cut, List.getD, hi]
theorem cut_snoc {l : List Int} {p k : Nat} (h : p + k < l.length) : cut l p k = (l.drop p).take k ++ [l.getD (p + k) 0] := by
  unfold cut
  have hk : k < (l.drop p).length := by simp; omega
  rw [List.take_succ_eq_append_getElem hk]
  congr 2
  simp [List.getD, h]

/-- The bytes are how their number is written just where the last one of several is not 0 and the number is not too great. -/
theorem good_iff {l : List Int} (hu : U8 l) {p k : Nat} (hs : Stop l p k) :
    (putNum (valTo l p (k + 1) : Nat) = cut l p k) ↔ ((k = 0 ∨ l.getD (p + k) 0 ≠ 0) ∧ valTo l p (k + 1) ≤ 2147483647) := by
  obtain ⟨h5, hlt, hlow, hhi⟩ := hs
  have hv : valL (cut l p k) = valTo l p (k + 1) := by unfold cut; exact valL_take l p (k + 1) (by omega)
  have hd := hu.at (p + k)
  constructor
  · intro h
    have hle : valTo l p (k + 1) ≤ 2147483647 := by
      rcases Nat.lt_or_ge 2147483647 (valTo l p (k + 1)) with h' | h'
      · rw [putNum, if_neg (by omega)] at h
        have := congrArg List.length h
        rw [cut_len hlt] at this
        simp at this
      · exact h'
    refine ⟨?_, hle⟩
    rw [putNum, if_pos (by omega)] at h
    by_cases hk : k = 0
    · exact .inl hk
    · right
      intro h0
      rw [cut_snoc hlt, h0] at h
      refine vlq_last 4 _ _ h ?_
      intro he
      have := congrArg List.length he
      simp at this
      omega
  · rintro ⟨hz, hle⟩
    rw [putNum, if_pos (by omega)]
    simp only [Int.toNat_natCast]
    rw [← hv, cut_snoc hlt]
    refine vlq_valL _ (fun n hn => hu n (List.mem_of_mem_drop (List.mem_of_mem_take hn))) _ hd.1 hlow ?_ ?_ 4 ?_
    · intro x hx
      obtain ⟨i, hi, rfl⟩ := List.mem_iff_getElem.1 hx
      simp at hi
      have := hhi i (by omega)
      simpa [List.getD, show p + i < l.length by omega] using this
    · rcases hz with rfl | h
      · left; simp
      · exact .inr h
    · simp; omega
end Go.Proofs.YtaabcfgjmankgaaDoor

/-
  Own text: the program's reading of a number, walked.
-/
namespace Go.Proofs.YtaabcfgjmankgaaDoor
open Go.RowKit

theorem notGood {l : List Int} {p : Nat} (hno : ∀ k, ¬ Stop l p k) : ∀ n next, ¬ Good l p n next := by
  rintro n next ⟨p', k, hp', hs, _⟩
  obtain rfl : p = p' := by omega
  exact hno k hs

set_option maxRecDepth 20000 in
set_option maxHeartbeats 400000 in
theorem atOut (x : Option Addr) (cap len : Nat) (at' : Int) (a : Addr) (w : World) (h : at' < 0 ∨ (len : Int) ≤ at') (hg : w.cell? ⟨errG, 0, none⟩ = some (.iface 81 (.pointer (some a)))) :
    Calls Tryd.prog 54 #[.slice x len cap, .int .i64 at'] w fun e w' => e = thePanic a ∧ w' = w := by
  go_enter Tryd.func54, Tryd.ntmps54
  go_wp2_with fail
  refine (endOut x cap len at' a _ h hg).mono ?_
  rintro e w1 ⟨rfl, rfl⟩
  unfold thePanic
  go_wp2
  exact ⟨rfl, rfl, rfl⟩

set_option maxRecDepth 20000 in
set_option maxHeartbeats 800000 in
theorem atIn (b off cap : Nat) (l : List Int) (p : Nat) (a : Addr) (w : World) (hl : l.length ≤ 1048581) (hu : U8 l) (hcap : l.length ≤ cap) (hm : cap ≤ maxLen) (hp : p < l.length) (hb : b < w.heap.size)
    (hc : ∀ i, i < l.length → w.cell? ⟨b, off + i, none⟩ = some (.int .u8 (l.getD i 0))) (hgl : errG < w.heap.size) (hg : w.cell? ⟨errG, 0, none⟩ = some (.iface 81 (.pointer (some a)))) :
    Calls Tryd.prog 54 #[.slice (some ⟨b, off, none⟩) l.length cap, .int .i64 p] w fun e w' => ((∃ n next, Good l p n next ∧ e = .returned (.tuple #[.int .i64 (n : Nat), .int .i64 (next : Nat)])) ∨ ((∀ n next, ¬ Good l p n next) ∧ e = thePanic a)) ∧ Below w.heap.size w w' := by
  have HMX : Hid (cap ≤ maxLen) := hm
  unfold maxLen at hm
  have HC : Hid (∀ i, i < l.length → w.cell? ⟨b, off + i, none⟩ = some (.int .u8 (l.getD i 0))) := hc
  have HG : Hid (w.cell? ⟨errG, 0, none⟩ = some (.iface 81 (.pointer (some a)))) := hg
  have HU : Hid (U8 l) := hu
  clear hc hg hu
  go_enter Tryd.func54, Tryd.ntmps54
  go_wp2_with fail
  refine (endIn b off cap l p a _ hl HU.out hcap HMX.out hp hb HC.out hgl HG.out).mono ?_
  rintro e w1 ⟨⟨k, hst, rfl⟩ | ⟨hno, rfl⟩, hb1⟩
  · have HS : Hid (Stop l p k) := hst
    obtain ⟨hk5, hkl, _, _⟩ := hst
    go_wp2
    go_loop [7, 8] (fun n i => ∃ j : Nat, j ≤ k + 1 ∧ i = .int .i64 ((p : Int) + (j : Int) - 1) ∧ n = .int .i64 (part l p j k : Nat)) (fun _ i => ((intOf i) - p + 1).toNat)
    case atStart => exact ⟨k + 1, Nat.le_refl _, by go_num, by rw [part_end]; rfl⟩
    case round =>
      obtain ⟨j, hj, rfl, rfl⟩ := hrel
      by_cases hj0 : 0 < j
      · obtain ⟨i, rfl⟩ : ∃ i, j = i + 1 := ⟨j - 1, by omega⟩
        have hpt := part_lt' l p (i + 1) k hk5
        have HP : Hid (part l p i k = (l.getD (p + i) 0).toNat % 128 + 128 * part l p (i + 1) k) := part_step l p i k (by omega) hkl
        have hcell : w1.cell? ⟨b, off + (p + i), none⟩ = some (.int .u8 (l.getD (p + i) 0)) := by
          rw [hb1.cell (by exact hb)]; exact HC.out (p + i) (by omega)
        have hub := HU.out.at (p + i)
        have e1 : (p : Int) + ((i + 1 : Nat) : Int) - 1 = ((p + i : Nat) : Int) := by omega
        rw [e1]
        generalize l.getD (p + i) 0 = d at *
        generalize part l p (i + 1) k = N at *
        clear e1
        go_wp2
        go_round
        case rel => exact ⟨i, by omega, by go_num, by rw [HP.out]; go_num⟩
        case measure => simp [intOf]; omega
      · obtain rfl : j = 0 := by omega
        have hV : part l p 0 k = valTo l p (k + 1) := part_zero l p k hkl
        have hpt := part_lt' l p 0 k hk5
        rw [hV] at hpt ⊢
        have HGI : Hid ((putNum (valTo l p (k + 1) : Nat) = cut l p k) ↔ ((k = 0 ∨ l.getD (p + k) 0 ≠ 0) ∧ valTo l p (k + 1) ≤ 2147483647)) := good_iff HU.out HS.out
        have HGY : Hid ((k = 0 ∨ l.getD (p + k) 0 ≠ 0) ∧ valTo l p (k + 1) ≤ 2147483647 → Good l p (valTo l p (k + 1)) (p + k + 1)) := fun h => ⟨p, k, rfl, HS.out, h.1, rfl, h.2, rfl⟩
        have HGN : Hid (¬ ((k = 0 ∨ l.getD (p + k) 0 ≠ 0) ∧ valTo l p (k + 1) ≤ 2147483647) → ∀ n next, ¬ Good l p n next) := by
          rintro h n next ⟨p', k', hp', hs, h1, rfl, h2, rfl⟩
          obtain rfl : p = p' := by omega
          obtain rfl := HS.out.unique hs
          exact h ⟨h1, h2⟩
        generalize valTo l p (k + 1) = V at *
        have e2 : p + k + 1 - p = k + 1 := by omega
        have hcutlen := cut_len (l := l) (p := p) (k := k) hkl
        have HCV : Hid (∀ W : World, Below w1.heap.size w1 W → (convert 45 9 (.slice (some ⟨b, off + p, none⟩) (k + 1) (cap - p))).run Tryd.prog W = .ok (.string (bytesS (cut l p k))) W) := by
          intro W hW
          have := conv_rd (w := W) (b := b) (off := off + p) (cap := cap - p) (l := cut l p k) (cut_u8 HU.out p k) (fun i hi => by
            rw [hcutlen] at hi
            rw [cut_at hi, Nat.add_assoc, hW.cell (by exact Nat.lt_of_lt_of_le hb hb1.size), hb1.cell (by exact hb)]
            exact HC.out (p + i) (by omega))
          rw [hcutlen] at this
          exact this
        have hcv0 := HCV.out w1.drew (Below.refl _ _).drew
        clear hcutlen hV
        have e3 : ((p : Int) + (k : Int) + 1).toNat - p = k + 1 := by omega
        go_wp2
        by_cases hgood : putNum (V : Nat) = cut l p k
        · have hgd := HGY.out (HGI.out.1 hgood)
          have HGD : Hid (Good l p V (p + k + 1)) := hgd
          clear hgd HGY HGN HGI
          go_region_with (go_at_call 44; refine (implPutNum V _).mono ?_; rintro e w2 ⟨v2, rfl, ho2, hb2⟩; have hcA := conv_ownN (putNum_u8 _) ho2; have hcB := HCV.out w2 ((Below.refl _ _).drew.trans hb2); rw [hgood] at hcA)
          all_goals
            have hb3 : Below w.heap.size w w2 := hb1.drew.trans (hb2.mono hb1.size)
            clear hcA hcB hcv0 ho2 hb2 HCV
            go_wp2
            go_ret2
            exact ⟨.inl ⟨V, p + k + 1, HGD.out, by go_num⟩, hb3⟩
        · have hgn := HGN.out (fun h => hgood (HGI.out.2 h))
          have HGD : Hid (∀ n next, ¬ Good l p n next) := hgn
          have hsn : ¬ bytesS (putNum (V : Nat)) = bytesS (cut l p k) := fun h => hgood (bytesS_inj (putNum_u8 _) (cut_u8 HU.out p k) h)
          have HPU := putNum_u8 (V : Int)
          have HOC : Hid (∀ (W : World) (v : Value), W.ownsRow w1.drew.heap.size 5 1 v (putNum (V : Nat)).length ((putNum (V : Nat)).map (Value.int .u8)) → (convert 45 9 v).run Tryd.prog W = .ok (.string (bytesS (putNum (V : Nat)))) W) := fun W v h => conv_ownN (putNum_u8 _) h
          clear hgn HGY HGN HGI HPU hgood
          generalize bytesS (cut l p k) = sB at *
          generalize bytesS (putNum (V : Nat)) = sA at *
          have hsn2 := str_ne hsn
          clear hsn
          go_region_with (go_at_call 44; refine (implPutNum V _).mono ?_; rintro e w2 ⟨v2, rfl, ho2, hb2⟩; have hcA := HOC.out w2 v2 ho2; have hcB := HCV.out w2 ((Below.refl _ _).drew.trans hb2))
          all_goals
            have hb3 : Below w.heap.size w w2 := hb1.drew.trans (hb2.mono hb1.size)
            have hge2 : w2.cell? ⟨errG, 0, none⟩ = some (.iface 81 (.pointer (some a))) := (hb3.cell (by exact hgl)).trans HG.out
            unfold errG at hge2
            clear hcA hcB hcv0 ho2 hb2 HCV HOC
            go_wp2
            exact ⟨rfl, .inr ⟨HGD.out, rfl⟩, hb3⟩
  · unfold thePanic
    go_wp2
    exact ⟨rfl, .inr ⟨notGood hno, rfl⟩, hb1⟩
end Go.Proofs.YtaabcfgjmankgaaDoor

/-
  Own text: the deferred closures that recover: called of a frame that panics, they mark the panic as recovered; of one that returns, they do nothing.
-/
namespace Go.Proofs.YtaabcfgjmankgaaDoor
open Go.RowKit

theorem catchNum (u : TypeId) (pv : Value) (older : List PanicEntry) (w : World) :
    CallsD Tryd.prog 53 #[] (.panicking ({ v := .iface u pv, recovered := false } :: older)) w fun e u' w' =>
      e = .returned (.tuple #[]) ∧ u' = .panicking ({ v := .iface u pv, recovered := true } :: older) ∧ w' = w := by
  refine callsD_of_wpS Tryd.func53 rfl fun c₀ cs hu => ?_
  apply wpS_region
  simp [wpOpsS, go_sem, recoverD, hu, Tryd.ntmps53, bodyPostS, results, Tryd.results53]

theorem idleNum (w : World) :
    CallsD Tryd.prog 53 #[] .returning w fun e u' w' => e = .returned (.tuple #[]) ∧ u' = .returning ∧ w' = w := by
  refine callsD_of_wpS Tryd.func53 rfl fun c₀ cs hu => ?_
  apply wpS_region
  simp [wpOpsS, go_sem, recoverD, hu, Tryd.ntmps53]
  cases c₀
  simp_all [bodyPostS, results, Tryd.results53]

end Go.Proofs.YtaabcfgjmankgaaDoor

/-
  Own text: the program's GetNum answers as 'Good' says.
-/
namespace Go.Proofs.YtaabcfgjmankgaaDoor
open Go.RowKit

/-- What is known of a slice of bytes that GetNum is handed. -/
structure Came (w : World) (x : Option Addr) (cap : Nat) (l : List Int) : Prop where
  hsmall : l.length ≤ 1048581
  hu8 : U8 l
  hcap : l.length ≤ cap
  hmax : cap ≤ maxLen
  hrd : Rd .u8 w x l

set_option maxRecDepth 20000 in
set_option maxHeartbeats 400000 in
theorem implGetNum (x : Option Addr) (cap : Nat) (l : List Int) (at' : Int) (a : Addr) (w : World) (hx : Came w x cap l) (hgl : errG < w.heap.size) (hg : w.cell? ⟨errG, 0, none⟩ = some (.iface 81 (.pointer (some a)))) :
    Calls Tryd.prog 35 #[.slice x l.length cap, .int .i64 at'] w fun e w' => ((∃ n next, Good l at' n next ∧ e = .returned (.tuple #[.int .i64 (n : Nat), .int .i64 (next : Nat), .bool true])) ∨ ((∀ n next, ¬ Good l at' n next) ∧ e = .returned (.tuple #[.int .i64 0, .int .i64 0, .bool false]))) ∧ Below w.heap.size w w' := by
  have HG : Hid (w.cell? ⟨errG, 0, none⟩ = some (.iface 81 (.pointer (some a)))) := hg
  clear hg
  by_cases hout : at' < 0 ∨ (l.length : Int) ≤ at'
  · have HN : Hid (∀ n next, ¬ Good l at' n next) := by
      rintro n next ⟨p, k, rfl, ⟨_, h2, _, _⟩, _⟩
      omega
    go_enter_defers Tryd.func35, Tryd.ntmps35
    go_wp2_with fail
    refine (atOut x cap l.length at' a _ hout HG.out).mono ?_
    rintro e w1 ⟨rfl, rfl⟩
    unfold thePanic
    go_wp2
    refine leaves_cons (f := 53) (args := #[]) (by simp) (by simp [go_sem]) ?_
    refine (catchNum _ _ [] _).mono ?_
    rintro e u' w'' ⟨rfl, rfl, rfl⟩
    simp [Leaves, settle, results, Tryd.results35, go_sem]
    exact ⟨HN.out, Below.refl _ _⟩
  · obtain ⟨p, rfl⟩ : ∃ p : Nat, at' = (p : Int) := ⟨at'.toNat, by omega⟩
    have hp : p < l.length := by omega
    obtain ⟨b, off, rfl, hb, hc⟩ : ∃ b off, x = some ⟨b, off, none⟩ ∧ b < w.heap.size ∧ ∀ i, i < l.length → w.cell? ⟨b, off + i, none⟩ = some (.int .u8 (l.getD i 0)) := by
      rcases hx.hrd with h | h
      · subst h; simp at hp
      · exact h
    have HC : Hid (∀ i, i < l.length → w.cell? ⟨b, off + i, none⟩ = some (.int .u8 (l.getD i 0))) := hc
    clear hc
    go_enter_defers Tryd.func35, Tryd.ntmps35
    go_wp2_with fail
    refine (atIn b off cap l p a _ hx.hsmall hx.hu8 hx.hcap hx.hmax hp hb HC.out hgl HG.out).mono ?_
    rintro e w1 ⟨⟨n, next, hgd, rfl⟩ | ⟨hno, rfl⟩, hb1⟩
    · have HGD : Hid (Good l p n next) := hgd
      clear hgd
      go_wp2
      refine leaves_cons (f := 53) (args := #[]) (by simp) (by simp [go_sem]) ?_
      refine (idleNum _).mono ?_
      rintro e u' w'' ⟨rfl, rfl, rfl⟩
      simp [Leaves, settle, results, Tryd.results35, go_sem]
      exact ⟨⟨n, next, HGD.out, rfl, rfl⟩, hb1⟩
    · have HNO : Hid (∀ n next, ¬ Good l p n next) := hno
      clear hno
      unfold thePanic
      go_wp2
      refine leaves_cons (f := 53) (args := #[]) (by simp) (by simp [go_sem]) ?_
      refine (catchNum _ _ [] _).mono ?_
      rintro e u' w'' ⟨rfl, rfl, rfl⟩
      simp [Leaves, settle, results, Tryd.results35, go_sem]
      exact ⟨HNO.out, hb1⟩
end Go.Proofs.YtaabcfgjmankgaaDoor

/-
  Own text: the program's error variable holds what its text lays; a row of bytes stays where it was.
-/
namespace Go.Proofs.YtaabcfgjmankgaaDoor
open Go.RowKit

/-- The program's error variable holds what its text lays. -/
structure ErrAt (a : Addr) (w : World) : Prop where
  lt : errG < w.heap.size
  cell : w.cell? ⟨errG, 0, none⟩ = some (.iface 81 (.pointer (some a)))
theorem ErrAt.below {a : Addr} {w w' : World} (h : ErrAt a w) (hb : Below w.heap.size w w') : ErrAt a w' := ⟨Nat.lt_of_lt_of_le h.lt hb.size, (hb.cell h.lt).trans h.cell⟩

theorem Came.below {w w' : World} {x : Option Addr} {cap : Nat} {l : List Int} (h : Came w x cap l) (hb : Below w.heap.size w w') : Came w' x cap l := ⟨h.hsmall, h.hu8, h.hcap, h.hmax, h.hrd.below hb (Nat.le_refl _)⟩
end Go.Proofs.YtaabcfgjmankgaaDoor
