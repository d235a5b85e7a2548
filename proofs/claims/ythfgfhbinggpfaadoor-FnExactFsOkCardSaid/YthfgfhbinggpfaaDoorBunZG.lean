/-
  Own texts, several together.
-/
import Derived.Test.YthfgfhbinggpfaaDoorRows
import Derived.Test.YthfgfhbinggpfaaDoorBunZA
import Derived.LaidMore
import Derived.Stop.Joined
import Derived.Stop.LaidErr
import Derived.WalkLawsBesides
import Derived.Laws.IdiomStrings
import Derived.Deep.RegionWith
import Derived.Lib.BufferRead
import Derived.Test.YthfgfhbinggpfaaDoorSEokW
/-
  Own text: what the row's list gives of the program's own error variable: it holds an error that is not nil.
-/
namespace Go.Proofs.YthfgfhbinggpfaaDoor
open Go.RowKit
def errG : Nat := 0
theorem gErr : Tryd.prog.globalNamed "loop.example/g00483/impl.errNoNum" = some errG := by kernel_rfl
theorem tErr : (Tryd.prog.globals[errG]?).map (·.type) = some 98 := by kernel_rfl
theorem nErr : Tryd.prog.typeName? 3 133 = some "*errors.errorString" := by kernel_rfl
theorem starErr : "*" ++ "errors.errorString" = "*errors.errorString" := by decide
theorem rowErr (u : TypeId) (h : Tryd.prog.typeName? 3 u = some "*errors.errorString") : u = 133 :=
  typeName_ptr_named (nm := "errors.errorString") (by rw [starErr]; kernel_rfl) (by kernel_rfl) (by decide) u (by rw [starErr]; exact h)
theorem errVar (l : List (String × DataW Unit)) {W : World} (hl : l = [("loop.example/g00483/impl.errNoNum", Rows.laid_loop_example_g00483_impl_errNoNum)]) (h : laidMetH Tryd.prog l W) :
    ∃ a : Addr, W.var? Tryd.prog "loop.example/g00483/impl.errNoNum" = some #[.iface 133 (.pointer (some a))] := by
  subst hl
  rw [MakeChecks.laidMetH_plain _ _ _ (by kernel_rfl)] at h
  obtain ⟨a, s, hv, _⟩ := laid_sentinel h gErr tErr Tryd.underlying98 rowErr Tryd.underlying133 Tryd.underlying149 rfl rfl Tryd.underlying9 (by kernel_rfl) (by kernel_rfl)
  exact ⟨a, hv⟩
end Go.Proofs.YthfgfhbinggpfaaDoor

/-
  Own text: where the number ends that begins at a place; a panic with the program's own error, where it does not.
-/
namespace Go.Proofs.YthfgfhbinggpfaaDoor
open Go.RowKit

/-- The panic that is meant to be recovered. -/
def thePanic (a : Addr) : Ending := .panicked [{ v := .iface 133 (.pointer (some a)), recovered := false }]

theorem max_len : (putNum 2147483647).length = 5 := by decide

set_option maxRecDepth 20000 in
set_option maxHeartbeats 400000 in
theorem endOut (x : Option Addr) (cap len : Nat) (at' : Int) (a : Addr) (w : World) (h : at' < 0 ∨ (len : Int) ≤ at') (hg : w.cell? ⟨errG, 0, none⟩ = some (.iface 133 (.pointer (some a)))) :
    Calls Tryd.prog 102 #[.slice x len cap, .int .i64 at'] w fun e w' => e = thePanic a ∧ w' = w := by
  unfold errG at hg
  unfold thePanic
  by_cases hn : at' < 0
  · go_enter Tryd.func102, Tryd.ntmps102
    go_wp2
    exact ⟨rfl, rfl, rfl⟩
  · have hge : (len : Int) ≤ at' := by omega
    clear h
    go_enter Tryd.func102, Tryd.ntmps102
    go_wp2
    exact ⟨rfl, rfl, rfl⟩

theorem noStop {l : List Int} {p M : Nat} (hM : M = 5 ∨ p + M = l.length) (hall : ∀ j, j < M → 128 ≤ l.getD (p + j) 0) : ∀ k, ¬ Stop l p k := by
  rintro k ⟨h1, h2, h3, _⟩
  have := hall k (by omega)
  omega

set_option maxRecDepth 20000 in
set_option maxHeartbeats 400000 in
theorem endIn (b off cap : Nat) (l : List Int) (p : Nat) (a : Addr) (w : World) (hl : l.length ≤ 1048581) (hu : U8 l) (hcap : l.length ≤ cap) (hm : cap ≤ maxLen) (hp : p < l.length) (hb : b < w.heap.size)
    (hc : ∀ i, i < l.length → w.cell? ⟨b, off + i, none⟩ = some (.int .u8 (l.getD i 0))) (hgl : errG < w.heap.size) (hg : w.cell? ⟨errG, 0, none⟩ = some (.iface 133 (.pointer (some a)))) :
    Calls Tryd.prog 102 #[.slice (some ⟨b, off, none⟩) l.length cap, .int .i64 p] w fun e w' => ((∃ k, Stop l p k ∧ e = .returned (.int .i64 ((p + k + 1 : Nat) : Int))) ∨ ((∀ k, ¬ Stop l p k) ∧ e = thePanic a)) ∧ Below w.heap.size w w' := by
  unfold maxLen at hm
  have hml := max_len
  have HC : Hid (∀ i, i < l.length → w.cell? ⟨b, off + i, none⟩ = some (.int .u8 (l.getD i 0))) := hc
  have HG : Hid (w.cell? ⟨errG, 0, none⟩ = some (.iface 133 (.pointer (some a)))) := hg
  have HU : Hid (U8 l) := hu
  clear hc hg hu
  have hpn : ¬ ((p : Int) < 0) := by omega
  by_cases hbig : l.length ≤ p + 5
  · have hge : (l.length : Int) ≤ (p : Int) + 5 := by omega
    obtain ⟨M, hM⟩ : ∃ M, l.length = p + M := ⟨l.length - p, by omega⟩
    have HM : Hid (l.length = p + M) := hM
    have e1 : l.length - p = M := by omega
    have hM5 : M ≤ 5 := by omega
    clear hM
    go_enter Tryd.func102, Tryd.ntmps102
    go_wp2_with (go_at_call 103; refine (implPutNum 2147483647 _).mono ?_; rintro e w1 ⟨v1, rfl, ho1, hb1⟩; obtain ⟨a1, c1, rfl, hn1, hr1⟩ := own_rd ho1)
    clear ho1 hr1 hn1 e1
    go_loop [27] (fun i => ∃ k : Nat, k ≤ M ∧ i = .int .i64 k ∧ Hid (∀ j, j < k → 128 ≤ l.getD (p + j) 0)) (fun i => M - (intOf i).toNat)
    case atStart => exact ⟨0, Nat.zero_le _, rfl, fun j hj => by omega⟩
    case round =>
      obtain ⟨k, hk, rfl, HA⟩ := hrel
      by_cases hkM : k < M
      · have hcell : w1.cell? ⟨b, off + p + k, none⟩ = some (.int .u8 (l.getD (p + k) 0)) := by
          rw [hb1.cell (by exact hb), Nat.add_assoc]; exact HC.out (p + k) (by have := HM.out; omega)
        have hub := HU.out.at (p + k)
        have HD : Hid (∀ d, d = l.getD (p + k) 0 → (d < 128 → Stop l p k) ∧ (128 ≤ d → ∀ j, j < k + 1 → 128 ≤ l.getD (p + j) 0)) := by
          rintro d rfl
          exact ⟨fun h => ⟨by omega, by have := HM.out; omega, h, HA.out⟩, fun h j hj => by
            rcases Nat.lt_succ_iff_lt_or_eq.1 hj with h' | h'
            · exact HA.out j h'
            · subst h'; exact h⟩
        generalize hd : l.getD (p + k) 0 = d at *
        have HD' := HD.out d rfl
        clear hd HD
        have H1 : Hid (d < 128 → Stop l p k) := HD'.1
        have H2 : Hid (128 ≤ d → ∀ j, j < k + 1 → 128 ≤ l.getD (p + j) 0) := HD'.2
        clear HD' HA
        by_cases hlow : d < 128
        · go_wp2
          go_ret
          exact ⟨.inl ⟨k, H1.out hlow, by go_num⟩, hb1⟩
        · go_wp2
          go_round
          case rel => exact ⟨k + 1, by omega, by go_num, H2.out (by omega)⟩
          case measure => simp [intOf]; omega
      · obtain rfl : k = M := by omega
        have hge2 : w1.cell? ⟨errG, 0, none⟩ = some (.iface 133 (.pointer (some a))) := (hb1.cell (by exact hgl)).trans HG.out
        unfold errG at hge2
        go_wp2
        exact ⟨rfl, .inr ⟨noStop (.inr HM.out.symm) HA.out, rfl⟩, hb1⟩
  · have hge : (p : Int) + 5 < (l.length : Int) := by omega
    have e1 : ((p : Int) + 5).toNat - p = 5 := by omega
    go_enter Tryd.func102, Tryd.ntmps102
    go_wp2_with (go_at_call 103; refine (implPutNum 2147483647 _).mono ?_; rintro e w1 ⟨v1, rfl, ho1, hb1⟩; obtain ⟨a1, c1, rfl, hn1, hr1⟩ := own_rd ho1)
    clear ho1 hr1 hn1
    go_loop [27] (fun i => ∃ k : Nat, k ≤ 5 ∧ i = .int .i64 k ∧ Hid (∀ j, j < k → 128 ≤ l.getD (p + j) 0)) (fun i => 5 - (intOf i).toNat)
    case atStart => exact ⟨0, Nat.zero_le _, rfl, fun j hj => by omega⟩
    case round =>
      obtain ⟨k, hk, rfl, HA⟩ := hrel
      by_cases hkM : k < 5
      · have hcell : w1.cell? ⟨b, off + p + k, none⟩ = some (.int .u8 (l.getD (p + k) 0)) := by
          rw [hb1.cell (by exact hb), Nat.add_assoc]; exact HC.out (p + k) (by omega)
        have hub := HU.out.at (p + k)
        have HD : Hid (∀ d, d = l.getD (p + k) 0 → (d < 128 → Stop l p k) ∧ (128 ≤ d → ∀ j, j < k + 1 → 128 ≤ l.getD (p + j) 0)) := by
          rintro d rfl
          exact ⟨fun h => ⟨by omega, by omega, h, HA.out⟩, fun h j hj => by
            rcases Nat.lt_succ_iff_lt_or_eq.1 hj with h' | h'
            · exact HA.out j h'
            · subst h'; exact h⟩
        generalize hd : l.getD (p + k) 0 = d at *
        have HD' := HD.out d rfl
        clear hd HD
        have H1 : Hid (d < 128 → Stop l p k) := HD'.1
        have H2 : Hid (128 ≤ d → ∀ j, j < k + 1 → 128 ≤ l.getD (p + j) 0) := HD'.2
        clear HD' HA
        by_cases hlow : d < 128
        · go_wp2
          go_ret
          exact ⟨.inl ⟨k, H1.out hlow, by go_num⟩, hb1⟩
        · go_wp2
          go_round
          case rel => exact ⟨k + 1, by omega, by go_num, H2.out (by omega)⟩
          case measure => simp [intOf]; omega
      · obtain rfl : k = 5 := by omega
        have hge2 : w1.cell? ⟨errG, 0, none⟩ = some (.iface 133 (.pointer (some a))) := (hb1.cell (by exact hgl)).trans HG.out
        unfold errG at hge2
        go_wp2
        exact ⟨rfl, .inr ⟨noStop (.inl rfl) HA.out, rfl⟩, hb1⟩
end Go.Proofs.YthfgfhbinggpfaaDoor

/-
  Own text: the number at a place, read by the program: it is there as 'Good' says, or the program panics with its own error.
-/
namespace Go.Proofs.YthfgfhbinggpfaaDoor
open Go.RowKit

/-- The text of these bytes. -/
def bytesS (l : List Int) : ByteArray := ⟨(l.map fun x => UInt8.ofNat x.toNat).toArray⟩
theorem bytesS_inj {l m : List Int} (hl : U8 l) (hm : U8 m) (h : bytesS l = bytesS m) : l = m := by
  have h1 : (l.map fun x => UInt8.ofNat x.toNat) = (m.map fun x => UInt8.ofNat x.toNat) := by
    have := congrArg (fun b : ByteArray => b.data.toList) h
    simpa [bytesS] using this
  have key : ∀ a : List Int, U8 a → (a.map fun x => UInt8.ofNat x.toNat).map (fun u => (u.toNat : Int)) = a := by
    intro a ha
    rw [List.map_map]
    conv => rhs; rw [← List.map_id a]
    apply List.map_congr_left
    intro x hx
    have := ha x hx
    simp only [Function.comp_apply, id, UInt8.toNat_ofNat']
    omega
  have := congrArg (fun a : List UInt8 => a.map (fun u => (u.toNat : Int))) h1
  simpa only [key l hl, key m hm] using this

theorem str_ne {a b : ByteArray} (h : ¬ a = b) : (a.toList == b.toList) = false := by
  rw [beq_eq_false_iff_ne]
  intro e
  rw [ByteArray.toList_eq, ByteArray.toList_eq] at e
  exact h (Go.WideShapes.bytes_inj e)

theorem conv_rd {w : World} {b off cap : Nat} {l : List Int} (hu : U8 l) (hc : ∀ i, i < l.length → w.cell? ⟨b, off + i, none⟩ = some (.int .u8 (l.getD i 0))) :
    (convert 94 9 (.slice (some ⟨b, off, none⟩) l.length cap)).run Tryd.prog w = .ok (.string (bytesS l)) w := by
  have h := run_convert_bytes_back (P := Tryd.prog) w 94 9 5 ⟨b, off, none⟩ cap (l.map fun x => UInt8.ofNat x.toNat) Tryd.underlying94 Tryd.underlying5 Tryd.underlying9 (by
    intro j hj
    have hj' : j < l.length := by simpa using hj
    rw [Addr.add_lit, hc j hj']
    have hb := hu.at j
    simp only [List.getElem_map]
    have e : l.getD j 0 = l[j] := by simp [List.getD, hj']
    rw [e] at hb ⊢
    congr 2
    rw [UInt8.toNat_ofNat']; omega)
  simpa [bytesS] using h

theorem conv_ownN {w : World} {base n : Nat} {v : Value} {l : List Int} (hu : U8 l) (h : w.ownsRow base 5 1 v n (l.map (Value.int .u8))) :
    (convert 94 9 v).run Tryd.prog w = .ok (.string (bytesS l)) w := by
  have hl : l.length = n := by have := h.1; simpa using this
  rcases h.2 with ⟨rfl, h0⟩ | ⟨g, cap, cur, rfl, _⟩
  · subst h0
    obtain rfl : l = [] := List.eq_nil_of_length_eq_zero hl
    have := Lib.run_convert_nil_bytes (P := Tryd.prog) w 94 9 5 0 Tryd.underlying94 Tryd.underlying5 Tryd.underlying9
    simpa [bytesS] using this
  · subst hl
    have hr := Rd.own h
    rcases hr with rfl | ⟨b, off, he, _, hc⟩
    · exact conv_rd hu (fun i hi => by simp at hi)
    · simp only [Option.some.injEq, Addr.mk.injEq, and_true] at he
      obtain ⟨rfl, rfl⟩ := he
      exact conv_rd hu hc

theorem valL_lt (l : List Int) : valL l < 128 ^ l.length := by
  induction l with
  | nil => simp [valL]
  | cons x r ih => simp only [valL, List.length_cons, Nat.pow_succ]; omega

/-- The value of the bytes from the j-th to the k-th. -/
def part (l : List Int) (p j k : Nat) : Nat := valL ((l.drop (p + j)).take (k + 1 - j))
theorem part_end (l : List Int) (p k : Nat) : part l p (k + 1) k = 0 := by simp [part, valL]
theorem part_step (l : List Int) (p j k : Nat) (hj : j ≤ k) (hl : p + k < l.length) : part l p j k = (l.getD (p + j) 0).toNat % 128 + 128 * part l p (j + 1) k := by
  unfold part
  have hd : p + j < l.length := by omega
  rw [List.drop_eq_getElem_cons hd, show k + 1 - j = (k + 1 - (j + 1)) + 1 by omega, List.take_succ_cons, valL, Nat.add_assoc]
  have e : l.getD (p + j) 0 = l[p + j] := by simp [List.getD, hd]
  rw [e]
theorem part_lt (l : List Int) (p j k : Nat) : part l p j k < 128 ^ (k + 1 - j) := by
  unfold part
  have := valL_lt ((l.drop (p + j)).take (k + 1 - j))
  have h2 : ((l.drop (p + j)).take (k + 1 - j)).length ≤ k + 1 - j := List.length_take_le _ _
  exact Nat.lt_of_lt_of_le this (Nat.pow_le_pow_right (by omega) h2)
theorem part_zero (l : List Int) (p k : Nat) (hl : p + k < l.length) : part l p 0 k = valTo l p (k + 1) := by
  unfold part
  simpa using valL_take l p (k + 1) (by omega)
theorem part_lt' (l : List Int) (p j k : Nat) (hk : k < 5) : part l p j k < 34359738368 := by
  have h := part_lt l p j k
  have h2 : 128 ^ (k + 1 - j) ≤ 128 ^ 5 := Nat.pow_le_pow_right (by omega) (by omega)
  have h3 : (128 : Nat) ^ 5 = 34359738368 := by decide
  omega

theorem cut_u8 {l : List Int} (h : U8 l) (p k : Nat) : U8 (cut l p k) := fun n hn => h n (List.mem_of_mem_drop (List.mem_of_mem_take hn))
theorem cut_len {l : List Int} {p k : Nat} (h : p + k < l.length) : (cut l p k).length = k + 1 := by simp [cut]; omega
theorem cut_at {l : List Int} {p k i : Nat} (hi : i < k + 1) : (cut l p k).getD i 0 = l.getD (p + i) 0 := by
  simp [cut, List.getD, hi]
theorem cut_snoc {l : List Int} {p k : Nat} (h : p + k < l.length) : cut l p k = (l.drop p).take k ++ [l.getD (p + k) 0] := by
  unfold cut
  have hk : k < (l.drop p).length := by simp; omega
  rw [List.take_succ_eq_append_getElem hk]
  congr 2
  simp [List.getD, h]

/-- The bytes are how their number is written just where the last one of several is not 0 and the number is not too great. -/
theorem good_iff {l : List Int} (hu : U8 l) {p k : Nat} (hs : Stop l p k) :
    (putNum (valTo l p (k + 1) : Nat) = cut l p k) ↔ ((k = 0 ∨ l.getD (p + k) 0 ≠ 0) ∧ valTo l p (k + 1) ≤ 2147483647) := by
  obtain ⟨h5, hlt, hlow, hhi⟩ := hs
  have hv : valL (cut l p k) = valTo l p (k + 1) := by unfold cut; exact valL_take l p (k + 1) (by omega)
  have hd := hu.at (p + k)
  constructor
  · intro h
    have hle : valTo l p (k + 1) ≤ 2147483647 := by
      rcases Nat.lt_or_ge 2147483647 (valTo l p (k + 1)) with h' | h'
      · rw [putNum, if_neg (by omega)] at h
        have := congrArg List.length h
        rw [cut_len hlt] at this
        simp at this
      · exact h'
    refine ⟨?_, hle⟩
    rw [putNum, if_pos (by omega)] at h
    by_cases hk : k = 0
    · exact .inl hk
    · right
      intro h0
      rw [cut_snoc hlt, h0] at h
      refine vlq_last 4 _ _ h ?_
      intro he
      have := congrArg List.length he
      simp at this
      omega
  · rintro ⟨hz, hle⟩
    rw [putNum, if_pos (by omega)]
    simp only [Int.toNat_natCast]
    rw [← hv, cut_snoc hlt]
    refine vlq_valL _ (fun n hn => hu n (List.mem_of_mem_drop (List.mem_of_mem_take hn))) _ hd.1 hlow ?_ ?_ 4 ?_
    · intro x hx
      obtain ⟨i, hi, rfl⟩ := List.mem_iff_getElem.1 hx
      simp at hi
      have := hhi i (by omega)
      simpa [List.getD, show p + i < l.length by omega] using this
    · rcases hz with rfl | h
      · left; simp
      · exact .inr h
    · simp; omega
end Go.Proofs.YthfgfhbinggpfaaDoor

/-
  Own text: a part of a slice of bytes, as a text.
-/
namespace Go.Proofs.YthfgfhbinggpfaaDoor
open Go.RowKit

/-- Where the part of a slice begins that is cut out from place lo on. -/
def subAddr (b off lo cap : Nat) : Addr := if cap = lo then ⟨b, off, none⟩ else ⟨b, off + lo, none⟩
theorem slice_run (b off len cap lo n : Nat) (h : lo + n ≤ cap) (W : World) :
    (Instr.slice 94 (.slice (some ⟨b, off, none⟩) len cap) (some (.int .i64 (lo : Int))) (some (.int .i64 ((lo : Int) + (n : Int)))) none).run Tryd.prog W = .ok (.slice (some (subAddr b off lo cap)) n (cap - lo)) W := by
  have hs : (sizeOf (Tryd.prog.elem 94)).run Tryd.prog W = .ok 1 W := by kernel_rfl
  have hu : Tryd.prog.underlying 94 = some (.slice (Tryd.prog.elem 94)) := by kernel_rfl
  rw [run_slice_lh W 94 (some ⟨b, off, none⟩) len cap hu .i64 .i64 (lo : Int) ((lo : Int) + (n : Int)) (by omega) (by omega) (by omega), hs]
  simp only [Result.andThen, sliced, subAddr]
  have e1 : ((lo : Int) + (n : Int)).toNat - (lo : Int).toNat = n := by omega
  have e2 : (lo : Int).toNat = lo := by omega
  rw [e1, e2]
  by_cases hc : cap = lo
  · simp [hc]
  · simp [hc, Addr.add_lit]

/-- The text that stands from place lo on, n bytes long. -/
def subT (l : List Int) (lo n : Nat) : ByteArray := bytesS ((l.drop lo).take n)
theorem conv_sub {b off cap lo n : Nat} {l : List Int} {W : World} (hu : U8 l) (hl : lo + n ≤ l.length) (hcap : l.length ≤ cap) (hc : ∀ i, i < l.length → W.cell? ⟨b, off + i, none⟩ = some (.int .u8 (l.getD i 0))) :
    (convert 94 9 (.slice (some (subAddr b off lo cap)) n (cap - lo))).run Tryd.prog W = .ok (.string (subT l lo n)) W := by
  have hus : U8 ((l.drop lo).take n) := fun x hx => hu x (List.mem_of_mem_drop (List.mem_of_mem_take hx))
  have hlen : ((l.drop lo).take n).length = n := by simp; omega
  by_cases h0 : n = 0
  · subst h0
    unfold subAddr
    have e : (l.drop lo).take 0 = [] := rfl
    split
    · have := conv_rd (w := W) (b := b) (off := off) (cap := cap - lo) (l := []) (fun x hx => by simp at hx) (fun i hi => by simp at hi)
      simpa [subT] using this
    · have := conv_rd (w := W) (b := b) (off := off + lo) (cap := cap - lo) (l := []) (fun x hx => by simp at hx) (fun i hi => by simp at hi)
      simpa [subT] using this
  · have e : subAddr b off lo cap = ⟨b, off + lo, none⟩ := by unfold subAddr; rw [if_neg (by omega)]
    rw [e]
    have := conv_rd (w := W) (b := b) (off := off + lo) (cap := cap - lo) (l := (l.drop lo).take n) hus (fun i hi => by
      rw [hlen] at hi
      rw [Nat.add_assoc, hc (lo + i) (by omega)]
      congr 2
      simp [List.getD, hi])
    rw [hlen] at this
    exact this

/-- There is a text at this place: s, and 'fin' is the place behind it. -/
def GoodT (l : List Int) (at' : Int) (s : ByteArray) (fin : Nat) : Prop :=
  ∃ n next, Good l at' n next ∧ next + n ≤ l.length ∧ s = subT l next n ∧ fin = next + n
theorem GoodT.unique {l : List Int} {at' : Int} {s s' : ByteArray} {e e' : Nat} (h : GoodT l at' s e) (h' : GoodT l at' s' e') : s = s' ∧ e = e' := by
  obtain ⟨n, x, h1, _, h2, h3⟩ := h
  obtain ⟨n', x', h1', _, h2', h3'⟩ := h'
  obtain ⟨rfl, rfl⟩ := h1.unique h1'
  exact ⟨by rw [h2, h2'], by rw [h3, h3']⟩
theorem Good.next_le {l : List Int} {at' : Int} {n next : Nat} (h : Good l at' n next) : next ≤ l.length ∧ n ≤ 2147483647 := by
  obtain ⟨p, k, _, ⟨_, h1, _, _⟩, _, _, h2, h3⟩ := h
  exact ⟨by omega, h2⟩
theorem notGoodT {l : List Int} {at' : Int} (h : ∀ n next, ¬ Good l at' n next) : ∀ s e, ¬ GoodT l at' s e := by
  rintro s e ⟨n, x, h1, _⟩
  exact h n x h1
theorem longGoodT {l : List Int} {at' : Int} {n next : Nat} (h : Good l at' n next) (hlong : l.length < next + n) : ∀ s e, ¬ GoodT l at' s e := by
  rintro s e ⟨n', x', h1, h2, _⟩
  obtain ⟨rfl, rfl⟩ := h.unique h1
  omega
end Go.Proofs.YthfgfhbinggpfaaDoor

/-
  Own text: which entries a text tells.
-/
namespace Go.Proofs.YthfgfhbinggpfaaDoor
open Go.RowKit

theorem bytes_rowE (s : ByteArray) (w : World) (hs : s.size ≤ 1048576) : ∃ cap W, (convert 9 94 (.string s)).run Tryd.prog w = .ok (.slice (some ⟨w.heap.size, 0, none⟩) (bytesOf s).length cap) W ∧ Rd .u8 W (some ⟨w.heap.size, 0, none⟩) (bytesOf s) ∧ Below w.heap.size w W ∧ w.heap.size < W.heap.size ∧ (bytesOf s).length ≤ cap ∧ cap ≤ maxLen := by
  have hcv := run_bytes_of_string (P := Tryd.prog) w 9 94 5 s Tryd.underlying9 Tryd.underlying94 Tryd.underlying5
  have hge := grownCap_ge w s.size 0 5
  have hle := grownCap_le_maxLen w s.size 0 5 (by unfold maxLen; omega)
  generalize hcap : grownCap w s.size 0 5 = cap at hcv hge hle
  generalize hW : w.drew.alloc (.cells (bytesRow s cap) 5 ((bytesRow s cap).size, (bytesRow s cap).size + 1)) = W at hcv
  have e1 : W.heap[w.heap.size]? = some (.cells (bytesRow s cap) 5 ((bytesRow s cap).size, (bytesRow s cap).size + 1)) := by rw [← hW]; exact heap_alloc_new w.drew _
  refine ⟨cap, W, by rw [bytesOf_len]; exact hcv, .inr ⟨w.heap.size, 0, rfl, (Array.getElem?_eq_some_iff.1 e1).1, fun i hi => ?_⟩, by rw [← hW]; exact (Below.refl _ _).drew.alloc (Nat.le_refl _) _, (Array.getElem?_eq_some_iff.1 e1).1, by rw [bytesOf_len]; exact hge, hle⟩
  rw [bytesOf_len] at hi
  have hj : i < s.data.size := hi
  rw [Nat.zero_add, cell_of_row W w.heap.size i _ _ _ e1, bytesRow_at s cap i hj]
  simp [bytesOf, List.getD, Array.getElem?_eq_getElem hj]

/-- From this place on to its end the text tells these entries. -/
inductive ReadsE (l : List Int) : Nat → List EntD → Prop
  | nil {p : Nat} : l.length ≤ p → ReadsE l p []
  | cons {p q r n : Nat} {s : ByteArray} {es : List EntD} : p < l.length → GoodT l p s q → Good l q n r → ReadsE l r es → ReadsE l p ((s, (n : Int)) :: es)
theorem ReadsE.unique {l : List Int} {p : Nat} {es es' : List EntD} (h : ReadsE l p es) : ReadsE l p es' → es = es' := by
  induction h generalizing es' with
  | nil h =>
    intro h'
    cases h' with
    | nil _ => rfl
    | cons h1 _ _ _ => omega
  | cons h1 h2 h3 _ ih =>
    intro h'
    cases h' with
    | nil h => omega
    | cons _ g2 g3 g4 =>
      obtain ⟨rfl, rfl⟩ := h2.unique g2
      obtain ⟨rfl, rfl⟩ := h3.unique g3
      rw [ih g4]
/-- Up to this place the text has told these entries. -/
structure Acc (l : List Int) (acc : List EntD) (p : Nat) : Prop where
  fwd : ∀ es, ReadsE l p es → ReadsE l 0 (acc ++ es)
  bwd : ∀ es', ReadsE l 0 es' → ∃ es, es' = acc ++ es ∧ ReadsE l p es
  siz : szEn acc ≤ p
  all : ∀ e ∈ acc, e.1.size ≤ l.length
  le : p ≤ l.length
theorem Acc.start (l : List Int) : Acc l [] 0 := ⟨fun _ h => h, fun es h => ⟨es, rfl, h⟩, Nat.le_refl _, by simp, Nat.zero_le _⟩
theorem subT_size (l : List Int) (a n : Nat) (h : a + n ≤ l.length) : (subT l a n).size = n := by
  unfold subT bytesS
  simp [ByteArray.size]
  omega
theorem goodT_next {l : List Int} {p q : Nat} {s : ByteArray} (h : GoodT l p s q) : p + 1 + s.size ≤ q ∧ q ≤ l.length := by
  obtain ⟨n, next, ⟨p', k, h1, _, _, _, _, h6⟩, h2, rfl, rfl⟩ := h
  rw [subT_size l next n h2]
  omega
theorem good_nextE {l : List Int} {p n q : Nat} (h : Good l p n q) : p + 1 ≤ q ∧ q ≤ l.length := by
  have h2 := h.next_le.1
  obtain ⟨p', k, h1, _, _, _, _, h6⟩ := h
  omega
theorem szEn_snoc (l : List EntD) (e : EntD) : szEn (l ++ [e]) = szEn l + 1 + e.1.size := by
  unfold szEn
  rw [List.map_append, List.sum_append]
  simp
  omega
theorem Acc.step {l : List Int} {acc : List EntD} {p q r n : Nat} {s : ByteArray} (h : Acc l acc p) (hp : p < l.length) (hT : GoodT l p s q) (hN : Good l q n r) : Acc l (acc ++ [(s, (n : Int))]) r := by
  have h1 := goodT_next hT
  have h2 := good_nextE hN
  refine ⟨fun es he => ?_, fun es' he' => ?_, ?_, ?_, h2.2⟩
  · rw [List.append_assoc]
    exact h.fwd _ (.cons hp hT hN he)
  · obtain ⟨es, rfl, he⟩ := h.bwd es' he'
    cases he with
    | nil h => omega
    | cons _ g2 g3 g4 =>
      obtain ⟨rfl, rfl⟩ := hT.unique g2
      obtain ⟨rfl, rfl⟩ := hN.unique g3
      exact ⟨_, by rw [List.append_assoc]; rfl, g4⟩
  · rw [szEn_snoc]
    have := h.siz
    show szEn acc + 1 + s.size ≤ r
    omega
  · intro e he
    rcases List.mem_append.1 he with h3 | h3
    · exact h.all e h3
    · obtain rfl : e = (s, (n : Int)) := by simpa using h3
      show s.size ≤ _
      omega
theorem Acc.noText {l : List Int} {acc : List EntD} {p : Nat} (h : Acc l acc p) (hp : p < l.length) (hT : ∀ s q, ¬ GoodT l p s q) : ∀ es, ¬ ReadsE l 0 es := by
  intro es' he'
  obtain ⟨es, rfl, he⟩ := h.bwd es' he'
  cases he with
  | nil h => omega
  | cons _ g2 _ _ => exact hT _ _ g2
theorem Acc.noNum {l : List Int} {acc : List EntD} {p q : Nat} {s : ByteArray} (h : Acc l acc p) (hp : p < l.length) (hT : GoodT l p s q) (hN : ∀ n r, ¬ Good l q n r) : ∀ es, ¬ ReadsE l 0 es := by
  intro es' he'
  obtain ⟨es, rfl, he⟩ := h.bwd es' he'
  cases he with
  | nil h => omega
  | cons _ g2 g3 _ =>
    obtain ⟨rfl, rfl⟩ := hT.unique g2
    exact hN _ _ g3
theorem Acc.done {l : List Int} {acc : List EntD} {p : Nat} (h : Acc l acc p) (hp : ¬ p < l.length) : ReadsE l 0 acc := by
  have := h.fwd [] (.nil (by omega))
  rw [List.append_nil] at this
  exact this
theorem Acc.sm {l : List Int} {acc : List EntD} {p : Nat} (h : Acc l acc p) (hl : l.length ≤ 1048576) : SmE acc := ⟨by have := h.siz; have := h.le; omega, fun e he => by have := h.all e he; omega⟩
/-- What a text tells as a directory. -/
def DirP (s : ByteArray) (es : List EntD) : Prop := ReadsE (bytesOf s) 0 es ∧ enOk es = true
noncomputable def dirL (s : ByteArray) : List EntD := @dite _ (∃ es, DirP s es) (Classical.propDecidable _) (fun h => Classical.choose h) (fun _ => [])
noncomputable def dirOk (s : ByteArray) : Bool := @decide (∃ es, DirP s es) (Classical.propDecidable _)
theorem dir_yes {s : ByteArray} {es : List EntD} (h : ReadsE (bytesOf s) 0 es) (ho : enOk es = true) : dirL s = es ∧ dirOk s = true := by
  have hx : ∃ es, DirP s es := ⟨es, h, ho⟩
  refine ⟨?_, by unfold dirOk; exact @decide_eq_true _ (Classical.propDecidable _) hx⟩
  unfold dirL
  rw [dif_pos hx]
  exact (Classical.choose_spec hx).1.unique h
theorem dir_none {s : ByteArray} (h : ¬ ∃ es, DirP s es) : dirL s = [] ∧ dirOk s = false := by
  refine ⟨?_, by unfold dirOk; exact @decide_eq_false _ (Classical.propDecidable _) h⟩
  unfold dirL
  rw [dif_neg h]
theorem dir_no {s : ByteArray} (h : ∀ es, ¬ ReadsE (bytesOf s) 0 es) : dirL s = [] ∧ dirOk s = false := dir_none fun ⟨es, h1, _⟩ => h es h1
theorem dir_bad {s : ByteArray} {es : List EntD} (h : ReadsE (bytesOf s) 0 es) (ho : enOk es = false) : dirL s = [] ∧ dirOk s = false := dir_none fun ⟨es', h1, h2⟩ => by
  rw [h1.unique h, ho] at h2
  cases h2
end Go.Proofs.YthfgfhbinggpfaaDoor

/-
  Own text: the specification's GetNum answers as 'Good' says.
-/
namespace Go.Proofs.YthfgfhbinggpfaaDoor
open Go.RowKit

theorem i64_or_nat (a b : Nat) (ha : a < 4611686018427387904) (hb : b < 4611686018427387904) : bits .or .i64 (a : Int) (b : Int) = ((a ||| b : Nat) : Int) := by
  have hx : a ||| b < 2 ^ 62 := Nat.or_lt_two_pow (by omega) (by omega)
  have h1 : (BitVec.ofInt 64 (a : Int)).toNat = a := by rw [BitVec.ofInt_natCast, BitVec.toNat_ofNat]; omega
  have h2 : (BitVec.ofInt 64 (b : Int)).toNat = b := by rw [BitVec.ofInt_natCast, BitVec.toNat_ofNat]; omega
  have h3 : bits .or .i64 (a : Int) (b : Int) = IntKind.wrap .i64 ((BitVec.ofInt 64 (a : Int) ||| BitVec.ofInt 64 (b : Int)).toNat : Int) := by rfl
  rw [h3, BitVec.toNat_or, h1, h2, IntKind.wrap_i64]
  omega
theorem or_add (n d k : Nat) (hn : n < 128 ^ k) : n ||| d * 128 ^ k = n + d * 128 ^ k := by
  have e : (128 : Nat) ^ k = 2 ^ (7 * k) := by rw [Nat.pow_mul]
  rw [e] at hn ⊢
  have := Nat.two_pow_add_eq_or_of_lt hn d
  rw [Nat.or_comm, Nat.mul_comm, ← this]; omega

theorem valTo_lt5 (l : List Int) (p k : Nat) (hk : k ≤ 5) : valTo l p k < 34359738368 := by
  have h := valTo_lt l p k
  have h2 : 128 ^ k ≤ 128 ^ 5 := Nat.pow_le_pow_right (by omega) hk
  have h3 : (128 : Nat) ^ 5 = 34359738368 := by decide
  omega
theorem or_val (l : List Int) (p k : Nat) (hk : k < 5) (hu : 0 ≤ l.getD (p + k) 0 ∧ l.getD (p + k) 0 < 256) :
    bits .or .i64 (valTo l p k : Int) (wrap64 (l.getD (p + k) 0 % 128 * 2 ^ (7 * k))) = (valTo l p (k + 1) : Int) := by
  have hv := valTo_lt l p k
  have hv5 := valTo_lt5 l p k (by omega)
  have hs := valTo_lt5 l p (k + 1) (by omega)
  obtain ⟨D, hD⟩ : ∃ D : Nat, l.getD (p + k) 0 = (D : Int) := ⟨(l.getD (p + k) 0).toNat, by omega⟩
  have e1 : l.getD (p + k) 0 % 128 * 2 ^ (7 * k) = ((D % 128 * 128 ^ k : Nat) : Int) := by
    rw [hD, Int.pow_mul]
    simp
  have hstep : valTo l p (k + 1) = valTo l p k + D % 128 * 128 ^ k := by rw [valTo, hD]; simp
  have hle : D % 128 * 128 ^ k < 34359738368 := by omega
  rw [e1, IntWalk.wrap64_in _ ⟨by omega, by omega⟩, i64_or_nat _ _ (by omega) (by omega), or_add _ _ _ hv, hstep]

set_option maxRecDepth 20000 in
set_option maxHeartbeats 800000 in
theorem specGetNum (x : Option Addr) (cap : Nat) (l : List Int) (at' : Int) (w : World) (hl : l.length ≤ 1048581) (hu : U8 l) (hr : Rd .u8 w x l) (ha : at' ≤ 9223372036854775807) :
    Calls Tryd.prog 86 #[.slice x l.length cap, .int .i64 at'] w fun e w' => ((∃ n next, Good l at' n next ∧ e = .returned (.tuple #[.int .i64 (n : Nat), .int .i64 (next : Nat), .bool true])) ∨ ((∀ n next, ¬ Good l at' n next) ∧ e = .returned (.tuple #[.int .i64 0, .int .i64 0, .bool false]))) ∧ w' = w := by
  have HR : Hid (Rd .u8 w x l) := hr
  have HU : Hid (U8 l) := hu
  clear hr hu
  by_cases hneg : at' < 0
  · have HN : Hid (∀ n next, ¬ Good l at' n next) := by
      rintro n next ⟨p, k, rfl, _⟩
      omega
    go_enter Tryd.func86, Tryd.ntmps86
    go_wp2
    go_loop [7, 8] (fun n i => n = .int .i64 0 ∧ i = .int .i64 0) (fun _ _ => 0)
    case atStart => exact ⟨rfl, rfl⟩
    case round =>
      obtain ⟨rfl, rfl⟩ := hrel
      go_wp2
      go_ret3
      exact ⟨.inr ⟨HN.out, rfl⟩, rfl⟩
  · obtain ⟨p, rfl⟩ : ∃ p : Nat, at' = (p : Int) := ⟨at'.toNat, by omega⟩
    go_enter Tryd.func86, Tryd.ntmps86
    go_wp2
    go_loop [7, 8] (fun n i => ∃ k : Nat, k ≤ 5 ∧ i = .int .i64 k ∧ n = .int .i64 (valTo l p k : Nat) ∧ Hid (∀ j, j < k → p + j < l.length ∧ 128 ≤ l.getD (p + j) 0)) (fun _ i => 5 - (intOf i).toNat)
    case atStart => exact ⟨0, Nat.zero_le _, rfl, rfl, fun j hj => by omega⟩
    case round =>
      obtain ⟨k, hk, rfl, rfl, HA⟩ := hrel
      by_cases hk5 : k < 5
      · by_cases hin : p + k < l.length
        · obtain ⟨b, off, rfl, hb, hc⟩ : ∃ b off, x = some ⟨b, off, none⟩ ∧ b < w.heap.size ∧ ∀ i, i < l.length → w.cell? ⟨b, off + i, none⟩ = some (.int .u8 (l.getD i 0)) := by
            rcases HR.out with h | h
            · subst h; simp at hin
            · exact h
          have hcell := hc (p + k) hin
          clear hc
          have hub := HU.out.at (p + k)
          have hor : bits .or .i64 (valTo l p k : Int) (wrap64 (l.getD (p + k) 0 % 128 * 2 ^ (7 * k))) = (valTo l p (k + 1) : Int) := or_val l p k hk5 hub
          have hvl := valTo_lt5 l p (k + 1) (by omega)
          have HYES : Hid (l.getD (p + k) 0 < 128 → (k = 0 ∨ l.getD (p + k) 0 ≠ 0) → valTo l p (k + 1) ≤ 2147483647 → Good l p (valTo l p (k + 1)) (p + k + 1)) :=
            fun h1 h2 h3 => ⟨p, k, rfl, ⟨hk5, hin, h1, fun j hj => (HA.out j hj).2⟩, h2, rfl, h3, rfl⟩
          have HNO : Hid (l.getD (p + k) 0 < 128 → ¬ ((k = 0 ∨ l.getD (p + k) 0 ≠ 0) ∧ valTo l p (k + 1) ≤ 2147483647) → ∀ n next, ¬ Good l p n next) := by
            rintro h1 h2 n next ⟨p', k', hp', hs, h3, rfl, h4, rfl⟩
            obtain rfl : p = p' := by omega
            obtain rfl : k = k' := Stop.unique (p := p) ⟨hk5, hin, h1, fun j hj => (HA.out j hj).2⟩ hs
            exact h2 ⟨h3, h4⟩
          have HGO : Hid (128 ≤ l.getD (p + k) 0 → ∀ j, j < k + 1 → p + j < l.length ∧ 128 ≤ l.getD (p + j) 0) := by
            intro h j hj
            rcases Nat.lt_succ_iff_lt_or_eq.1 hj with h' | h'
            · exact HA.out j h'
            · subst h'; exact ⟨hin, h⟩
          clear HA
          have HV : Hid (∀ v, v = valTo l p (k + 1) → Value.int .i64 (v : Int) = .int .i64 (valTo l p (k + 1) : Int)) := by rintro v rfl; rfl
          generalize hV : valTo l p (k + 1) = V at *
          have HVV : Hid (valTo l p (k + 1) = V) := hV
          clear hV HV
          generalize l.getD (p + k) 0 = d at *
          by_cases hlow : d < 128
          · by_cases hz : 0 < k ∧ d = 0
            · obtain ⟨hz1, rfl⟩ := hz
              have hno := HNO.out (by omega) (by rintro ⟨h1 | h1, _⟩; omega; exact h1 rfl)
              have HN : Hid (∀ n next, ¬ Good l p n next) := hno
              clear hno HNO HYES HGO
              go_wp2
              go_ret3
              exact ⟨.inr ⟨HN.out, rfl⟩, rfl⟩
            · by_cases hbig : 2147483647 < V
              · have hno := HNO.out hlow (by rintro ⟨_, h1⟩; omega)
                have HN : Hid (∀ n next, ¬ Good l p n next) := hno
                clear hno HNO HYES HGO
                have hbig' : (2147483647 : Int) < (V : Int) := by omega
                go_wp2
                all_goals go_ret3
                all_goals exact ⟨.inr ⟨HN.out, rfl⟩, rfl⟩
              · have hyes := HYES.out hlow (by omega) (by omega)
                have HY : Hid (Good l p V (p + k + 1)) := hyes
                clear hyes HNO HYES HGO
                have hbig' : (V : Int) ≤ 2147483647 := by omega
                rcases Nat.eq_zero_or_pos k with h0 | h0
                · have hk0 : ¬ (0 : Int) < (k : Int) := by omega
                  clear h0
                  go_wp2
                  go_ret3
                  exact ⟨.inl ⟨V, p + k + 1, HY.out, by go_num⟩, rfl⟩
                · have hk0 : (0 : Int) < (k : Int) := by omega
                  have hd0 : (d == 0) = false := by simp; omega
                  go_wp2
                  go_ret3
                  exact ⟨.inl ⟨V, p + k + 1, HY.out, by go_num⟩, rfl⟩
          · have hgo := HGO.out (by omega)
            have HG2 : Hid (∀ j, j < k + 1 → p + j < l.length ∧ 128 ≤ l.getD (p + j) 0) := hgo
            clear hgo HNO HYES HGO
            go_wp2
            go_round
            case rel => exact ⟨k + 1, by omega, by go_num, by rw [HVV.out], HG2.out⟩
            case measure => simp [intOf]; omega
        · have HN : Hid (∀ n next, ¬ Good l p n next) := by
            rintro n next ⟨p', k', hp', ⟨h1, h2, h3, h4⟩, _⟩
            obtain rfl : p = p' := by omega
            rcases Nat.lt_or_ge k' k with h | h
            · have := (HA.out k' h).2; omega
            · omega
          go_wp2
          go_ret3
          exact ⟨.inr ⟨HN.out, rfl⟩, rfl⟩
      · have HN : Hid (∀ n next, ¬ Good l p n next) := by
          rintro n next ⟨p', k', hp', ⟨h1, h2, h3, h4⟩, _⟩
          obtain rfl : p = p' := by omega
          have := (HA.out k' (by omega)).2
          omega
        go_wp2
        go_ret3
        exact ⟨.inr ⟨HN.out, rfl⟩, rfl⟩
end Go.Proofs.YthfgfhbinggpfaaDoor

/-
  Own text: the specification's GetText answers as 'GoodT' says.
-/
namespace Go.Proofs.YthfgfhbinggpfaaDoor
open Go.RowKit

set_option maxRecDepth 20000 in
set_option maxHeartbeats 800000 in
theorem specGetText (x : Option Addr) (cap : Nat) (l : List Int) (at' : Int) (w : World) (hl : l.length ≤ 1048581) (hu : U8 l) (hcap : l.length ≤ cap) (hr : Rd .u8 w x l) (ha : at' ≤ 9223372036854775807) :
    Calls Tryd.prog 85 #[.slice x l.length cap, .int .i64 at'] w fun e w' => ((∃ s fin, GoodT l at' s fin ∧ e = .returned (.tuple #[.string s, .int .i64 (fin : Nat), .bool true])) ∨ ((∀ s fin, ¬ GoodT l at' s fin) ∧ e = .returned (.tuple #[.string ⟨#[]⟩, .int .i64 0, .bool false]))) ∧ w' = w := by
  have HR : Hid (Rd .u8 w x l) := hr
  have HU : Hid (U8 l) := hu
  clear hr hu
  go_enter Tryd.func85, Tryd.ntmps85
  go_wp2_with fail
  refine (specGetNum x cap l at' _ hl HU.out HR.out ha).mono ?_
  rintro e w1 ⟨⟨n, next, hgd, rfl⟩ | ⟨hno, rfl⟩, rfl⟩
  · have HGD : Hid (Good l at' n next) := hgd
    obtain ⟨hnx, hn⟩ := hgd.next_le
    have hpos : 0 < l.length := by
      obtain ⟨p, k, _, ⟨_, h1, _, _⟩, _⟩ := hgd
      omega
    clear hgd
    by_cases hlong : l.length < next + n
    · have HN : Hid (∀ s fin, ¬ GoodT l at' s fin) := longGoodT HGD.out hlong
      go_wp2
      go_ret3
      exact ⟨.inr ⟨HN.out, rfl⟩, rfl⟩
    · have HY : Hid (GoodT l at' (subT l next n) (next + n)) := ⟨n, next, HGD.out, by omega, rfl, rfl⟩
      obtain ⟨b, off, rfl, hb, hc⟩ : ∃ b off, x = some ⟨b, off, none⟩ ∧ b < w1.heap.size ∧ ∀ i, i < l.length → w1.cell? ⟨b, off + i, none⟩ = some (.int .u8 (l.getD i 0)) := by
        rcases HR.out with h | h
        · subst h; simp at hpos
        · exact h
      have hsl := slice_run b off l.length cap next n (by omega)
      have hcv := conv_sub (b := b) (off := off) (cap := cap) (lo := next) (n := n) (l := l) (W := w1) HU.out (by omega) hcap hc
      clear hc
      generalize subT l next n = s at *
      generalize subAddr b off next cap = A at *
      go_wp2
      go_ret3
      exact ⟨.inl ⟨s, next + n, HY.out, by go_num⟩, rfl⟩
  · have HN : Hid (∀ s fin, ¬ GoodT l at' s fin) := notGoodT hno
    clear hno
    go_wp2
    go_ret3
    exact ⟨.inr ⟨HN.out, rfl⟩, rfl⟩
end Go.Proofs.YthfgfhbinggpfaaDoor
