/-
  Own texts, several together.
-/
import Derived.Test.YtlidmnehpcodkaaDoorBunA
import Derived.Test.YtlidmnehpcodkaaDoorRows
import Derived.Laws.IdiomStrings
/-
  Own text, plain: a number as bytes, seven bits each, the low ones first.
-/
namespace Go.Proofs.YtlidmnehpcodkaaDoor
open Go.RowKit

def vlq : Nat → Nat → List Int
  | 0, n => [(n : Int)]
  | f + 1, n => if n < 128 then [(n : Int)] else ((n % 128 + 128 : Nat) : Int) :: vlq f (n / 128)

/-- The bytes of a number, as many as there are; nothing outside its range. -/
def putNum (n : Int) : List Int := if 0 ≤ n ∧ n ≤ 2147483647 then vlq 4 n.toNat else []

theorem vlq_small (f n : Nat) (h : n < 128) : vlq f n = [(n : Int)] := by cases f <;> simp [vlq, h]
theorem vlq_big (f n : Nat) (h : 128 ≤ n) : vlq (f + 1) n = ((n % 128 + 128 : Nat) : Int) :: vlq f (n / 128) := by simp [vlq, show ¬ n < 128 by omega]
theorem vlq_len (f n : Nat) : (vlq f n).length ≤ f + 1 := by
  induction f generalizing n with
  | zero => simp [vlq]
  | succ f ih =>
    by_cases h : n < 128
    · rw [vlq_small _ _ h]; simp
    · rw [vlq_big _ _ (by omega)]; have := ih (n / 128); simp; omega
theorem vlq_u8 (f n : Nat) (h : n < 128 ^ (f + 1)) : U8 (vlq f n) := by
  induction f generalizing n with
  | zero => intro x hx; simp [vlq] at hx h; omega
  | succ f ih =>
    by_cases hn : n < 128
    · rw [vlq_small _ _ hn]; intro x hx; simp at hx; omega
    · rw [vlq_big _ _ (by omega)]
      intro x hx
      rcases List.mem_cons.1 hx with rfl | hx
      · omega
      · refine ih (n / 128) ?_ x hx
        rw [Nat.pow_succ] at h; omega
theorem putNum_len (n : Int) : (putNum n).length ≤ 5 := by unfold putNum; split; exact vlq_len 4 _; simp
theorem putNum_u8 (n : Int) : U8 (putNum n) := by
  unfold putNum; split
  · exact vlq_u8 4 _ (by omega)
  · intro x hx; simp at hx

/-- What a loop that writes a number down has done so far: 'pre' is written, m is left. -/
def Part (N m : Nat) (pre : List Int) : Prop := ∃ f, m < 128 ^ (f + 1) ∧ pre ++ vlq f m = vlq 4 N
theorem Part.start (N : Nat) (h : N ≤ 2147483647) : Part N N [] := ⟨4, by omega, rfl⟩
theorem Part.len {N m : Nat} {pre : List Int} (h : Part N m pre) : pre.length ≤ 5 := by
  obtain ⟨f, _, h⟩ := h
  have := vlq_len 4 N; rw [← h] at this; simp at this; omega
theorem Part.step {N m : Nat} {pre : List Int} (h : Part N m pre) (hm : 128 ≤ m) : Part N (m / 128) (pre ++ [((m : Int) % 128 + 128)]) := by
  obtain ⟨f, hf, h⟩ := h
  cases f with
  | zero => omega
  | succ f =>
    refine ⟨f, by rw [Nat.pow_succ] at hf; omega, ?_⟩
    rw [vlq_big f m hm] at h
    rw [← h]; simp
theorem Part.last {N m : Nat} {pre : List Int} (h : Part N m pre) (hm : m < 128) : pre ++ [(m : Int)] = vlq 4 N := by
  obtain ⟨f, _, h⟩ := h
  rw [vlq_small f m hm] at h; exact h

/-- The marks that the laws lay: k, k + 1, .. as bytes. -/
def marks (k n : Nat) : List Int := (List.range n).map fun i => (((k + i) % 256 : Nat) : Int)
def markTo (l : List Int) (k i : Nat) : List Int := marks k i ++ l.drop i
theorem marks_len (k n : Nat) : (marks k n).length = n := by simp [marks]
theorem markTo_zero (l : List Int) (k : Nat) : markTo l k 0 = l := by simp [markTo, marks]
theorem markTo_all (l : List Int) (k : Nat) : markTo l k l.length = marks k l.length := by simp [markTo]
theorem markTo_len (l : List Int) (k i : Nat) (h : i ≤ l.length) : (markTo l k i).length = l.length := by simp [markTo, marks_len]; omega
theorem markTo_set (l : List Int) (k i : Nat) (h : i < l.length) : (markTo l k i).set i (((k + i) % 256 : Nat) : Int) = markTo l k (i + 1) := by
  unfold markTo
  rw [List.set_append_right _ _ (by rw [marks_len]; exact Nat.le_refl _), marks_len, Nat.sub_self]
  have e : marks k (i + 1) = marks k i ++ [(((k + i) % 256 : Nat) : Int)] := by unfold marks; rw [List.range_succ, List.map_append]; rfl
  rw [e, List.append_assoc, List.drop_eq_getElem_cons h]; rfl
theorem marks_at (k n i : Nat) (h : i < n) : (marks k n).getD i 0 = (((k + i) % 256 : Nat) : Int) := by simp [marks, List.getD, h]
theorem wrap_mark (k i : Nat) : IntKind.u8.wrap ((k : Int) + (i : Int)) = (((k + i) % 256 : Nat) : Int) := by rw [IntKind.wrap_u8]; omega
end Go.Proofs.YtlidmnehpcodkaaDoor

/-
  Own text: the two Crc functions return the check sum 'crcTo', and turn nothing.
-/
namespace Go.Proofs.YtlidmnehpcodkaaDoor
open Go.RowKit

theorem odd_div (x : Nat) (h : (x : Int) % 2 = 1) : cstep x = (x / 2) ^^^ 3988292384 := by unfold cstep; rw [if_pos (by omega)]
theorem even_div (x : Nat) (h : ¬ (x : Int) % 2 = 1) : cstep x = x / 2 := by unfold cstep; rw [if_neg (by omega)]

theorem i64_half (x : Nat) (h : x < 4294967296) : bits .xor .i64 ((x : Int) / 2) 3988292384 = (((x / 2) ^^^ 3988292384 : Nat) : Int) := by
  have := i64_xor_nat (x / 2) 3988292384 (by omega) (by omega); simpa using this
theorem i64_last (x : Nat) (h : x < 4294967296) : bits .xor .i64 (x : Int) 4294967295 = ((x ^^^ 4294967295 : Nat) : Int) := by
  have := i64_xor_nat x 4294967295 (by omega) (by omega); simpa using this

set_option maxHeartbeats 400000 in
theorem specCrc (a : Option Addr) (cap : Nat) (l : List Int) (w : World) (hl : l.length ≤ 1048576) (hu : U8 l) (hr : Rd .u8 w a l) :
    Calls Tryd.prog 105 #[.slice a l.length cap] w fun e w' => e = .returned (.int .i64 ((crcTo l l.length ^^^ 4294967295 : Nat) : Int)) ∧ w' = w := by
  have HCS : Hid (∀ k, k < l.length → ∃ b off, a = some ⟨b, off, none⟩ ∧ w.cell? ⟨b, off + k, none⟩ = some (.int .u8 (l.getD k 0))) := by
    intro k hk
    rcases hr with rfl | ⟨b, off, rfl, hlt, hc⟩
    · simp at hk
    · exact ⟨b, off, rfl, hc k hk⟩
  clear hr
  go_enter Tryd.func105, Tryd.ntmps105
  go_wp2
  go_loop [3, 4] (fun x i => ∃ k : Nat, k ≤ l.length ∧ i = .int .i64 k ∧ x = .int .i64 (crcTo l k : Nat)) (fun _ i => l.length - (intOf i).toNat)
  case atStart => exact ⟨0, Nat.zero_le _, rfl, rfl⟩
  case round =>
    obtain ⟨k, hk, rfl, rfl⟩ := hrel
    have hcr := crcTo_lt hu k
    by_cases hlt : k < l.length
    · obtain ⟨b, off, rfl, hcell⟩ := HCS.out k hlt
      have hb := hu.at k
      have HS : Hid (crcTo l (k + 1) = csteps 8 (crcTo l k ^^^ (l.getD k 0).toNat)) := rfl
      generalize l.getD k 0 = c at *
      obtain ⟨hb0, hb1⟩ := hb
      have hx0 : bits .xor .i64 (crcTo l k : Int) c = ((crcTo l k ^^^ c.toNat : Nat) : Int) := by simpa using i64_xor (crcTo l k) c (by omega) (by omega) hb0 (by omega)
      have hX := xor_lt hcr (show c.toNat < 4294967296 by omega)
      go_wp2
      clear hx0
      generalize crcTo l k ^^^ c.toNat = X at *
      go_loop [3, 5] (fun x j => ∃ m : Nat, m ≤ 8 ∧ j = .int .i64 m ∧ x = .int .i64 (csteps m X : Nat)) (fun _ j => 8 - (intOf j).toNat)
      case atStart => exact ⟨0, Nat.zero_le _, rfl, rfl⟩
      case round =>
        obtain ⟨m, hm, rfl, rfl⟩ := hrel
        have hcs := csteps_lt hX m
        by_cases hm8 : m < 8
        · have HT : Hid (csteps (m + 1) X = cstep (csteps m X)) := rfl
          generalize csteps m X = y at *
          have hh := i64_half y hcs
          by_cases ho : (y : Int) % 2 = 1
          · have ho' : ((y : Int) % 2 == 1) = true := by simpa using ho
            go_wp2
            go_round
            case rel => exact ⟨m + 1, by omega, by go_num, by rw [HT.out, odd_div y ho]⟩
            case measure => simp [intOf]; omega
          · have ho' : ((y : Int) % 2 == 1) = false := by simpa using ho
            go_wp2
            go_round
            case rel => exact ⟨m + 1, by omega, by go_num, by rw [HT.out, even_div y ho]; simp⟩
            case measure => simp [intOf]; omega
        · obtain rfl : m = 8 := by omega
          go_wp2
          go_round
          case rel => exact ⟨k + 1, by omega, by go_num, by rw [HS.out]⟩
          case measure => simp [intOf]; omega
    · obtain rfl : k = l.length := by omega
      have hx := i64_last _ hcr
      go_wp2
      go_ret
      exact ⟨rfl, rfl⟩

set_option maxHeartbeats 400000 in
theorem implCrc (a : Option Addr) (cap : Nat) (l : List Int) (w : World) (hl : l.length ≤ 1048576) (hu : U8 l) (hr : Rd .u8 w a l) :
    Calls Tryd.prog 107 #[.slice a l.length cap] w fun e w' => e = .returned (.int .i64 ((crcTo l l.length ^^^ 4294967295 : Nat) : Int)) ∧ w' = w := by
  have HCS : Hid (∀ k, k < l.length → ∃ b off, a = some ⟨b, off, none⟩ ∧ w.cell? ⟨b, off + k, none⟩ = some (.int .u8 (l.getD k 0))) := by
    intro k hk
    rcases hr with rfl | ⟨b, off, rfl, hlt, hc⟩
    · simp at hk
    · exact ⟨b, off, rfl, hc k hk⟩
  clear hr
  go_enter Tryd.func107, Tryd.ntmps107
  go_wp2
  go_loop [3, 9] (fun x i => ∃ k : Nat, k ≤ l.length ∧ i = .int .i64 k ∧ x = .int .u32 (crcTo l k : Nat)) (fun _ i => l.length - (intOf i).toNat)
  case atStart => exact ⟨0, Nat.zero_le _, rfl, rfl⟩
  case round =>
    obtain ⟨k, hk, rfl, rfl⟩ := hrel
    have hcr := crcTo_lt hu k
    by_cases hlt : k < l.length
    · obtain ⟨b, off, rfl, hcell⟩ := HCS.out k hlt
      have hb := hu.at k
      have HS : Hid (crcTo l (k + 1) = csteps 8 (crcTo l k ^^^ (l.getD k 0).toNat)) := rfl
      generalize l.getD k 0 = c at *
      obtain ⟨hb0, hb1⟩ := hb
      have hx0 : bits .xor .u32 (crcTo l k : Int) c = ((crcTo l k ^^^ c.toNat : Nat) : Int) := by simpa using u32_xor (crcTo l k) c (by omega) (by omega) hb0 (by omega)
      have hX := xor_lt hcr (show c.toNat < 4294967296 by omega)
      go_wp2
      clear hx0
      generalize crcTo l k ^^^ c.toNat = X at *
      go_loop [3, 17] (fun x j => ∃ m : Nat, m ≤ 8 ∧ j = .int .i64 m ∧ x = .int .u32 (csteps m X : Nat)) (fun _ j => 8 - (intOf j).toNat)
      case atStart => exact ⟨0, Nat.zero_le _, rfl, rfl⟩
      case round =>
        obtain ⟨m, hm, rfl, rfl⟩ := hrel
        have hcs := csteps_lt hX m
        by_cases hm8 : m < 8
        · have HT : Hid (csteps (m + 1) X = cstep (csteps m X)) := rfl
          generalize csteps m X = y at *
          have hh : bits .xor .u32 ((y : Int) / 2) 3988292384 = (((y / 2) ^^^ 3988292384 : Nat) : Int) := by
            have := u32_xor_nat (y / 2) 3988292384 (by omega) (by omega); simpa using this
          by_cases ho : (y : Int) % 2 = 1
          · have ho' : ((y : Int) % 2 == 1) = true := by simpa using ho
            go_wp2
            go_round
            case rel => exact ⟨m + 1, by omega, by go_num, by rw [HT.out, odd_div y ho]⟩
            case measure => simp [intOf]; omega
          · have ho' : ((y : Int) % 2 == 1) = false := by simpa using ho
            go_wp2
            go_round
            case rel => exact ⟨m + 1, by omega, by go_num, by rw [HT.out, even_div y ho]; simp⟩
            case measure => simp [intOf]; omega
        · obtain rfl : m = 8 := by omega
          go_wp2
          go_round
          case rel => exact ⟨k + 1, by omega, by go_num, by rw [HS.out]⟩
          case measure => simp [intOf]; omega
    · obtain rfl : k = l.length := by omega
      have hx : bits .xor .u32 (crcTo l l.length : Int) 4294967295 = ((crcTo l l.length ^^^ 4294967295 : Nat) : Int) := by
        have := u32_xor_nat (crcTo l l.length) 4294967295 (by omega) (by omega); simpa using this
      have hy := xor_lt hcr (show 4294967295 < 4294967296 by omega)
      go_wp2
      go_ret
      exact ⟨rfl, rfl⟩
end Go.Proofs.YtlidmnehpcodkaaDoor

/-
  Own text: the two PutNum functions answer a new row that holds 'putNum', and turn nothing that was there.
-/
namespace Go.Proofs.YtlidmnehpcodkaaDoor
open Go.RowKit

theorem Tryd.infoU8 : (Tryd.prog.info? 5).map (fun i => (i.zero, i.size, i.bytes)) = some (some (.int .u8 0), 1, 1) := by kernel_rfl

theorem inY (n : Int) (w : World) (h : 0 ≤ n ∧ n ≤ 2147483647) : Calls Tryd.prog 76 #[.int .i64 n, .int .i64 0, .int .i64 2147483647] w fun e w' => e = .returned (.bool true) ∧ w' = w := by
  obtain ⟨h1, h2⟩ := h
  go_enter Tryd.func76, Tryd.ntmps76
  go_wp2
  go_ret
  exact ⟨rfl, rfl⟩

theorem inN (n : Int) (w : World) (h : ¬ (0 ≤ n ∧ n ≤ 2147483647)) : Calls Tryd.prog 76 #[.int .i64 n, .int .i64 0, .int .i64 2147483647] w fun e w' => e = .returned (.bool false) ∧ w' = w := by
  by_cases h1 : 0 ≤ n
  · have h2 : ¬ n ≤ 2147483647 := fun x => h ⟨h1, x⟩
    clear h
    go_enter Tryd.func76, Tryd.ntmps76
    go_wp2
    go_ret
    exact ⟨rfl, rfl⟩
  · clear h
    go_enter Tryd.func76, Tryd.ntmps76
    go_wp2
    go_ret
    exact ⟨rfl, rfl⟩

set_option maxRecDepth 20000 in
set_option maxHeartbeats 400000 in
theorem implPutNum (n : Int) (w : World) :
    Calls Tryd.prog 69 #[.int .i64 n] w fun e w' => ∃ v, e = .returned v ∧ w'.ownsRow w.heap.size 5 1 v (putNum n).length ((putNum n).map (Value.int .u8)) ∧ Below w.heap.size w w' := by
  obtain ⟨i0, hi, hz0, hz1, hz2⟩ := info_parts Tryd.infoU8
  by_cases hneg : n < 0
  · have hp : Hid (putNum n = []) := by show putNum n = []; unfold putNum; rw [if_neg (by omega)]
    go_enter Tryd.func69, Tryd.ntmps69
    go_wp2
    go_ret
    exact ⟨_, rfl, by rw [hp.out]; exact World.ownsRow_nil _ _ _ _, Below.refl _ _⟩
  · by_cases hbig : 2147483647 < n
    · have hp : Hid (putNum n = []) := by show putNum n = []; unfold putNum; rw [if_neg (by omega)]
      go_enter Tryd.func69, Tryd.ntmps69
      go_wp2
      go_ret
      exact ⟨_, rfl, by rw [hp.out]; exact World.ownsRow_nil _ _ _ _, Below.refl _ _⟩
    · obtain ⟨N, rfl⟩ := Int.eq_ofNat_of_zero_le (show 0 ≤ n by omega)
      have hp : Hid (putNum N = vlq 4 N) := by show putNum N = vlq 4 N; unfold putNum; rw [if_pos (by omega)]; simp
      go_enter Tryd.func69, Tryd.ntmps69
      go_wp2
      go_loopw [0, 3] (fun x v wr => ∃ (m : Nat) (pre : List Int), x = .int .i64 m ∧ Hid (Part N m pre) ∧ m ≤ 2147483647 ∧ wr.ownsRow w.heap.size 5 1 v pre.length (pre.map (Value.int .u8)) ∧ Below w.heap.size w wr) (fun x _ _ => (intOf x).toNat)
      case atStart => exact ⟨N, [], rfl, Part.start N (by omega), by omega, World.ownsRow_nil _ _ _ _, Below.refl _ _⟩
      case round =>
        obtain ⟨m, pre, rfl, HP, hm, hown, hbel⟩ := hrel
        have hpl := HP.out.len
        by_cases h128 : 128 ≤ m
        · go_wp2_with (at_builtin; refine wpList_append_own _ rfl _ _ 22 rfl w.heap.size 5 i0 (.int .u8 0) 1 1 Tryd.underlying22 hi hz0 hz1 hz2 rfl (by decide) _ _ _ rfl (hown.alloc _) ⟨wr.heap.size, 0, none⟩ 1 1 [.int .u8 ((m : Int) % 128 + 128)] rfl rfl ?c1 ?c2 ?c3 ?c4 ?c5 ?_)
          case c1 =>
            intro j u hj
            match j, hj with
            | 0, hj => simp at hj; subst hj; simp [Addr.add]
          case c2 => intro u hu; simp at hu; subst hu; rfl
          case c3 => unfold maxLen; omega
          case c4 => omega
          case c5 => have := hbel.size; simp; omega
          intro v' w1 hown' hgrow _
          have hbel' : Below w.heap.size w w1 := below_append hbel hbel.size hown hgrow
          have HP' : Hid (Part N (m / 128) (pre ++ [((m : Int) % 128 + 128)])) := HP.out.step h128
          clear hgrow hown hbel
          go_wp2
          go_roundw
          case rel => exact ⟨m / 128, pre ++ [((m : Int) % 128 + 128)], by go_num, HP', by omega, by simpa using hown', hbel'⟩
          case measure => simp [intOf]; omega
        · go_wp2_with (at_builtin; refine wpList_append_own _ rfl _ _ 22 rfl w.heap.size 5 i0 (.int .u8 0) 1 1 Tryd.underlying22 hi hz0 hz1 hz2 rfl (by decide) _ _ _ rfl (hown.alloc _) ⟨wr.heap.size, 0, none⟩ 1 1 [.int .u8 (m : Int)] rfl rfl ?d1 ?d2 ?d3 ?d4 ?d5 ?_)
          case d1 =>
            intro j u hj
            match j, hj with
            | 0, hj => simp at hj; subst hj; simp [Addr.add]
          case d2 => intro u hu; simp at hu; subst hu; rfl
          case d3 => unfold maxLen; omega
          case d4 => omega
          case d5 => have := hbel.size; simp; omega
          intro v' w1 hown' hgrow _
          have hbel' : Below w.heap.size w w1 := below_append hbel hbel.size hown hgrow
          have HL : Hid (pre ++ [(m : Int)] = putNum N) := by show _ = _; rw [hp.out]; exact HP.out.last (by omega)
          clear hgrow hown hbel
          go_wp2
          go_ret
          refine ⟨v', rfl, ?_, hbel'⟩
          rw [← HL.out]
          simpa using hown'
set_option maxRecDepth 20000 in
set_option maxHeartbeats 400000 in
theorem specPutNum (n : Int) (w : World) :
    Calls Tryd.prog 118 #[.int .i64 n] w fun e w' => ∃ v, e = .returned v ∧ w'.ownsRow w.heap.size 5 1 v (putNum n).length ((putNum n).map (Value.int .u8)) ∧ Below w.heap.size w w' := by
  obtain ⟨i0, hi, hz0, hz1, hz2⟩ := info_parts Tryd.infoU8
  have ho0 : (w.alloc (.cells #[] 5)).ownsRow w.heap.size 5 1 (.slice (some ⟨w.heap.size, 0, none⟩) 0 0) 0 [] := World.ownsRow_made w #[] 0 (Nat.le_refl _) (Nat.zero_le _) rfl
  have hb0 : Below w.heap.size w (w.alloc (.cells #[] 5)) := (Below.refl _ _).alloc (Nat.le_refl _) _
  by_cases hin : 0 ≤ n ∧ n ≤ 2147483647
  · obtain ⟨N, rfl⟩ := Int.eq_ofNat_of_zero_le hin.1
    have hp : Hid (putNum N = vlq 4 N) := by show putNum N = vlq 4 N; unfold putNum; rw [if_pos hin]; simp
    have hin' := hin.2
    go_enter Tryd.func118, Tryd.ntmps118
    go_wp2_with (go_at_call 76; refine (inY _ _ hin).mono ?_; rintro e w' ⟨rfl, rfl⟩)
    go_loopw [0, 3] (fun x v wr => ∃ (m : Nat) (pre : List Int), x = .int .i64 m ∧ Hid (Part N m pre) ∧ m ≤ 2147483647 ∧ wr.ownsRow w.heap.size 5 1 v pre.length (pre.map (Value.int .u8)) ∧ Below w.heap.size w wr) (fun x _ _ => (intOf x).toNat)
    case atStart => exact ⟨N, [], rfl, Part.start N (by omega), by omega, ho0, hb0⟩
    case round =>
      obtain ⟨m, pre, rfl, HP, hm, hown, hbel⟩ := hrel
      have hpl := HP.out.len
      by_cases h128 : 128 ≤ m
      · go_wp2_with (at_builtin; refine wpList_append_own _ rfl _ _ 22 rfl w.heap.size 5 i0 (.int .u8 0) 1 1 Tryd.underlying22 hi hz0 hz1 hz2 rfl (by decide) _ _ _ rfl (hown.alloc _) ⟨wr.heap.size, 0, none⟩ 1 1 [.int .u8 ((m : Int) % 128 + 128)] rfl rfl ?c1 ?c2 ?c3 ?c4 ?c5 ?_)
        case c1 =>
          intro j u hj
          match j, hj with
          | 0, hj => simp at hj; subst hj; simp [Addr.add]
        case c2 => intro u hu; simp at hu; subst hu; rfl
        case c3 => unfold maxLen; omega
        case c4 => omega
        case c5 => have := hbel.size; simp; omega
        intro v' w1 hown' hgrow _
        have hbel' : Below w.heap.size w w1 := below_append hbel hbel.size hown hgrow
        have HP' : Hid (Part N (m / 128) (pre ++ [((m : Int) % 128 + 128)])) := HP.out.step h128
        clear hgrow hown hbel
        go_wp2
        go_roundw
        case rel => exact ⟨m / 128, pre ++ [((m : Int) % 128 + 128)], by go_num, HP', by omega, by simpa using hown', hbel'⟩
        case measure => simp [intOf]; omega
      · go_wp2_with (at_builtin; refine wpList_append_own _ rfl _ _ 22 rfl w.heap.size 5 i0 (.int .u8 0) 1 1 Tryd.underlying22 hi hz0 hz1 hz2 rfl (by decide) _ _ _ rfl (hown.alloc _) ⟨wr.heap.size, 0, none⟩ 1 1 [.int .u8 (m : Int)] rfl rfl ?d1 ?d2 ?d3 ?d4 ?d5 ?_)
        case d1 =>
          intro j u hj
          match j, hj with
          | 0, hj => simp at hj; subst hj; simp [Addr.add]
        case d2 => intro u hu; simp at hu; subst hu; rfl
        case d3 => unfold maxLen; omega
        case d4 => omega
        case d5 => have := hbel.size; simp; omega
        intro v' w1 hown' hgrow _
        have hbel' : Below w.heap.size w w1 := below_append hbel hbel.size hown hgrow
        have HL : Hid (pre ++ [(m : Int)] = putNum N) := by show _ = _; rw [hp.out]; exact HP.out.last (by omega)
        clear hgrow hown hbel
        go_wp2
        go_ret
        refine ⟨v', rfl, ?_, hbel'⟩
        rw [← HL.out]
        simpa using hown'
  · have hp : Hid (putNum n = []) := by show putNum n = []; unfold putNum; rw [if_neg hin]
    go_enter Tryd.func118, Tryd.ntmps118
    go_wp2_with (go_at_call 76; refine (inN _ _ hin).mono ?_; rintro e w' ⟨rfl, rfl⟩)
    go_ret
    exact ⟨_, rfl, by rw [hp.out]; exact ho0, hb0⟩

end Go.Proofs.YtlidmnehpcodkaaDoor

/-
  Own text: the two PutText functions answer a new row that holds the length and the bytes, and turn nothing that was there.
-/
namespace Go.Proofs.YtlidmnehpcodkaaDoor
open Go.RowKit

/-- A string's bytes, as numbers. -/
def bytesOf (s : ByteArray) : List Int := s.data.toList.map fun b => (b.toNat : Int)
theorem bytesOf_len (s : ByteArray) : (bytesOf s).length = s.size := by simp [bytesOf]
theorem bytesOf_u8 (s : ByteArray) : U8 (bytesOf s) := by
  intro n hn
  obtain ⟨b, _, rfl⟩ := List.mem_map.1 hn
  have := b.toNat_lt; omega
theorem byteCells_eq (s : ByteArray) : byteCells s = (bytesOf s).map (Value.int .u8) := by simp [byteCells, bytesOf]
def putText (s : ByteArray) : List Int := putNum (s.size : Int) ++ bytesOf s
theorem putText_u8 (s : ByteArray) : U8 (putText s) := by
  intro n hn
  rcases List.mem_append.1 hn with h | h
  · exact putNum_u8 _ n h
  · exact bytesOf_u8 s n h
theorem putText_len (s : ByteArray) : (putText s).length ≤ s.size + 5 := by
  have := putNum_len (s.size : Int); simp [putText, bytesOf_len]; omega

set_option maxRecDepth 20000 in
set_option maxHeartbeats 400000 in
theorem implPutText (s : ByteArray) (w : World) (hs : s.size ≤ 1048576) :
    Calls Tryd.prog 106 #[.string s] w fun e w' => ∃ v, e = .returned v ∧ w'.ownsRow w.heap.size 5 1 v (putText s).length ((putText s).map (Value.int .u8)) ∧ Below w.heap.size w w' := by
  obtain ⟨i0, hi, hz0, hz1, hz2⟩ := info_parts Tryd.infoU8
  go_enter Tryd.func106, Tryd.ntmps106
  go_wp2_with fail
  refine (implPutNum s.size _).mono ?_
  rintro e w1 ⟨v1, rfl, ho1, hb1⟩
  have hpl := putNum_len (s.size : Int)
  go_wp2_with (at_builtin; refine wpList_append_own_src _ rfl _ _ 22 9 rfl w.heap.size 5 i0 (.int .u8 0) 1 1 Tryd.underlying22 hi hz0 hz1 hz2 rfl _ _ _ rfl ho1 _ s.size (byteCells s) rfl (Src.ofString _ Tryd.underlying9 s) (by unfold maxLen; omega) (by omega) hb1.size ?_)
  intro v' w2 ho2 hg2
  have hb2 : Below w.heap.size w w2 := hb1.grown hg2 hb1.size (fun k hk => (ho1.lt k hk).1)
  clear hg2
  go_wp2
  go_ret
  refine ⟨_, rfl, ?_, hb2⟩
  rw [byteCells_eq, ← List.map_append] at ho2
  rw [show (putText s).length = (putNum (s.size : Int)).length + s.size by simp [putText, bytesOf_len]]
  exact ho2

set_option maxRecDepth 20000 in
set_option maxHeartbeats 400000 in
theorem specPutText (s : ByteArray) (w : World) (hs : s.size ≤ 1048576) :
    Calls Tryd.prog 104 #[.string s] w fun e w' => ∃ v, e = .returned v ∧ w'.ownsRow w.heap.size 5 1 v (putText s).length ((putText s).map (Value.int .u8)) ∧ Below w.heap.size w w' := by
  obtain ⟨i0, hi, hz0, hz1, hz2⟩ := info_parts Tryd.infoU8
  go_enter Tryd.func104, Tryd.ntmps104
  go_wp2_with fail
  refine (specPutNum s.size _).mono ?_
  rintro e w1 ⟨v1, rfl, ho1, hb1⟩
  have hpl := putNum_len (s.size : Int)
  have hcv := run_bytes_of_string (P := Tryd.prog) w1 9 22 5 s Tryd.underlying9 Tryd.underlying22 Tryd.underlying5
  generalize hcap : grownCap w1 s.size 0 5 = cap at hcv
  generalize hW : w1.drew.alloc (.cells (bytesRow s cap) 5 ((bytesRow s cap).size, (bytesRow s cap).size + 1)) = W at hcv
  have hcells : ∀ j u, (byteCells s)[j]? = some u → W.cell? ((⟨w1.heap.size, 0, none⟩ : Addr).add j) = some u := by
    intro j u hu
    have hj : j < s.data.size := by
      have := (List.getElem?_eq_some_iff.1 hu).1
      rw [byteCells_length] at this
      exact this
    have e1 : W.heap[w1.heap.size]? = some (.cells (bytesRow s cap) 5 ((bytesRow s cap).size, (bytesRow s cap).size + 1)) := by rw [← hW]; exact heap_alloc_new w1.drew _
    rw [Addr.add_lit, Nat.zero_add, cell_of_row W w1.heap.size j _ _ _ e1, bytesRow_at s cap j hj]
    rw [← hu, byteCells]
    simp [Array.getElem?_eq_getElem hj]
  have hsrc : Src Tryd.prog 1 22 (.slice (some ⟨w1.heap.size, 0, none⟩) s.size cap) s.size (byteCells s) W :=
    Src.ofSlice W Tryd.underlying22 _ _ _ _ (by rw [byteCells_length, Nat.mul_one]) hcells (fun u hu => by obtain ⟨_, _, rfl⟩ := List.mem_map.1 hu; rfl)
  have hbW : Below w1.heap.size w1 W := by rw [← hW]; exact (Below.refl _ _).drew.alloc (Nat.le_refl _) _
  have hoW := ownsRow_below ho1 hbW (Nat.le_refl _)
  have hb2 : Below w.heap.size w W := hb1.trans (hbW.mono hb1.size)
  clear hW hcap hcells hbW ho1 hb1
  go_wp2_with (at_builtin; refine wpList_append_own_src _ rfl _ _ 22 22 rfl w.heap.size 5 i0 (.int .u8 0) 1 1 Tryd.underlying22 hi hz0 hz1 hz2 rfl _ _ _ rfl hoW _ s.size (byteCells s) rfl hsrc (by unfold maxLen; omega) (by omega) hb2.size ?_)
  intro v' w2 ho2 hg2
  have hb3 : Below w.heap.size w w2 := hb2.grown hg2 hb2.size (fun k hk => (hoW.lt k hk).1)
  clear hg2
  go_wp2
  go_ret
  refine ⟨_, rfl, ?_, hb3⟩
  rw [byteCells_eq, ← List.map_append] at ho2
  rw [show (putText s).length = (putNum (s.size : Int)).length + s.size by simp [putText, bytesOf_len]]
  exact ho2
end Go.Proofs.YtlidmnehpcodkaaDoor

/-
  Own text, plain: which number stands at a place of a row of bytes.
-/
namespace Go.Proofs.YtlidmnehpcodkaaDoor
open Go.RowKit

/-- The number that begins at place p ends with its k-th byte. -/
def Stop (l : List Int) (p k : Nat) : Prop := k < 5 ∧ p + k < l.length ∧ l.getD (p + k) 0 < 128 ∧ ∀ j, j < k → 128 ≤ l.getD (p + j) 0
/-- What the first k bytes from p on come to. -/
def valTo (l : List Int) (p : Nat) : Nat → Nat
  | 0 => 0
  | k + 1 => valTo l p k + (l.getD (p + k) 0).toNat % 128 * 128 ^ k
/-- There is a number at this place: n, and 'next' is the place behind it. -/
def Good (l : List Int) (at' : Int) (n next : Nat) : Prop :=
  ∃ p k : Nat, at' = (p : Int) ∧ Stop l p k ∧ (k = 0 ∨ l.getD (p + k) 0 ≠ 0) ∧ n = valTo l p (k + 1) ∧ n ≤ 2147483647 ∧ next = p + k + 1

theorem Stop.unique {l : List Int} {p k k' : Nat} (h : Stop l p k) (h' : Stop l p k') : k = k' := by
  obtain ⟨_, _, h1, h2⟩ := h
  obtain ⟨_, _, h3, h4⟩ := h'
  rcases Nat.lt_trichotomy k k' with hl | hl | hl
  · have := h4 k hl; omega
  · exact hl
  · have := h2 k' hl; omega
theorem Good.unique {l : List Int} {at' : Int} {n next n' next' : Nat} (h : Good l at' n next) (h' : Good l at' n' next') : n = n' ∧ next = next' := by
  obtain ⟨p, k, hp, hs, _, hn, _, hx⟩ := h
  obtain ⟨p', k', hp', hs', _, hn', _, hx'⟩ := h'
  obtain rfl : p = p' := by omega
  obtain rfl := hs.unique hs'
  exact ⟨by rw [hn, hn'], by rw [hx, hx']⟩
theorem valTo_lt (l : List Int) (p : Nat) : ∀ k, valTo l p k < 128 ^ k
  | 0 => by simp [valTo]
  | k + 1 => by
    have := valTo_lt l p k
    have h2 : (l.getD (p + k) 0).toNat % 128 ≤ 127 := by omega
    have h3 : (l.getD (p + k) 0).toNat % 128 * 128 ^ k ≤ 127 * 128 ^ k := Nat.mul_le_mul_right _ h2
    rw [valTo, Nat.pow_succ]; omega

/-- The bytes from p on, up to the k-th. -/
def cut (l : List Int) (p k : Nat) : List Int := (l.drop p).take (k + 1)

theorem getD_drop (l : List Int) (p j : Nat) : (l.drop p).getD j 0 = l.getD (p + j) 0 := by simp [List.getD]

/-- What the bytes ds come to. -/
def valL : List Int → Nat
  | [] => 0
  | d :: r => d.toNat % 128 + 128 * valL r

theorem valL_snoc (l : List Int) (d : Int) : valL (l ++ [d]) = valL l + d.toNat % 128 * 128 ^ l.length := by
  induction l with
  | nil => simp [valL]
  | cons x r ih => simp [valL, ih, Nat.pow_succ, Nat.mul_add, Nat.mul_comm, Nat.mul_left_comm]; omega

theorem valL_take (l : List Int) (p k : Nat) (h : p + k ≤ l.length) : valL ((l.drop p).take k) = valTo l p k := by
  induction k with
  | zero => simp [valL, valTo]
  | succ k ih =>
    have hk : k < (l.drop p).length := by simp; omega
    rw [List.take_succ_eq_append_getElem hk, valL_snoc, ih (by omega), valTo]
    have e1 : (l.drop p)[k] = l.getD (p + k) 0 := by
      rw [← getD_drop]; simp [List.getD, show p + k < l.length by omega]
    have e2 : ((l.drop p).take k).length = k := by simp; omega
    rw [e1, e2]

/-- A row of bytes, each but the last one from 128 on, the last one below and (if not alone) not 0, is how its number is written. -/
theorem vlq_valL (ds : List Int) (hu : U8 ds) (d : Int) (hd0 : 0 ≤ d) (hd : d < 128) (hhi : ∀ x ∈ ds, 128 ≤ x) (hz : ds = [] ∨ d ≠ 0) :
    ∀ f, ds.length ≤ f → vlq f (valL (ds ++ [d])) = ds ++ [d] := by
  induction ds with
  | nil =>
    intro f _
    simp only [List.nil_append, valL]
    rw [vlq_small _ _ (by omega)]
    simp; omega
  | cons x r ih =>
    intro f hf
    cases f with
    | zero => simp at hf
    | succ f =>
      have hx := hu x (by simp)
      have hx2 := hhi x (by simp)
      have hz' : d ≠ 0 := by rcases hz with h | h; simp at h; exact h
      have hv : 0 < valL (r ++ [d]) := by
        rw [valL_snoc]
        have hp : 0 < 128 ^ r.length := Nat.pow_pos (by omega)
        have : 0 < d.toNat % 128 := by omega
        have := Nat.mul_pos this hp
        omega
      simp only [List.cons_append, valL]
      rw [vlq_big _ _ (by omega)]
      have e1 : (x.toNat % 128 + 128 * valL (r ++ [d])) / 128 = valL (r ++ [d]) := by omega
      have e2 : (((x.toNat % 128 + 128 * valL (r ++ [d])) % 128 + 128 : Nat) : Int) = x := by omega
      rw [e1, e2, ih (fun y hy => hu y (by simp [hy])) (fun y hy => hhi y (by simp [hy])) (.inr hz') f (by simpa using hf)]

/-- Where the last one of several is 0 it is not how the number is written. -/
theorem vlq_last (f n : Nat) (ds : List Int) (h : vlq f n = ds ++ [0]) (hne : ds ≠ []) : False := by
  induction f generalizing n ds with
  | zero =>
    cases ds with
    | nil => exact hne rfl
    | cons x r => simp [vlq] at h
  | succ f ih =>
    cases ds with
    | nil => exact hne rfl
    | cons x r =>
      by_cases hn : n < 128
      · rw [vlq_small _ _ hn] at h; simp at h
      · rw [vlq_big _ _ (by omega)] at h
        simp only [List.cons_append, List.cons.injEq] at h
        cases r with
        | nil =>
          simp at h
          have hq : 0 < n / 128 := by omega
          cases f with
          | zero => simp [vlq] at h; omega
          | succ f =>
            by_cases h2 : n / 128 < 128
            · rw [vlq_small _ _ h2] at h; simp at h; omega
            · rw [vlq_big _ _ (by omega)] at h
              have := h.2
              simp at this
              have hl := this.2
              cases f <;> simp [vlq] at hl
              split at hl <;> simp at hl
        | cons y r => exact ih (n / 128) (y :: r) h.2 (by simp)
end Go.Proofs.YtlidmnehpcodkaaDoor

/-
  Own text, plain: a number that was written is read as it was, wherever it stands; bytes as a text.
-/
namespace Go.Proofs.YtlidmnehpcodkaaDoor
open Go.RowKit

/-- The bytes l as a text. -/
def baOf (l : List Int) : ByteArray := ⟨(l.map fun x => UInt8.ofNat x.toNat).toArray⟩
theorem vlq_shapeP (f n : Nat) (h : n < 128 ^ (f + 1)) : ∃ ds d, vlq f n = ds ++ [d] ∧ (∀ x ∈ ds, 128 ≤ x) ∧ 0 ≤ d ∧ d < 128 ∧ (ds = [] ∨ d ≠ 0) ∧ valL (ds ++ [d]) = n ∧ ds.length ≤ f := by
  induction f generalizing n with
  | zero =>
    refine ⟨[], (n : Int), by simp [vlq], by simp, by omega, by simp at h; omega, .inl rfl, ?_, by simp⟩
    simp at h
    simp [valL]; omega
  | succ f ih =>
    by_cases hn : n < 128
    · refine ⟨[], (n : Int), by rw [vlq_small _ _ hn]; rfl, by simp, by omega, by omega, .inl rfl, ?_, by simp⟩
      simp [valL]; omega
    · obtain ⟨ds, d, h1, h2, h3, h4, h5, h6, h7⟩ := ih (n / 128) (by rw [Nat.pow_succ] at h; omega)
      refine ⟨((n % 128 + 128 : Nat) : Int) :: ds, d, by rw [vlq_big _ _ (by omega), h1]; rfl, ?_, h3, h4, .inr ?_, ?_, by simp; omega⟩
      · intro x hx
        rcases List.mem_cons.1 hx with rfl | hx
        · omega
        · exact h2 x hx
      · rcases h5 with rfl | h5
        · simp [valL] at h6; omega
        · exact h5
      · simp only [List.cons_append, valL, h6]
        omega

theorem getD_midP (pre ds : List Int) (suf : List Int) (j : Nat) (hj : j < ds.length) : (pre ++ ds ++ suf).getD (pre.length + j) 0 = ds.getD j 0 := by
  simp only [List.getD, List.append_assoc]
  rw [List.getElem?_append_right (by omega), List.getElem?_append_left (by omega)]
  congr 2
  omega

theorem good_midP (pre suf : List Int) (n : Nat) (hn : n ≤ 2147483647) : Good (pre ++ putNum n ++ suf) pre.length n (pre.length + (putNum n).length) := by
  have hp : putNum (n : Int) = vlq 4 n := by rw [putNum, if_pos (by omega)]; rfl
  obtain ⟨ds, d, h1, h2, h3, h4, h5, h6, h7⟩ := vlq_shapeP 4 n (by omega)
  rw [hp, h1]
  have hlen : (ds ++ [d]).length = ds.length + 1 := by simp
  have hd : (pre ++ (ds ++ [d]) ++ suf).getD (pre.length + ds.length) 0 = d := by
    rw [getD_midP _ _ _ _ (by omega)]; simp [List.getD]
  have hstop : Stop (pre ++ (ds ++ [d]) ++ suf) pre.length ds.length := by
    refine ⟨by omega, by simp, by rw [hd]; exact h4, fun j hj => ?_⟩
    rw [getD_midP _ _ _ _ (by omega)]
    have e : (ds ++ [d]).getD j 0 = ds[j] := by simp [List.getD, List.getElem?_append_left hj, hj]
    rw [e]; exact h2 _ (List.getElem_mem hj)
  refine ⟨pre.length, ds.length, rfl, hstop, ?_, ?_, hn, by rw [hlen]; omega⟩
  · rw [hd]
    rcases h5 with rfl | h5
    · exact .inl rfl
    · exact .inr h5
  · rw [← valL_take _ _ _ (by simp)]
    have e : ((pre ++ (ds ++ [d]) ++ suf).drop pre.length).take (ds.length + 1) = ds ++ [d] := by
      rw [List.append_assoc, List.drop_left, ← hlen, List.take_left]
    rw [e, h6]

end Go.Proofs.YtlidmnehpcodkaaDoor

/-
  Own text, plain: the journal: which lists can be committed, what a head says, what a commit, its events, a recovery and the home blocks are.
-/
namespace Go.Proofs.YtlidmnehpcodkaaDoor
open Go.RowKit

def TxP (n : Int) (l : List PutD) : Prop :=
  1 ≤ n ∧ n ≤ 48 ∧ l ≠ [] ∧ l.all (putOk n.toNat) = true ∧ ∀ i (h : i + 1 < l.length), (l[i]'(Nat.lt_of_succ_lt h)).1 < l[i + 1].1
noncomputable def jtx (n : Int) (l : List PutD) : Bool := @decide (TxP n l) (Classical.propDecidable _)
theorem jtx_yes {n : Int} {l : List PutD} (h : TxP n l) : jtx n l = true := by unfold jtx; exact @decide_eq_true _ (Classical.propDecidable _) h
theorem jtx_no {n : Int} {l : List PutD} (h : ¬ TxP n l) : jtx n l = false := by unfold jtx; exact @decide_eq_false _ (Classical.propDecidable _) h
theorem jtx_iff {n : Int} {l : List PutD} : jtx n l = true ↔ TxP n l :=
  ⟨fun h => Classical.byContradiction fun h' => absurd ((jtx_no h').symm.trans h) (by decide), jtx_yes⟩
theorem putOk_iff {n : Nat} {p : PutD} : putOk n p = true ↔ 0 ≤ p.1 ∧ p.1 ≤ (n : Int) - 1 ∧ p.2.size ≤ 90 := by
  simp [putOk, and_assoc]
theorem TxP.at {n : Int} {l : List PutD} (h : TxP n l) : ∀ p ∈ l, 0 ≤ p.1 ∧ p.1 ≤ n - 1 ∧ p.2.size ≤ 90 := by
  intro p hp
  have := putOk_iff.1 (List.all_eq_true.1 h.2.2.2.1 p hp)
  have h1 := h.1
  exact ⟨this.1, by omega, this.2.2⟩
theorem TxP.lt {n : Int} {l : List PutD} (h : TxP n l) {i j : Nat} (hij : i < j) (hj : j < l.length) : (l[i]'(by omega)).1 < l[j].1 := by
  induction j with
  | zero => omega
  | succ j ih =>
    have h1 := h.2.2.2.2 j hj
    by_cases e : i = j
    · subst e; exact h1
    · exact Int.lt_trans (ih (by omega) (by omega)) h1
theorem TxP.ge {n : Int} {l : List PutD} (h : TxP n l) : ∀ i (hi : i < l.length), (i : Int) ≤ l[i].1
  | 0, hi => (h.at _ (List.getElem_mem hi)).1
  | i + 1, hi => by have := h.ge i (by omega); have := h.2.2.2.2 i hi; omega
theorem TxP.len {n : Int} {l : List PutD} (h : TxP n l) : (l.length : Int) ≤ n := by
  have h0 : 0 < l.length := List.length_pos_iff.2 h.2.2.1
  have h1 := h.ge (l.length - 1) (by omega)
  have h2 := (h.at _ (List.getElem_mem (show l.length - 1 < l.length by omega))).2.1
  omega
theorem TxP.mono {n : Int} {l : List PutD} (h : TxP n l) : TxP 48 l := by
  refine ⟨by omega, by omega, h.2.2.1, List.all_eq_true.2 fun p hp => putOk_iff.2 ?_, h.2.2.2.2⟩
  have := h.at p hp
  have h2 := h.2.1
  exact ⟨this.1, by show p.1 ≤ (48 : Int) - 1; omega, this.2.2⟩

/-! ### Heads -/
def sumB (l : List ByteArray) : List Int := l.flatMap putText
def sumOf (l : List ByteArray) : Nat := crcTo (sumB l) (sumB l).length ^^^ 4294967295
theorem sumB_u8 (l : List ByteArray) : U8 (sumB l) := by
  intro n hn
  obtain ⟨s, _, h⟩ := List.mem_flatMap.1 hn
  exact putText_u8 s n h
theorem sumOf_lt (l : List ByteArray) : sumOf l < 4294967296 := xor_lt (crcTo_lt (sumB_u8 l) _) (by omega)
def four (n : Nat) : List Int := [((n / 16777216 : Nat) : Int), ((n / 65536 % 256 : Nat) : Int), ((n / 256 % 256 : Nat) : Int), ((n % 256 : Nat) : Int)]
def headB (ats : List Int) (sum : Nat) : List Int := 74 :: putNum (ats.length : Int) ++ ats.flatMap putNum ++ four sum
noncomputable def headText (l : List PutD) : ByteArray := if jtx 48 l = true then baOf (headB (l.map (·.1)) (sumOf (l.map (·.2)))) else ⟨#[]⟩
theorem flatNum_u8 (ats : List Int) : U8 (ats.flatMap putNum) := by
  intro n hn
  obtain ⟨s, _, h⟩ := List.mem_flatMap.1 hn
  exact putNum_u8 s n h
theorem four_u8 {n : Nat} (h : n < 4294967296) : U8 (four n) := by
  intro x hx
  simp only [four, List.mem_cons, List.not_mem_nil, or_false] at hx
  omega
theorem headB_u8 {ats : List Int} {sum : Nat} (h : sum < 4294967296) : U8 (headB ats sum) := by
  intro x hx
  unfold headB at hx
  rcases List.mem_append.1 hx with hx | hx
  · rcases List.mem_append.1 hx with hx | hx
    · rcases List.mem_cons.1 hx with rfl | hx
      · omega
      · exact putNum_u8 _ x hx
    · exact flatNum_u8 ats x hx
  · exact four_u8 h x hx
theorem bytesOf_S {l : List Int} (h : U8 l) : bytesOf (baOf l) = l := by
  simp only [baOf, bytesOf, List.map_map]
  conv => rhs; rw [← List.map_id l]
  apply List.map_congr_left
  intro x hx
  have := h x hx
  simp
  omega
/-- The numbers xs stand one behind the other from p on; q is the place behind them. -/
def AtsFrom (b : List Int) : Nat → List Int → Nat → Prop
  | p, [], q => p = q
  | p, x :: xs, q => ∃ n next, Good b (p : Int) n next ∧ x = (n : Int) ∧ AtsFrom b next xs q
theorem AtsFrom.unique {b : List Int} : ∀ {xs ys : List Int} {p q r : Nat}, AtsFrom b p xs q → AtsFrom b p ys r → xs.length = ys.length → xs = ys ∧ q = r
  | [], [], _, _, _, h, h', _ => ⟨rfl, h.symm.trans h'⟩
  | x :: xs, y :: ys, p, q, r, h, h', hl => by
    obtain ⟨n, nx, hg, rfl, hr⟩ := h
    obtain ⟨n', nx', hg', rfl, hr'⟩ := h'
    obtain ⟨rfl, rfl⟩ := hg.unique hg'
    obtain ⟨rfl, rfl⟩ := hr.unique hr' (by simpa using hl)
    exact ⟨rfl, rfl⟩
theorem AtsFrom.snoc {b : List Int} : ∀ {xs : List Int} {p q n next : Nat}, AtsFrom b p xs q → Good b (q : Int) n next → AtsFrom b p (xs ++ [(n : Int)]) next
  | [], p, q, n, next, h, hg => by cases h; exact ⟨n, next, hg, rfl, rfl⟩
  | x :: xs, p, q, n, next, ⟨m, nx, h1, h2, h3⟩, hg => ⟨m, nx, h1, h2, h3.snoc hg⟩
theorem ats_mid (suf : List Int) : ∀ (ats : List Int) (pre : List Int), (∀ x ∈ ats, 0 ≤ x ∧ x ≤ 2147483647) → AtsFrom (pre ++ ats.flatMap putNum ++ suf) pre.length ats (pre.length + (ats.flatMap putNum).length)
  | [], pre, _ => by simp [AtsFrom]
  | x :: ats, pre, h => by
    obtain ⟨n, rfl⟩ : ∃ n : Nat, x = (n : Int) := ⟨x.toNat, by have := h x (by simp); omega⟩
    have hn : n ≤ 2147483647 := by have := h (n : Int) (by simp); omega
    have hg := good_midP pre (ats.flatMap putNum ++ suf) n hn
    have ih := ats_mid suf ats (pre ++ putNum n) (fun y hy => h y (by simp [hy]))
    simp only [List.flatMap_cons, List.append_assoc, List.length_append] at hg ih ⊢
    refine ⟨n, _, hg, rfl, ?_⟩
    rw [← Nat.add_assoc]
    exact ih
def HeadP (b : List Int) (n : Int) (ats : List Int) (sum : Nat) : Prop :=
  ∃ many at' q : Nat, Good b 1 many at' ∧ b.getD 0 0 = 74 ∧ 1 ≤ many ∧ many ≤ 48 ∧ ats.length = many ∧ AtsFrom b at' ats q ∧ b.length = q + 4 ∧ TxP n (ats.map fun x => (x, (⟨#[]⟩ : ByteArray))) ∧
    (sum : Int) = ((b.getD q 0 * 256 + b.getD (q + 1) 0) * 256 + b.getD (q + 2) 0) * 256 + b.getD (q + 3) 0
theorem HeadP.unique {b : List Int} {n : Int} {ats ats' : List Int} {sum sum' : Nat} (h : HeadP b n ats sum) (h' : HeadP b n ats' sum') : ats = ats' ∧ sum = sum' := by
  obtain ⟨m, a, q, h1, _, _, _, h2, h3, _, _, h4⟩ := h
  obtain ⟨m', a', q', h1', _, _, _, h2', h3', _, _, h4'⟩ := h'
  obtain ⟨rfl, rfl⟩ := h1.unique h1'
  obtain ⟨rfl, rfl⟩ := h3.unique h3' (by omega)
  exact ⟨rfl, by omega⟩
open Classical in
noncomputable def headOf (s : ByteArray) (n : Int) : Option (List Int × Nat) :=
  if h : ∃ x : List Int × Nat, HeadP (bytesOf s) n x.1 x.2 then some h.choose else none
theorem headOf_some {s : ByteArray} {n : Int} {ats : List Int} {sum : Nat} (h : HeadP (bytesOf s) n ats sum) : headOf s n = some (ats, sum) := by
  have hx : ∃ x : List Int × Nat, HeadP (bytesOf s) n x.1 x.2 := ⟨(ats, sum), h⟩
  unfold headOf
  rw [dif_pos hx]
  obtain ⟨h1, h2⟩ := hx.choose_spec.unique h
  rw [← h1, ← h2]
theorem headOf_none {s : ByteArray} {n : Int} (h : ∀ ats sum, ¬ HeadP (bytesOf s) n ats sum) : headOf s n = none := by
  unfold headOf
  rw [dif_neg (fun ⟨x, hx⟩ => h _ _ hx)]
theorem headOf_empty (n : Int) : headOf ⟨#[]⟩ n = none := by
  refine headOf_none ?_
  rintro ats sum ⟨m, a, q, h1, h2, _⟩
  simp [bytesOf] at h2
theorem headOf_spec {s : ByteArray} {n : Int} {ats : List Int} {sum : Nat} (h : headOf s n = some (ats, sum)) : HeadP (bytesOf s) n ats sum := by
  unfold headOf at h
  split at h
  · rename_i hx
    have hs := hx.choose_spec
    simp only [Option.some.injEq] at h
    rw [h] at hs
    exact hs
  · cases h
theorem head_read {n : Int} {l : List PutD} (h : TxP n l) : headOf (headText l) n = some (l.map (·.1), sumOf (l.map (·.2))) := by
  apply headOf_some
  have hs := sumOf_lt (l.map (·.2))
  unfold headText
  rw [if_pos (jtx_yes h.mono), bytesOf_S (headB_u8 hs)]
  have h0 : 0 < l.length := List.length_pos_iff.2 h.2.2.1
  have hlen := h.len
  have h48 := h.2.1
  have hml : (l.map (·.1)).length = l.length := by simp
  generalize hsum : sumOf (l.map (·.2)) = sum at *
  have e1 : headB (l.map (·.1)) sum = [74] ++ putNum ((l.length : Nat) : Int) ++ ((l.map (·.1)).flatMap putNum ++ four sum) := by simp [headB]
  have g1 := good_midP [74] ((l.map (·.1)).flatMap putNum ++ four sum) l.length (by omega)
  have e2 : headB (l.map (·.1)) sum = ([74] ++ putNum ((l.length : Nat) : Int)) ++ (l.map (·.1)).flatMap putNum ++ four sum := by simp [headB]
  have g2 := ats_mid (four sum) (l.map (·.1)) ([74] ++ putNum ((l.length : Nat) : Int)) (fun x hx => by
    obtain ⟨p, hp, rfl⟩ := List.mem_map.1 hx
    have := h.at p hp
    omega)
  rw [← e1] at g1
  rw [← e2] at g2
  refine ⟨l.length, _, ([74] : List Int).length + (putNum ((l.length : Nat) : Int)).length + ((l.map (·.1)).flatMap putNum).length, g1, by rw [e1]; rfl, by omega, by omega, hml, ?_, ?_, ?_, ?_⟩
  · rw [List.length_append] at g2
    exact g2
  · rw [e2]; simp [four]; omega
  · refine ⟨h.1, h.2.1, by simp [List.ne_nil_of_length_pos h0], List.all_eq_true.2 ?_, ?_⟩
    · intro p hp
      simp only [List.map_map, List.mem_map] at hp
      obtain ⟨x, hx, rfl⟩ := hp
      have := h.at x hx
      have h1 := h.1
      exact putOk_iff.2 ⟨this.1, by show x.1 ≤ _; omega, by show (0 : Nat) ≤ 90; omega⟩
    · intro i hi
      simp only [List.map_map, List.length_map] at hi
      have := h.2.2.2.2 i (by simpa using hi)
      simpa using this
  · have ee : ∀ j, j < 4 → (headB (l.map (·.1)) sum).getD ((1 + (putNum ((l.length : Nat) : Int)).length) + ((l.map (·.1)).flatMap putNum).length + j) 0 = (four sum).getD j 0 := by
      intro j hj
      rw [e2]
      have := getD_midP (([74] ++ putNum ((l.length : Nat) : Int)) ++ (l.map (·.1)).flatMap putNum) (four sum) [] j (by simpa [four] using hj)
      rw [List.append_nil] at this
      rw [← this]
      congr 1
      simp only [List.length_append, List.length_cons, List.length_nil]
    have hl1 : ([74] : List Int).length = 1 := rfl
    have f0 := ee 0 (by omega)
    have f1 := ee 1 (by omega)
    have f2 := ee 2 (by omega)
    have f3 := ee 3 (by omega)
    simp only [hl1, Nat.add_zero] at f0 f1 f2 f3 ⊢
    rw [f0, f1, f2, f3]
    simp only [four, List.getD_cons_zero, List.getD_cons_succ]
    omega
theorem flatNum_len (ats : List Int) (h : ∀ x ∈ ats, 0 ≤ x ∧ x ≤ 127) : (ats.flatMap putNum).length = ats.length := by
  induction ats with
  | nil => rfl
  | cons x ats ih =>
    have hx := h x (by simp)
    have e : putNum x = [x] := by rw [putNum, if_pos (by omega), vlq_small _ _ (by omega)]; simp; omega
    rw [List.flatMap_cons, List.length_append, ih (fun y hy => h y (by simp [hy])), e]
    simp
    omega
theorem head_size {l : List PutD} : (headText l).size ≤ 90 := by
  unfold headText
  split
  · rename_i h
    have h := jtx_iff.1 h
    have hl := h.len
    have e : (baOf (headB (l.map (·.1)) (sumOf (l.map (·.2))))).size = (headB (l.map (·.1)) (sumOf (l.map (·.2)))).length := by
      rw [← bytesOf_len, bytesOf_S (headB_u8 (sumOf_lt _))]
    have hf := flatNum_len (l.map (·.1)) (fun x hx => by
      obtain ⟨p, hp, rfl⟩ := List.mem_map.1 hx
      have := h.at p hp
      omega)
    have hp := putNum_len ((l.map (·.1)).length : Int)
    rw [e]
    simp only [headB, four, List.length_append, List.length_cons, List.length_nil, hf, List.length_map] at hp ⊢
    omega
  · decide

/-! ### Events, commits, recoveries -/
abbrev EvD := Int × Int × ByteArray
noncomputable def commitE (n : Int) (l : List PutD) : List EvD :=
  if jtx n l = true then
    (List.range l.length).map (fun k => ((0 : Int), ((1 + k : Nat) : Int), (l.getD k (0, ⟨#[]⟩)).2)) ++ [(1, 0, ⟨#[]⟩), (0, 0, headText l), (1, 0, ⟨#[]⟩)] ++
      l.map (fun p => ((0 : Int), n + 1 + p.1, p.2)) ++ [(1, 0, ⟨#[]⟩), (0, 0, ⟨#[]⟩), (1, 0, ⟨#[]⟩)]
  else []
end Go.Proofs.YtlidmnehpcodkaaDoor

/-
  Own text, plain: what FnFallen says of a fall: with all kept it is flushed, with none it is as it was, and each sector is as it was or as one of the pending writes made it.
-/
namespace Go.Proofs.YtlidmnehpcodkaaDoor

theorem keepL_all (l : List PutD) : keepL l (List.replicate l.length true) = l := by
  induction l with
  | nil => rfl
  | cons p l ih => rw [List.length_cons, List.replicate_succ, keepL, if_pos rfl, ih]
theorem fall_all (d : List ByteArray × List PutD) : dkFall d (List.replicate d.2.length true) = dkFlush d := by
  unfold dkFall dkFlush
  rw [keepL_all]
theorem keepL_nil (l : List PutD) : keepL l [] = [] := by cases l <;> rfl
theorem fall_nil {d : List ByteArray × List PutD} (h : dkOk d = true) : dkFall d [] = (d.1, []) := by
  unfold dkFall
  rw [if_pos h, keepL_nil]
  rfl
theorem fall_len {d : List ByteArray × List PutD} (h : dkOk d = true) (ks : List Bool) : (dkFall d ks).1.length = d.1.length ∧ (dkFall d ks).2 = [] := by
  unfold dkFall
  rw [if_pos h]
  exact ⟨putIn_len _ _, rfl⟩
/-- A sector behind writes is as it was, or as one of them made it. -/
theorem putIn_at (l : List PutD) : ∀ (s : List ByteArray) (i : Nat), i < s.length → (putIn s l).getD i ⟨#[]⟩ = s.getD i ⟨#[]⟩ ∨ ∃ p ∈ l, p.1.toNat = i ∧ p.2 = (putIn s l).getD i ⟨#[]⟩ := by
  induction l with
  | nil => intro s i _; exact .inl rfl
  | cons p l ih =>
    intro s i hi
    have e : putIn s (p :: l) = putIn (s.set p.1.toNat p.2) l := rfl
    rcases ih (s.set p.1.toNat p.2) i (by simpa using hi) with h | ⟨q, hq, h1, h2⟩
    · by_cases hp : p.1.toNat = i
      · right
        refine ⟨p, by simp, hp, ?_⟩
        rw [e, h, hp]
        simp [List.getD, hi]
      · left
        rw [e, h]
        simp [List.getD, List.getElem?_set_ne hp]
    · right
      exact ⟨q, by simp [hq], h1, by rw [e]; exact h2⟩
/-- What the law's inner loop finds: a pending write that made the sector. -/
def madeIt (l : List PutD) (i : Nat) (x : ByteArray) : Bool := l.any fun p => decide (p.1 = (i : Int)) && (p.2.toList == x.toList)
theorem fallen_at {d : List ByteArray × List PutD} (h : dkOk d = true) (ks : List Bool) {i : Nat} (hi : i < d.1.length) :
    (((dkFall d ks).1.getD i ⟨#[]⟩).toList == (d.1.getD i ⟨#[]⟩).toList || madeIt d.2 i ((dkFall d ks).1.getD i ⟨#[]⟩)) = true := by
  have e : (dkFall d ks).1 = putIn d.1 (keepL d.2 ks) := by unfold dkFall; rw [if_pos h]
  rw [e]
  rcases putIn_at (keepL d.2 ks) d.1 i hi with h1 | ⟨p, hp, h1, h2⟩
  · rw [h1]; simp
  · have hm := keepL_mem hp
    have h0 := (dkOk_iff.1 h).2.2.2 p hm
    rw [Bool.or_eq_true]
    right
    unfold madeIt
    rw [List.any_eq_true]
    refine ⟨p, hm, ?_⟩
    rw [← h2]
    simp
    omega
theorem none_ok {d : List ByteArray × List PutD} (h : dkOk d = true) : dkOk (d.1, ([] : List PutD)) = true := by
  have hd := dkOk_iff.1 h
  exact dkOk_iff.2 ⟨hd.1, by simp, hd.2.2.1, by simp⟩
theorem read_fallen {d : List ByteArray × List PutD} (h : dkOk d = true) {i : Nat} (hi : i < d.1.length) : dkRead (dkFall d []) (i : Int) = some (d.1.getD i ⟨#[]⟩) := by
  rw [fall_nil h]
  unfold dkRead
  rw [if_pos ⟨none_ok h, by omega, by show (i : Int) ≤ (d.1.length : Int) - 1; omega⟩]
  simp [lastAt]
theorem fall_bad {d : List ByteArray × List PutD} (h : dkOk d = false) (ks : List Bool) : dkFall d ks = d := by
  unfold dkFall
  rw [if_neg (by simp [h])]
theorem madeIt_succ {l : List PutD} {i : Nat} {x : ByteArray} {m : Nat} (hm : m < l.length) :
    madeIt (l.take (m + 1)) i x = (madeIt (l.take m) i x || (decide ((l.getD m (0, ⟨#[]⟩)).1 = (i : Int)) && ((l.getD m (0, ⟨#[]⟩)).2.toList == x.toList))) := by
  unfold madeIt
  rw [List.take_succ_eq_append_getElem hm, List.any_append]
  simp [List.getD, hm]
end Go.Proofs.YtlidmnehpcodkaaDoor

/-
  Own text, plain: events on disks, recovery, home blocks; wherever within a commit the power fails: behind recovery all of it is there, or nothing.
-/
namespace Go.Proofs.YtlidmnehpcodkaaDoor
open Go.RowKit

abbrev DkD := List ByteArray × List PutD
def evStep (d : DkD) (e : EvD) : DkD := if e.1 = 0 then (dkWrite d e.2.1 e.2.2).getD d else if e.1 = 1 then dkFlush d else d
def evDo (d : DkD) (l : List EvD) : DkD := l.foldl evStep d
def okJ (d : DkD) (n : Int) : Bool := dkOk d && (decide (1 ≤ n) && decide (n ≤ 48)) && decide ((d.1.length : Int) = 2 * n + 1)
def applyTo (n : Int) (ats : List Int) (s : List ByteArray) : Nat → List ByteArray
  | 0 => s
  | k + 1 => (applyTo n ats s k).set (n + 1 + ats.getD k 0).toNat ((applyTo n ats s k).getD (1 + k) ⟨#[]⟩)
noncomputable def recS (s : List ByteArray) (n : Int) : List ByteArray :=
  (match headOf (s.getD 0 ⟨#[]⟩) n with
    | some (ats, sum) => if sumOf ((s.drop 1).take ats.length) = sum then applyTo n ats s ats.length else s
    | none => s).set 0 ⟨#[]⟩
noncomputable def recD (d : DkD) (n : Int) : DkD := if okJ d n = true then (recS d.1 n, []) else d
def homeD (d : DkD) (n : Int) : List ByteArray := if okJ d n = true then (List.range n.toNat).map fun (k : Nat) => (dkRead d (n + 1 + (k : Int))).getD ⟨#[]⟩ else []

theorem okJ_iff {d : DkD} {n : Int} : okJ d n = true ↔ dkOk d = true ∧ 1 ≤ n ∧ n ≤ 48 ∧ (d.1.length : Int) = 2 * n + 1 := by
  simp [okJ, and_assoc]
theorem homeD_no {d : DkD} {n : Int} (h : okJ d n = false) : homeD d n = [] := by unfold homeD; rw [if_neg (by simp [h])]
theorem homeD_len {d : DkD} {n : Int} (h : okJ d n = true) : (homeD d n).length = n.toNat := by unfold homeD; rw [if_pos h]; simp
theorem recD_no {d : DkD} {n : Int} (h : okJ d n = false) : recD d n = d := by unfold recD; rw [if_neg (by simp [h])]
theorem evDo_app (d : DkD) (a b : List EvD) : evDo d (a ++ b) = evDo (evDo d a) b := by simp [evDo]

section
variable {N : Nat}
/-- Sectors of a disk for N home blocks. -/
def Sec (N : Nat) (s : List ByteArray) : Prop := s.length = 2 * N + 1 ∧ ∀ x ∈ s, x.size ≤ 90
def homes (N : Nat) (s : List ByteArray) : List ByteArray := (List.range N).map fun k => s.getD (N + 1 + k) ⟨#[]⟩
theorem homes_len (s : List ByteArray) : (homes N s).length = N := by simp [homes]
theorem Sec.set {s : List ByteArray} (h : Sec N s) (i : Nat) {x : ByteArray} (hx : x.size ≤ 90) : Sec N (s.set i x) := by
  refine ⟨by rw [List.length_set]; exact h.1, fun y hy => ?_⟩
  rcases List.mem_or_eq_of_mem_set hy with hy | rfl
  · exact h.2 y hy
  · exact hx
theorem Sec.put {s : List ByteArray} (h : Sec N s) {l : List PutD} (hl : ∀ p ∈ l, p.2.size ≤ 90) : Sec N (putIn s l) := ⟨by rw [putIn_len]; exact h.1, putIn_small h.2 hl⟩
theorem Sec.ok {s : List ByteArray} (h : Sec N s) (h2 : N ≤ 48) : dkOk (s, ([] : List PutD)) = true := dkOk_iff.2 ⟨by rw [h.1]; omega, by simp, h.2, by simp⟩
theorem Sec.okJ {s : List ByteArray} (h : Sec N s) (h1 : 1 ≤ N) (h2 : N ≤ 48) : okJ (s, ([] : List PutD)) (N : Int) = true := okJ_iff.2 ⟨h.ok h2, by omega, by omega, by have h3 : s.length = 2 * N + 1 := h.1; show (s.length : Int) = _; omega⟩
theorem homeD_homes {s : List ByteArray} (h : Sec N s) (h1 : 1 ≤ N) (h2 : N ≤ 48) : homeD (s, []) (N : Int) = homes N s := by
  unfold homeD homes
  rw [if_pos (h.okJ h1 h2)]
  have e : (N : Int).toNat = N := by omega
  rw [e]
  apply List.map_congr_left
  intro k hk
  have hk := List.mem_range.1 hk
  have hl : s.length = 2 * N + 1 := h.1
  unfold dkRead
  rw [if_pos ⟨h.ok h2, by omega, by show _ ≤ (s.length : Int) - 1; omega⟩]
  simp only [lastAt, List.reverse_nil, List.find?_nil, Option.map_none, Option.getD_none, Option.getD_some]
  congr 1
theorem getD_set_ne (s : List ByteArray) {i j : Nat} (h : i ≠ j) (x : ByteArray) : (s.set i x).getD j ⟨#[]⟩ = s.getD j ⟨#[]⟩ := by simp [List.getD, List.getElem?_set_ne h]
theorem getD_set_eq (s : List ByteArray) {i : Nat} (h : i < s.length) (x : ByteArray) : (s.set i x).getD i ⟨#[]⟩ = x := by simp [List.getD, h]
theorem putIn_cons (s : List ByteArray) (p : PutD) (l : List PutD) : putIn s (p :: l) = putIn (s.set p.1.toNat p.2) l := rfl
theorem putIn_off {l : List PutD} {i : Nat} (h : ∀ p ∈ l, p.1.toNat ≠ i) : ∀ s : List ByteArray, (putIn s l).getD i ⟨#[]⟩ = s.getD i ⟨#[]⟩ := by
  induction l with
  | nil => intro s; rfl
  | cons p l ih =>
    intro s
    rw [putIn_cons, ih (fun q hq => h q (by simp [hq])), getD_set_ne _ (h p (by simp))]
theorem homes_low {s t : List ByteArray} (h : ∀ i, N + 1 ≤ i → t.getD i ⟨#[]⟩ = s.getD i ⟨#[]⟩) : homes N t = homes N s := by
  unfold homes
  exact List.map_congr_left fun k _ => h _ (by omega)
theorem homes_set (s : List ByteArray) (hs : s.length = 2 * N + 1) {a : Nat} (ha : a < N) (x : ByteArray) : homes N (s.set (N + 1 + a) x) = (homes N s).set a x := by
  apply List.ext_getElem?
  intro i
  unfold homes
  rw [List.getElem?_set]
  by_cases hi : i < N
  · by_cases e : a = i
    · subst e
      simp [hi, List.getD, show N + 1 + a < s.length by omega]
    · simp [hi, e, List.getD, List.getElem?_set_ne (show N + 1 + a ≠ N + 1 + i by omega)]
  · by_cases e : a = i
    · omega
    · simp [hi, e]
def shift (N : Nat) (l : List PutD) : List PutD := l.map fun p => ((N : Int) + 1 + p.1, p.2)
theorem homes_put {l : List PutD} (hl : ∀ p ∈ l, 0 ≤ p.1 ∧ p.1 < (N : Int)) : ∀ (s : List ByteArray), s.length = 2 * N + 1 → homes N (putIn s (shift N l)) = putIn (homes N s) l := by
  induction l with
  | nil => intro s _; rfl
  | cons p l ih =>
    intro s hs
    have hp := hl p (by simp)
    have e : ((N : Int) + 1 + p.1).toNat = N + 1 + p.1.toNat := by omega
    show homes N (putIn (s.set ((N : Int) + 1 + p.1).toNat p.2) (shift N l)) = _
    rw [ih (fun q hq => hl q (by simp [hq])) _ (by simpa using hs), e, homes_set s hs (by omega), putIn_cons]
theorem over_put {l : List PutD} : ∀ (h : List ByteArray) (i : Nat) (x : ByteArray), (∃ q ∈ l, q.1.toNat = i) → putIn (h.set i x) l = putIn h l := by
  induction l with
  | nil => rintro h i x ⟨q, hq, _⟩; cases hq
  | cons p l ih =>
    rintro h i x ⟨q, hq, hi⟩
    rw [putIn_cons, putIn_cons]
    by_cases e : p.1.toNat = i
    · rw [e, List.set_set]
    · rw [List.set_comm _ _ (fun h => e h.symm)]
      rcases List.mem_cons.1 hq with rfl | hq
      · exact absurd hi e
      · exact ih _ _ _ ⟨q, hq, hi⟩
theorem over_all {l : List PutD} : ∀ (m : List PutD) (h : List ByteArray), (∀ p ∈ m, ∃ q ∈ l, q.1.toNat = p.1.toNat) → putIn (putIn h m) l = putIn h l := by
  intro m
  induction m with
  | nil => intro h _; rfl
  | cons p m ih =>
    intro h hm
    rw [putIn_cons, ih _ (fun q hq => hm q (by simp [hq])), over_put _ _ _ (hm p (by simp))]
theorem keepL_map (f : PutD → PutD) : ∀ (l : List PutD) (ks : List Bool), keepL (l.map f) ks = (keepL l ks).map f
  | [], ks => by cases ks <;> rfl
  | p :: l, [] => rfl
  | p :: l, k :: ks => by
    rw [List.map_cons, keepL, keepL, keepL_map f l ks]
    split <;> simp

/-- Behind a recovery where there is no head: the home blocks as they are. -/
theorem rec_none {s : List ByteArray} (h : Sec N s) (h1 : 1 ≤ N) (h2 : N ≤ 48) (h0 : s.getD 0 ⟨#[]⟩ = ⟨#[]⟩) : homeD (recD (s, []) (N : Int)) (N : Int) = homes N s := by
  have e : recD (s, []) (N : Int) = (s.set 0 ⟨#[]⟩, []) := by
    unfold recD recS
    rw [if_pos (h.okJ h1 h2), h0, headOf_empty]
  rw [e, homeD_homes (h.set 0 (by decide)) h1 h2]
  exact homes_low fun i hi => getD_set_ne s (by omega) _
theorem applyTo_eq {s : List ByteArray} {l : List PutD} (hl : (l.length : Int) ≤ (N : Int)) (hp : ∀ p ∈ l, 0 ≤ p.1 ∧ p.1 < (N : Int)) (hj : ∀ k (hk : k < l.length), s.getD (1 + k) ⟨#[]⟩ = l[k].2) :
    ∀ m, m ≤ l.length → applyTo (N : Int) (l.map (·.1)) s m = putIn s (shift N (l.take m))
  | 0, _ => rfl
  | m + 1, hm => by
    rw [applyTo, applyTo_eq hl hp hj m (by omega)]
    have hm' : m < l.length := by omega
    have e1 : (l.map (·.1)).getD m 0 = l[m].1 := by simp [List.getD, hm']
    have e2 : (putIn s (shift N (l.take m))).getD (1 + m) ⟨#[]⟩ = l[m].2 := by
      rw [putIn_off (fun p hq => ?_), hj m hm']
      obtain ⟨q, hq', rfl⟩ := List.mem_map.1 hq
      have := hp q (List.mem_of_mem_take hq')
      show ((N : Int) + 1 + q.1).toNat ≠ _
      omega
    have e3 : shift N (l.take m ++ [l[m]]) = shift N (l.take m) ++ [((N : Int) + 1 + l[m].1, l[m].2)] := by unfold shift; rw [List.map_append]; rfl
    rw [e1, e2, List.take_succ_eq_append_getElem hm', e3, putIn_app]
    rfl
/-- Behind a recovery where there is a head, and the journal is its own: the home blocks as the list makes them. -/
theorem rec_head {s : List ByteArray} {l : List PutD} (h : Sec N s) (ht : TxP (N : Int) l) (h0 : s.getD 0 ⟨#[]⟩ = headText l) (hj : ∀ k (hk : k < l.length), s.getD (1 + k) ⟨#[]⟩ = l[k].2) :
    homeD (recD (s, []) (N : Int)) (N : Int) = putIn (homes N s) l := by
  have h1 : 1 ≤ N := by have := ht.1; omega
  have h2 : N ≤ 48 := by have := ht.2.1; omega
  have hlen := ht.len
  have hs : s.length = 2 * N + 1 := h.1
  have hp : ∀ p ∈ l, 0 ≤ p.1 ∧ p.1 < (N : Int) := fun p hp => ⟨(ht.at p hp).1, by have := (ht.at p hp).2.1; omega⟩
  have ej : (s.drop 1).take l.length = l.map (·.2) := by
    apply List.ext_getElem?
    intro i
    by_cases hi : i < l.length
    · have := hj i hi
      have hi2 : 1 + i < s.length := by omega
      rw [List.getElem?_take_of_lt hi, List.getElem?_drop, List.getElem?_map, List.getElem?_eq_getElem hi, List.getElem?_eq_getElem hi2]
      simp [List.getD, hi2] at this
      simp [this]
    · rw [List.getElem?_eq_none (by simp; omega), List.getElem?_eq_none (by simp; omega)]
  have e : recD (s, []) (N : Int) = ((putIn s (shift N l)).set 0 ⟨#[]⟩, []) := by
    unfold recD recS
    rw [if_pos (h.okJ h1 h2), h0, head_read ht]
    simp only [List.length_map]
    rw [ej, if_pos rfl, applyTo_eq hlen hp hj l.length (Nat.le_refl _), List.take_length]
  have hsz : ∀ p ∈ shift N l, p.2.size ≤ 90 := by
    intro p hq
    obtain ⟨q, hq', rfl⟩ := List.mem_map.1 hq
    exact (ht.at q hq').2.2
  rw [e, homeD_homes ((h.put hsz).set 0 (by decide)) h1 h2, homes_low (fun i hi => getD_set_ne _ (by omega) _), homes_put hp s hs]

/-! ### A commit's events, one behind the other -/
def wrE (l : List PutD) : List EvD := l.map fun p => ((0 : Int), p.1, p.2)
theorem evDo_wr {s : List ByteArray} (h : Sec N s) (h2 : N ≤ 48) : ∀ (l p : List PutD), (∀ q ∈ p ++ l, 0 ≤ q.1 ∧ q.1 < 2 * (N : Int) + 1 ∧ q.2.size ≤ 90) → (p ++ l).length ≤ 400 → evDo (s, p) (wrE l) = (s, p ++ l)
  | [], p, _, _ => by simp [wrE, evDo]
  | q :: l, p, hq, hc => by
    have hs : s.length = 2 * N + 1 := h.1
    have hok : ∀ m : List PutD, (∀ x ∈ m, x ∈ p ++ q :: l) → m.length ≤ 400 → dkOk (s, m) = true := by
      intro m hm hl
      refine dkOk_iff.2 ⟨by show s.length ≤ 120; omega, hl, h.2, fun x hx => ?_⟩
      have := hq x (hm x hx)
      exact ⟨this.1, by show x.1 < (s.length : Int); omega, this.2.2⟩
    have hlen : p.length + (l.length + 1) ≤ 400 := by simpa using hc
    have e : evStep (s, p) (0, q.1, q.2) = (s, p ++ [q]) := by
      unfold evStep dkWrite
      rw [if_pos rfl, if_pos ⟨hok p (fun x hx => by simp [hx]) (by omega), hok (p ++ [q]) (fun x hx => by
        rcases List.mem_append.1 hx with hx | hx
        · simp [hx]
        · simp at hx; simp [hx]) (by simp; omega)⟩]
      rfl
    show evDo (evStep (s, p) (0, q.1, q.2)) (wrE l) = _
    rw [e, evDo_wr h h2 l (p ++ [q]) (by simpa using hq) (by simpa using hc)]
    simp
theorem flush_ev {s : List ByteArray} {p : List PutD} (h : dkOk (s, p) = true) : evStep (s, p) (1, 0, ⟨#[]⟩) = (putIn s p, []) := by
  unfold evStep dkFlush
  rw [if_neg (by decide), if_pos rfl, if_pos h]
theorem fall_ev {s : List ByteArray} {p : List PutD} (h : dkOk (s, p) = true) (ks : List Bool) : dkFall (s, p) ks = (putIn s (keepL p ks), []) := by
  unfold dkFall
  rw [if_pos h]
def jour (l : List PutD) : List PutD := (List.range l.length).map fun k => (((1 + k : Nat) : Int), (l.getD k (0, ⟨#[]⟩)).2)
theorem commitE_eq {l : List PutD} (ht : TxP (N : Int) l) : commitE (N : Int) l = wrE (jour l) ++ ((1, 0, ⟨#[]⟩) :: (0, 0, headText l) :: (1, 0, ⟨#[]⟩) :: (wrE (shift N l) ++ [(1, 0, ⟨#[]⟩), (0, 0, ⟨#[]⟩), (1, 0, ⟨#[]⟩)])) := by
  unfold commitE
  rw [if_pos (jtx_yes ht)]
  simp [wrE, jour, shift, Function.comp_def]
theorem keepL_one (p : PutD) (ks : List Bool) : keepL [p] ks = [] ∨ keepL [p] ks = [p] := by
  match ks with
  | [] => exact .inl rfl
  | true :: ks => right; cases ks <;> simp [keepL]
  | false :: ks => left; cases ks <;> simp [keepL]

/-- Wherever within a commit the power fails, and whichever writes are kept: behind recovery all of it is there, or nothing. -/
theorem atomic {s : List ByteArray} {l : List PutD} (h : Sec N s) (ht : TxP (N : Int) l) (h0 : s.getD 0 ⟨#[]⟩ = ⟨#[]⟩) (k : Nat) (ks : List Bool) :
    homeD (recD (dkFall (evDo (s, []) ((commitE (N : Int) l).take k)) ks) (N : Int)) (N : Int) = homes N s ∨
    homeD (recD (dkFall (evDo (s, []) ((commitE (N : Int) l).take k)) ks) (N : Int)) (N : Int) = putIn (homes N s) l := by
  have h1 : 1 ≤ N := by have := ht.1; omega
  have h2 : N ≤ 48 := by have := ht.2.1; omega
  have hlen := ht.len
  have hs : s.length = 2 * N + 1 := h.1
  have hp : ∀ p ∈ l, 0 ≤ p.1 ∧ p.1 < (N : Int) := fun p hp => ⟨(ht.at p hp).1, by have := (ht.at p hp).2.1; omega⟩
  have hjl : (jour l).length = l.length := by simp [jour]
  have hsl : (shift N l).length = l.length := by simp [shift]
  have hj : ∀ q ∈ jour l, 1 ≤ q.1 ∧ q.1 ≤ (N : Int) ∧ q.2.size ≤ 90 := by
    intro q hq
    obtain ⟨i, hi, rfl⟩ := List.mem_map.1 hq
    have hi := List.mem_range.1 hi
    have e : l.getD i (0, ⟨#[]⟩) = l[i] := by simp [List.getD, hi]
    refine ⟨by show (1 : Int) ≤ ((1 + i : Nat) : Int); omega, by show ((1 + i : Nat) : Int) ≤ _; omega, ?_⟩
    show (l.getD i (0, ⟨#[]⟩)).2.size ≤ 90
    rw [e]
    exact (ht.at _ (List.getElem_mem hi)).2.2
  have hh : ∀ q ∈ shift N l, (N : Int) + 1 ≤ q.1 ∧ q.1 < 2 * (N : Int) + 1 ∧ q.2.size ≤ 90 := by
    intro q hq
    obtain ⟨x, hx, rfl⟩ := List.mem_map.1 hq
    have := hp x hx
    exact ⟨by show _ ≤ (N : Int) + 1 + x.1; omega, by show (N : Int) + 1 + x.1 < _; omega, (ht.at x hx).2.2⟩
  have okp : ∀ {t : List ByteArray} {p : List PutD}, Sec N t → (∀ q ∈ p, 0 ≤ q.1 ∧ q.1 < 2 * (N : Int) + 1 ∧ q.2.size ≤ 90) → p.length ≤ 400 → dkOk (t, p) = true := by
    intro t p hT hq hl
    have := hT.1
    exact dkOk_iff.2 ⟨by show t.length ≤ 120; omega, hl, hT.2, fun x hx => ⟨(hq x hx).1, by show x.1 < (t.length : Int); have := (hq x hx).2.1; omega, (hq x hx).2.2⟩⟩
  -- what is known of each state
  have low : ∀ m : List PutD, (∀ q ∈ m, q ∈ jour l) → Sec N (putIn s m) ∧ (putIn s m).getD 0 ⟨#[]⟩ = ⟨#[]⟩ ∧ homes N (putIn s m) = homes N s := by
    intro m hm
    refine ⟨h.put fun q hq => (hj q (hm q hq)).2.2, ?_, homes_low fun i hi => putIn_off (fun q hq => ?_) s⟩
    · rw [putIn_off (fun q hq => ?_) s, h0]
      have := hj q (hm q hq); omega
    · have := hj q (hm q hq); omega
  obtain ⟨s1, hs1⟩ : ∃ s1, putIn s (jour l) = s1 := ⟨_, rfl⟩
  have L1 := low (jour l) (fun _ h => h)
  rw [hs1] at L1
  have jat : ∀ i (hi : i < l.length), s1.getD (1 + i) ⟨#[]⟩ = l[i].2 := by
    have key : ∀ m, m ≤ l.length → ∀ i (hi : i < m), (putIn s ((jour l).take m)).getD (1 + i) ⟨#[]⟩ = (l.getD i (0, ⟨#[]⟩)).2 := by
      intro m
      induction m with
      | zero => intro _ i hi; omega
      | succ m ih =>
        intro hm i hi
        have e : (jour l).take (m + 1) = (jour l).take m ++ [(((1 + m : Nat) : Int), (l.getD m (0, ⟨#[]⟩)).2)] := by
          rw [List.take_succ_eq_append_getElem (by omega)]
          simp [jour]
        have e2 : ((1 + m : Nat) : Int).toNat = 1 + m := by omega
        rw [e, putIn_app, putIn_cons]
        show ((putIn s ((jour l).take m)).set ((1 + m : Nat) : Int).toNat _).getD (1 + i) _ = _
        rw [e2]
        by_cases hc : i = m
        · subst hc
          rw [getD_set_eq _ (by rw [putIn_len]; omega)]
        · rw [getD_set_ne _ (by omega), ih (by omega) i (by omega)]
    intro i hi
    have := key l.length (Nat.le_refl _) i hi
    rw [← hjl, List.take_length, hs1] at this
    rw [this]
    simp [List.getD, hi]
  have hdz := head_size (l := l)
  have L2 : Sec N (s1.set 0 (headText l)) := L1.1.set 0 hdz
  have g2 : (s1.set 0 (headText l)).getD 0 ⟨#[]⟩ = headText l := getD_set_eq _ (by have := L1.1.1; omega) _
  have j2 : ∀ i (hi : i < l.length), (s1.set 0 (headText l)).getD (1 + i) ⟨#[]⟩ = l[i].2 := fun i hi => by rw [getD_set_ne _ (by omega), jat i hi]
  have m2 : homes N (s1.set 0 (headText l)) = homes N s := by rw [homes_low (fun i hi => getD_set_ne s1 (by omega) _), L1.2.2]
  have high : ∀ m : List PutD, (∀ q ∈ m, q ∈ l) → homeD (recD (putIn (s1.set 0 (headText l)) (shift N m), []) (N : Int)) (N : Int) = putIn (homes N s) l := by
    intro m hm
    have off : ∀ i, i < N + 1 → (putIn (s1.set 0 (headText l)) (shift N m)).getD i ⟨#[]⟩ = (s1.set 0 (headText l)).getD i ⟨#[]⟩ := by
      intro i hi
      refine putIn_off (fun q hq => ?_) _
      obtain ⟨x, hx, rfl⟩ := List.mem_map.1 hq
      have := hp x (hm x hx)
      show ((N : Int) + 1 + x.1).toNat ≠ i
      omega
    have hS : Sec N (putIn (s1.set 0 (headText l)) (shift N m)) := L2.put fun q hq => by
      obtain ⟨x, hx, rfl⟩ := List.mem_map.1 hq
      exact (ht.at x (hm x hx)).2.2
    rw [rec_head hS ht (by rw [off 0 (by omega)]; exact g2) (fun i hi => by rw [off (1 + i) (by omega)]; exact j2 i hi), homes_put (fun q hq => hp q (hm q hq)) _ L2.1, m2]
    exact over_all m _ fun q hq => ⟨q, hm q hq, rfl⟩
  have full := high l (fun _ h => h)
  obtain ⟨s2, hs2⟩ : ∃ s2, s1.set 0 (headText l) = s2 := ⟨_, rfl⟩
  rw [hs2] at L2 high full
  have S3 : Sec N (putIn s2 (shift N l)) := L2.put fun q hq => (hh q hq).2.2
  have m3 : homes N (putIn s2 (shift N l)) = putIn (homes N s) l := by rw [homes_put hp _ L2.1, ← hs2, m2]
  have at2 : homeD (recD (s2, []) (N : Int)) (N : Int) = putIn (homes N s) l := high [] (fun _ h => by cases h)
  have last : ∀ {t : List ByteArray}, Sec N t → homes N t = putIn (homes N s) l → t.getD 0 ⟨#[]⟩ = ⟨#[]⟩ → homeD (recD (t, []) (N : Int)) (N : Int) = putIn (homes N s) l := fun hT hm h0 => (rec_none hT h1 h2 h0).trans hm
  have S4 : Sec N ((putIn s2 (shift N l)).set 0 ⟨#[]⟩) := S3.set 0 (by decide)
  have at4 : homeD (recD ((putIn s2 (shift N l)).set 0 ⟨#[]⟩, []) (N : Int)) (N : Int) = putIn (homes N s) l :=
    last S4 (by rw [homes_low (fun i hi => getD_set_ne _ (by omega) _), m3]) (getD_set_eq _ (by have := S3.1; omega) _)
  have nofall : ∀ {t : List ByteArray}, Sec N t → dkFall (t, []) ks = (t, []) := fun hT => by rw [fall_ev (hT.ok h2) ks]; cases ks <;> rfl
  have dok : ∀ (p : PutD), p.1 = 0 → p.2.size ≤ 90 → ∀ q ∈ [p], 0 ≤ q.1 ∧ q.1 < 2 * (N : Int) + 1 ∧ q.2.size ≤ 90 := by
    intro p e1 e2 q hq
    obtain rfl : q = p := by simpa using hq
    exact ⟨by omega, by omega, e2⟩
  have wrA : ∀ {t : List ByteArray} (p : PutD), Sec N t → p.1 = 0 → p.2.size ≤ 90 → evStep (t, []) (0, p.1, p.2) = (t, [p]) := by
    intro t p hT e1 e2
    have := evDo_wr hT h2 [p] [] (by simpa using dok p e1 e2) (by simp)
    simpa [wrE, evDo] using this
  have jok : ∀ q ∈ jour l, 0 ≤ q.1 ∧ q.1 < 2 * (N : Int) + 1 ∧ q.2.size ≤ 90 := fun q hq => by have := hj q hq; exact ⟨by omega, by omega, this.2.2⟩
  have sok : ∀ q ∈ shift N l, 0 ≤ q.1 ∧ q.1 < 2 * (N : Int) + 1 ∧ q.2.size ≤ 90 := fun q hq => by have := hh q hq; exact ⟨by omega, by omega, this.2.2⟩
  rw [commitE_eq ht]
  have hwl : (wrE (jour l)).length = l.length := by simp [wrE, hjl]
  have hwh : (wrE (shift N l)).length = l.length := by simp [wrE, hsl]
  by_cases hk : k ≤ l.length
  · have e : ∀ R : List EvD, (wrE (jour l) ++ R).take k = wrE ((jour l).take k) := by
      intro R
      rw [List.take_append_of_le_length (by omega)]
      simp [wrE, List.map_take]
    rw [e, evDo_wr h h2 _ [] (fun q hq => jok q (List.mem_of_mem_take (by simpa using hq))) (by simp; omega), List.nil_append]
    rw [fall_ev (okp h (fun q hq => jok q (List.mem_of_mem_take hq)) (by simp; omega))]
    have L := low (keepL ((jour l).take k) ks) (fun q hq => List.mem_of_mem_take (keepL_mem hq))
    exact .inl ((rec_none L.1 h1 h2 L.2.1).trans L.2.2)
  obtain ⟨j, rfl⟩ : ∃ j, k = l.length + (j + 1) := ⟨k - l.length - 1, by omega⟩
  have e : ∀ (R : List EvD), (wrE (jour l) ++ R).take (l.length + (j + 1)) = wrE (jour l) ++ R.take (j + 1) := by
    intro R
    rw [← hwl, List.take_length_add_append]
  rw [e, evDo_app, evDo_wr h h2 (jour l) [] (by simpa using jok) (by simp; omega), List.nil_append, List.take_succ_cons]
  have f1 : evStep (s, jour l) (1, 0, ⟨#[]⟩) = (s1, []) := by rw [flush_ev (okp h jok (by omega)), hs1]
  show homeD (recD (dkFall (evDo (evStep (s, jour l) (1, 0, ⟨#[]⟩)) _) ks) _) _ = _ ∨ homeD (recD (dkFall (evDo (evStep (s, jour l) (1, 0, ⟨#[]⟩)) _) ks) _) _ = _
  rw [f1]
  have at1 : homeD (recD (s1, []) (N : Int)) (N : Int) = homes N s := (rec_none L1.1 h1 h2 L1.2.1).trans L1.2.2
  cases j with
  | zero =>
    left
    show homeD (recD (dkFall (s1, []) ks) _) _ = _
    rw [nofall L1.1, at1]
  | succ j =>
    rw [List.take_succ_cons]
    show homeD (recD (dkFall (evDo (evStep (s1, []) (0, ((0 : Int), headText l).1, ((0 : Int), headText l).2)) _) ks) _) _ = _ ∨ homeD (recD (dkFall (evDo (evStep (s1, []) (0, ((0 : Int), headText l).1, ((0 : Int), headText l).2)) _) ks) _) _ = _
    rw [wrA (0, headText l) L1.1 rfl hdz]
    have okh := okp L1.1 (dok (0, headText l) rfl hdz) (by simp)
    cases j with
    | zero =>
      show homeD (recD (dkFall (s1, [(0, headText l)]) ks) _) _ = _ ∨ homeD (recD (dkFall (s1, [(0, headText l)]) ks) _) _ = _
      rw [fall_ev okh]
      rcases keepL_one (0, headText l) ks with hk1 | hk1
      · left; rw [hk1]; exact at1
      · right; rw [hk1]; show homeD (recD (s1.set 0 (headText l), []) _) _ = _; rw [hs2]; exact at2
    | succ j =>
      right
      rw [List.take_succ_cons]
      show homeD (recD (dkFall (evDo (evStep (s1, [(0, headText l)]) (1, 0, ⟨#[]⟩)) _) ks) _) _ = _
      have f2 : evStep (s1, [((0 : Int), headText l)]) (1, 0, ⟨#[]⟩) = (s2, []) := by rw [flush_ev okh]; show (s1.set 0 (headText l), _) = _; rw [hs2]
      rw [f2]
      by_cases hj2 : j ≤ l.length
      · have e : (wrE (shift N l) ++ [((1 : Int), (0 : Int), (⟨#[]⟩ : ByteArray)), (0, 0, ⟨#[]⟩), (1, 0, ⟨#[]⟩)]).take j = wrE (shift N (l.take j)) := by
          rw [List.take_append_of_le_length (by omega)]
          simp [wrE, shift, List.map_take]
        have sub : ∀ q ∈ shift N (l.take j), q ∈ shift N l := by
          intro q hq
          obtain ⟨x, hx, rfl⟩ := List.mem_map.1 hq
          exact List.mem_map.2 ⟨x, List.mem_of_mem_take hx, rfl⟩
        rw [e, evDo_wr L2 h2 _ [] (fun q hq => sok q (sub q (by simpa using hq))) (by simp [shift]; omega), List.nil_append]
        rw [fall_ev (okp L2 (fun q hq => sok q (sub q hq)) (by simp [shift]; omega))]
        unfold shift at high ⊢
        rw [keepL_map]
        exact high _ (fun q hq => List.mem_of_mem_take (keepL_mem hq))
      obtain ⟨i, rfl⟩ : ∃ i, j = l.length + (i + 1) := ⟨j - l.length - 1, by omega⟩
      have e : ∀ (R : List EvD), (wrE (shift N l) ++ R).take (l.length + (i + 1)) = wrE (shift N l) ++ R.take (i + 1) := by
        intro R
        rw [← hwh, List.take_length_add_append]
      rw [e, evDo_app, evDo_wr L2 h2 (shift N l) [] (by simpa using sok) (by simp; omega), List.nil_append, List.take_succ_cons]
      have f3 : evStep (s2, shift N l) (1, 0, ⟨#[]⟩) = (putIn s2 (shift N l), []) := flush_ev (okp L2 sok (by omega))
      show homeD (recD (dkFall (evDo (evStep (s2, shift N l) (1, 0, ⟨#[]⟩)) _) ks) _) _ = _
      rw [f3]
      generalize putIn s2 (shift N l) = s3 at *
      cases i with
      | zero =>
        show homeD (recD (dkFall (s3, []) ks) _) _ = _
        rw [nofall S3]; exact full
      | succ i =>
        rw [List.take_succ_cons]
        show homeD (recD (dkFall (evDo (evStep (s3, []) (0, ((0 : Int), (⟨#[]⟩ : ByteArray)).1, ((0 : Int), (⟨#[]⟩ : ByteArray)).2)) _) ks) _) _ = _
        rw [wrA (0, ⟨#[]⟩) S3 rfl (by decide)]
        have oke := okp S3 (dok (0, ⟨#[]⟩) rfl (by decide)) (by simp)
        cases i with
        | zero =>
          show homeD (recD (dkFall (s3, [(0, ⟨#[]⟩)]) ks) _) _ = _
          rw [fall_ev oke]
          rcases keepL_one (0, ⟨#[]⟩) ks with hk1 | hk1
          · rw [hk1]; exact full
          · rw [hk1]; exact at4
        | succ i =>
          rw [List.take_succ_cons, List.take_nil]
          show homeD (recD (dkFall (evStep (s3, [(0, ⟨#[]⟩)]) (1, 0, ⟨#[]⟩)) ks) _) _ = _
          rw [flush_ev oke]
          show homeD (recD (dkFall (s3.set 0 ⟨#[]⟩, []) ks) _) _ = _
          rw [nofall S4]; exact at4
/-- Behind a commit's end all of it is there. -/
theorem atomic_end {s : List ByteArray} {l : List PutD} (h : Sec N s) (ht : TxP (N : Int) l) :
    homeD (recD (evDo (s, []) (commitE (N : Int) l)) (N : Int)) (N : Int) = putIn (homes N s) l := by
  have h1 : 1 ≤ N := by have := ht.1; omega
  have h2 : N ≤ 48 := by have := ht.2.1; omega
  have hlen := ht.len
  have hp : ∀ p ∈ l, 0 ≤ p.1 ∧ p.1 < (N : Int) := fun p hp => ⟨(ht.at p hp).1, by have := (ht.at p hp).2.1; omega⟩
  have hj : ∀ q ∈ jour l, 1 ≤ q.1 ∧ q.1 ≤ (N : Int) ∧ q.2.size ≤ 90 := by
    intro q hq
    obtain ⟨i, hi, rfl⟩ := List.mem_map.1 hq
    have hi := List.mem_range.1 hi
    have e : l.getD i (0, ⟨#[]⟩) = l[i] := by simp [List.getD, hi]
    refine ⟨by show (1 : Int) ≤ ((1 + i : Nat) : Int); omega, by show ((1 + i : Nat) : Int) ≤ _; omega, ?_⟩
    show (l.getD i (0, ⟨#[]⟩)).2.size ≤ 90
    rw [e]
    exact (ht.at _ (List.getElem_mem hi)).2.2
  have hh : ∀ q ∈ shift N l, (N : Int) + 1 ≤ q.1 ∧ q.1 < 2 * (N : Int) + 1 ∧ q.2.size ≤ 90 := by
    intro q hq
    obtain ⟨x, hx, rfl⟩ := List.mem_map.1 hq
    have := hp x hx
    exact ⟨by show _ ≤ (N : Int) + 1 + x.1; omega, by show (N : Int) + 1 + x.1 < _; omega, (ht.at x hx).2.2⟩
  have okp : ∀ {t : List ByteArray} {p : List PutD}, Sec N t → (∀ q ∈ p, 0 ≤ q.1 ∧ q.1 < 2 * (N : Int) + 1 ∧ q.2.size ≤ 90) → p.length ≤ 400 → dkOk (t, p) = true := by
    intro t p hT hq hl
    have := hT.1
    exact dkOk_iff.2 ⟨by show t.length ≤ 120; omega, hl, hT.2, fun x hx => ⟨(hq x hx).1, by show x.1 < (t.length : Int); have := (hq x hx).2.1; omega, (hq x hx).2.2⟩⟩
  have wrA : ∀ {t : List ByteArray} (p : PutD), Sec N t → p.1 = 0 → p.2.size ≤ 90 → evStep (t, []) (0, p.1, p.2) = (t, [p]) ∧ evStep (t, [p]) (1, 0, ⟨#[]⟩) = (t.set 0 p.2, []) := by
    intro t p hT e1 e2
    have d : ∀ q ∈ [p], 0 ≤ q.1 ∧ q.1 < 2 * (N : Int) + 1 ∧ q.2.size ≤ 90 := by
      intro q hq
      obtain rfl : q = p := by simpa using hq
      exact ⟨by omega, by omega, e2⟩
    have := evDo_wr hT h2 [p] [] (by simpa using d) (by simp)
    refine ⟨by simpa [wrE, evDo] using this, ?_⟩
    rw [flush_ev (okp hT d (by simp)), putIn_cons, e1]
    rfl
  have jok : ∀ q ∈ jour l, 0 ≤ q.1 ∧ q.1 < 2 * (N : Int) + 1 ∧ q.2.size ≤ 90 := fun q hq => by have := hj q hq; exact ⟨by omega, by omega, this.2.2⟩
  have sok : ∀ q ∈ shift N l, 0 ≤ q.1 ∧ q.1 < 2 * (N : Int) + 1 ∧ q.2.size ≤ 90 := fun q hq => by have := hh q hq; exact ⟨by omega, by omega, this.2.2⟩
  have hjl : (jour l).length = l.length := by simp [jour]
  have hsl : (shift N l).length = l.length := by simp [shift]
  have S1 : Sec N (putIn s (jour l)) := h.put fun q hq => (hj q hq).2.2
  have S2 : Sec N ((putIn s (jour l)).set 0 (headText l)) := S1.set 0 head_size
  have S3 : Sec N (putIn ((putIn s (jour l)).set 0 (headText l)) (shift N l)) := S2.put fun q hq => (hh q hq).2.2
  have S4 : Sec N ((putIn ((putIn s (jour l)).set 0 (headText l)) (shift N l)).set 0 ⟨#[]⟩) := S3.set 0 (by decide)
  have e : evDo (s, []) (commitE (N : Int) l) = ((putIn ((putIn s (jour l)).set 0 (headText l)) (shift N l)).set 0 ⟨#[]⟩, []) := by
    rw [commitE_eq ht, evDo_app, evDo_wr h h2 (jour l) [] (by simpa using jok) (by simp; omega), List.nil_append]
    show evDo (evStep (evStep (evStep (s, jour l) (1, 0, ⟨#[]⟩)) (0, ((0 : Int), headText l).1, ((0 : Int), headText l).2)) (1, 0, ⟨#[]⟩)) _ = _
    rw [flush_ev (okp h jok (by omega)), (wrA (0, headText l) S1 rfl head_size).1, (wrA (0, headText l) S1 rfl head_size).2, evDo_app, evDo_wr S2 h2 (shift N l) [] (by simpa using sok) (by simp; omega), List.nil_append]
    show evStep (evStep (evStep (_, shift N l) (1, 0, ⟨#[]⟩)) (0, ((0 : Int), (⟨#[]⟩ : ByteArray)).1, ((0 : Int), (⟨#[]⟩ : ByteArray)).2)) (1, 0, ⟨#[]⟩) = _
    rw [flush_ev (okp S2 sok (by omega)), (wrA (0, ⟨#[]⟩) S3 rfl (by decide)).1, (wrA (0, ⟨#[]⟩) S3 rfl (by decide)).2]
  rw [e, rec_none S4 h1 h2 (getD_set_eq _ (by have := S3.1; omega) _), homes_low (fun i hi => getD_set_ne _ (by omega) _), homes_put hp _ S2.1, homes_low (fun i hi => getD_set_ne _ (by omega) _), homes_low (fun i hi => putIn_off (fun q hq => by have := hj q hq; omega) s)]
end
/-! ### Recoveries -/
theorem applyTo_len (n : Int) (ats : List Int) (s : List ByteArray) : ∀ k, (applyTo n ats s k).length = s.length
  | 0 => rfl
  | k + 1 => by rw [applyTo, List.length_set, applyTo_len n ats s k]
theorem applyTo_small {n : Int} {ats : List Int} {s : List ByteArray} (h : ∀ x ∈ s, x.size ≤ 90) : ∀ k, ∀ x ∈ applyTo n ats s k, x.size ≤ 90
  | 0 => h
  | k + 1 => by
    intro x hx
    rw [applyTo] at hx
    rcases List.mem_or_eq_of_mem_set hx with hx | rfl
    · exact applyTo_small h k x hx
    · by_cases hl : 1 + k < (applyTo n ats s k).length
      · have e : (applyTo n ats s k).getD (1 + k) ⟨#[]⟩ = (applyTo n ats s k)[1 + k] := by simp [List.getD, hl]
        rw [e]
        exact applyTo_small h k _ (List.getElem_mem hl)
      · have e : (applyTo n ats s k).getD (1 + k) ⟨#[]⟩ = ⟨#[]⟩ := by
          rw [List.getD, List.getElem?_eq_none (by omega)]; rfl
        rw [e]
        decide
theorem recS_len (s : List ByteArray) (n : Int) : (recS s n).length = s.length := by
  unfold recS
  rw [List.length_set]
  split
  · split
    · rw [applyTo_len]
    · rfl
  · rfl
theorem recS_small {s : List ByteArray} {n : Int} (h : ∀ x ∈ s, x.size ≤ 90) : ∀ x ∈ recS s n, x.size ≤ 90 := by
  intro x hx
  unfold recS at hx
  rcases List.mem_or_eq_of_mem_set hx with hx | rfl
  · split at hx
    · split at hx
      · exact applyTo_small h _ x hx
      · exact h x hx
    · exact h x hx
  · decide
theorem recS_zero {s : List ByteArray} {n : Int} (h : 0 < s.length) : (recS s n).getD 0 ⟨#[]⟩ = ⟨#[]⟩ := by
  have e : (recS s n).length = s.length := recS_len s n
  unfold recS at e ⊢
  rw [List.length_set] at e
  exact getD_set_eq _ (by omega) _
theorem recD_sec {d : DkD} {n : Int} (h : okJ d n = true) : ∃ N : Nat, n = (N : Int) ∧ 1 ≤ N ∧ N ≤ 48 ∧ recD d n = (recS d.1 n, []) ∧ Sec N (recS d.1 n) ∧ (recS d.1 n).getD 0 ⟨#[]⟩ = ⟨#[]⟩ := by
  obtain ⟨h1, h2, h3, h4⟩ := okJ_iff.1 h
  refine ⟨n.toNat, by omega, by omega, by omega, by unfold recD; rw [if_pos h], ⟨by rw [recS_len]; omega, recS_small (dkOk_iff.1 h1).2.2.1⟩, recS_zero (by omega)⟩
/-- A recovery a second time is none. -/
theorem rec_twice (d : DkD) (n : Int) (h : okJ d n = true) : recD (recD d n) n = recD d n := by
  obtain ⟨N, rfl, h1, h2, e, hS, h0⟩ := recD_sec h
  rw [e]
  unfold recD
  rw [if_pos (hS.okJ h1 h2)]
  generalize recS d.1 (N : Int) = t at *
  show (recS t (N : Int), _) = _
  have hl : 0 < t.length := by have := hS.1; omega
  unfold recS
  rw [h0, headOf_empty]
  show (t.set 0 ⟨#[]⟩, _) = _
  have e0 : t.set 0 ⟨#[]⟩ = t := by
    have : t[0] = ⟨#[]⟩ := by have h0 := h0; simp [List.getD, hl] at h0; exact h0
    rw [← this]
    exact List.set_getElem_self hl
  rw [e0]
theorem rec_fallen (d : DkD) (n : Int) (h : okJ d n = true) : recD (dkFall d []) n = recD d n := by
  obtain ⟨h1, h2, h3, h4⟩ := okJ_iff.1 h
  rw [fall_nil h1]
  have hk : okJ (d.1, ([] : List PutD)) n = true := okJ_iff.2 ⟨none_ok h1, h2, h3, h4⟩
  unfold recD
  rw [if_pos hk, if_pos h]
end Go.Proofs.YtlidmnehpcodkaaDoor
