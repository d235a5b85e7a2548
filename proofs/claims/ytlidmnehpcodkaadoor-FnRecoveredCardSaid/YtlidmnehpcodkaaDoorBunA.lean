/-
  Own texts, several together.
-/
import Derived.WalkKit
import Derived.ProofKit
import Derived.Deep.QuietTactic
import Derived.BigQuiet
import Derived.Laws.IdiomStrings
import Derived.Test.YtlidmnehpcodkaaDoorRows
import Derived.Deep.RegionWith
import Derived.Deep.AppendSrc
import Derived.Handy
import Derived.OpenShut
import Derived.ShutString
import Derived.ChangeOld
import Derived.Below
import Derived.SliceStrings
import Derived.ChangeSame
import Derived.Lib.SmallJoins
/-
  Own text, plain: what a slice of bytes holds ('Rd'), and the check sum as a function on numbers. Nothing of the program.
-/
namespace Go.Proofs.YtlidmnehpcodkaaDoor
open Go.RowKit

/-- The numbers l lie from the address a on (of nothing nothing is asked). -/
def Rd (k : IntKind) (w : World) (a : Option Addr) (l : List Int) : Prop :=
  l = [] ∨ ∃ b off, a = some ⟨b, off, none⟩ ∧ b < w.heap.size ∧ ∀ i, i < l.length → w.cell? ⟨b, off + i, none⟩ = some (.int k (l.getD i 0))

/-- Each number is a byte. -/
def U8 (l : List Int) : Prop := ∀ n ∈ l, 0 ≤ n ∧ n < 256

theorem U8.at {l : List Int} (h : U8 l) (i : Nat) : 0 ≤ l.getD i 0 ∧ l.getD i 0 < 256 := by
  by_cases hi : i < l.length
  · have := h _ (List.getElem_mem hi); simpa [List.getD, hi] using this
  · have e : l[i]? = none := List.getElem?_eq_none (by omega)
    simp [List.getD, e]

theorem U8.at' {l : List Int} (h : U8 l) (i : Nat) : 0 ≤ l[i]?.getD 0 ∧ l[i]?.getD 0 < 256 := by
  have := h.at i; rwa [List.getD_eq_getElem?_getD] at this

theorem Rd.below {k : IntKind} {B : Nat} {w w' : World} {a : Option Addr} {l : List Int} (h : Rd k w a l) (hb : Below B w w') (hB : w.heap.size ≤ B) : Rd k w' a l := by
  rcases h with h | ⟨b, off, ha, hlt, hc⟩
  · exact .inl h
  · exact .inr ⟨b, off, ha, by have := hb.size; omega, fun i hi => (hb.cell (by exact Nat.lt_of_lt_of_le hlt hB)).trans (hc i hi)⟩

theorem Rd.drewN {k : IntKind} {w : World} {n : Nat} {a : Option Addr} {l : List Int} (h : Rd k w a l) : Rd k (w.drewN n) a l := by
  rcases h with h | ⟨b, off, ha, hlt, hc⟩
  · exact .inl h
  · exact .inr ⟨b, off, ha, by simpa using hlt, fun i hi => by simpa using hc i hi⟩

/-- What a row of the call's own holds can be read. -/
theorem Rd.own {k : IntKind} {w : World} {base : Nat} {e : TypeId} {g n cap : Nat} {l : List Int} (h : w.ownsRow base e 1 (.slice (some ⟨g, 0, none⟩) n cap) n (l.map (Value.int k))) : Rd k w (some ⟨g, 0, none⟩) l := by
  have hl : l.length = n := by have := h.1; simpa using this
  have hg : g < w.heap.size := (h.lt g rfl).2
  refine .inr ⟨g, 0, rfl, hg, fun i hi => ?_⟩
  have := h.cellAt i (by omega)
  rw [Nat.zero_add, this]
  simp [List.getD, hi]

theorem ownsRow_below {w w' : World} {B base : Nat} {e : TypeId} {size : Nat} {v : Value} {n : Nat} {xs : List Value} (h : w.ownsRow base e size v n xs) (hb : Below B w w') (hB : w.heap.size ≤ B) : w'.ownsRow base e size v n xs := by
  refine ⟨h.1, ?_⟩
  rcases h.2 with hn | ⟨g, cap, cur, rfl, hb', hgg, rest⟩
  · exact .inl hn
  · refine .inr ⟨g, cap, cur, rfl, hb', ?_, rest⟩
    rw [hb.block g (by have := (Array.getElem?_eq_some_iff.1 hgg).1; omega)]
    exact hgg

theorem ownsRow_base {w : World} {base base' : Nat} {e : TypeId} {size : Nat} {v : Value} {n : Nat} {xs : List Value} (h : w.ownsRow base e size v n xs) (hb : base' ≤ base) : w.ownsRow base' e size v n xs := by
  refine ⟨h.1, ?_⟩
  rcases h.2 with hn | ⟨g, cap, cur, rfl, hb', rest⟩
  · exact .inl hn
  · exact .inr ⟨g, cap, cur, rfl, Nat.le_trans hb hb', rest⟩

/-- Behind an append of one element onto a row of the call's own. -/
theorem below_append {w wr w1 : World} {B : Nat} {o : Obj} {e : TypeId} {size : Nat} {v : Value} {n : Nat} {xs : List Value} (hbel : Below B w wr) (hB : B ≤ wr.heap.size) (hown : wr.ownsRow B e size v n xs) (hg : (wr.alloc o).grownBy w1 v.ownBlock) : Below B w w1 :=
  (hbel.alloc hB o).grown hg (by simp; omega) (fun k hk => (hown.lt k hk).1)

/-- A value that owns a row of numbers is a slice that reads as these. -/
theorem own_rd {k : IntKind} {w : World} {base : Nat} {e : TypeId} {v : Value} {n : Nat} {l : List Int} (h : w.ownsRow base e 1 v n (l.map (Value.int k))) :
    ∃ a cap, v = .slice a l.length cap ∧ n = l.length ∧ Rd k w a l := by
  have hl : l.length = n := by have := h.1; simpa using this
  rcases h.2 with ⟨rfl, h0⟩ | ⟨g, cap, cur, rfl, _⟩
  · subst h0
    obtain rfl : l = [] := List.eq_nil_of_length_eq_zero hl
    exact ⟨none, 0, rfl, rfl, .inl rfl⟩
  · subst hl
    exact ⟨some ⟨g, 0, none⟩, cap, rfl, rfl, Rd.own h⟩

/-- What the row's frame tells of a slice of bytes that came in, as 'Rd'. -/
theorem rd_of_row {w : World} {a : Option Addr} {len cap : Nat} {zs : List Int}
    (h : (a = none ∧ len = 0 ∧ cap = 0 ∧ zs = []) ∨ ∃ x, a = some x ∧ len ≤ cap ∧ cap ≤ maxLen ∧ zs.length = cap ∧ (∀ i, i < zs.length → w.cell? (x.add i) = some (.int .u8 (zs.getD i 0))) ∧ ∀ n ∈ zs, (Lit.int .u8 n).wf = true) :
    ∃ l : List Int, l.length = len ∧ U8 l ∧ Rd .u8 w a l := by
  rcases h with ⟨_, rfl, _, _⟩ | ⟨x, rfl, hl, hm, hz, hc, hw⟩
  · exact ⟨[], rfl, by intro n hn; simp at hn, .inl rfl⟩
  · refine ⟨zs.take len, by simp; omega, ?_, ?_⟩
    · intro n hn
      have := hw n (List.mem_of_mem_take hn)
      simp [Lit.wf, IntKind.min, IntKind.max, IntKind.bits, IntKind.signed] at this
      omega
    · by_cases h0 : len = 0
      · left; simp [h0]
      · right
        obtain ⟨b, off, spot⟩ := x
        have hc0 := hc 0 (by omega)
        have hspot : spot = none := by simpa [Addr.add] using World.cell?_spot hc0
        subst hspot
        refine ⟨b, off, rfl, World.block_lt_of_cell? w _ hc0, fun i hi => ?_⟩
        simp at hi
        have := hc i (by omega)
        rw [Go.WideShapes.add_plain] at this
        rw [this]
        simp [List.getD, show i < len by omega]

/-! ### The check sum -/
def cstep (x : Nat) : Nat := if x % 2 = 1 then (x / 2) ^^^ 3988292384 else x / 2
def csteps : Nat → Nat → Nat
  | 0, x => x
  | n + 1, x => cstep (csteps n x)
def crcTo (l : List Int) : Nat → Nat
  | 0 => 4294967295
  | k + 1 => csteps 8 (crcTo l k ^^^ (l.getD k 0).toNat)

theorem xor_lt {a b : Nat} (ha : a < 4294967296) (hb : b < 4294967296) : a ^^^ b < 4294967296 := Nat.xor_lt_two_pow (n := 32) ha hb
theorem cstep_lt {x : Nat} (h : x < 4294967296) : cstep x < 4294967296 := by
  unfold cstep; split
  · exact xor_lt (by omega) (by omega)
  · omega
theorem csteps_lt {x : Nat} (h : x < 4294967296) : ∀ n, csteps n x < 4294967296
  | 0 => h
  | n + 1 => cstep_lt (csteps_lt h n)
theorem crcTo_lt {l : List Int} (h : U8 l) : ∀ k, crcTo l k < 4294967296
  | 0 => by unfold crcTo; omega
  | k + 1 => csteps_lt (xor_lt (crcTo_lt h k) (by have := h.at k; omega)) 8

theorem i64_xor_nat (a b : Nat) (ha : a < 4294967296) (hb : b < 4294967296) : bits .xor .i64 (a : Int) (b : Int) = ((a ^^^ b : Nat) : Int) := by
  have hx : a ^^^ b < 2 ^ 32 := Nat.xor_lt_two_pow (by omega) (by omega)
  have h1 : (BitVec.ofInt 64 (a : Int)).toNat = a := by rw [BitVec.ofInt_natCast, BitVec.toNat_ofNat]; omega
  have h2 : (BitVec.ofInt 64 (b : Int)).toNat = b := by rw [BitVec.ofInt_natCast, BitVec.toNat_ofNat]; omega
  have h3 : bits .xor .i64 (a : Int) (b : Int) = IntKind.wrap .i64 ((BitVec.ofInt 64 (a : Int) ^^^ BitVec.ofInt 64 (b : Int)).toNat : Int) := by rfl
  rw [h3, BitVec.toNat_xor, h1, h2, IntKind.wrap_i64]
  omega
theorem i64_xor (a b : Int) (h1 : 0 ≤ a) (h2 : a < 4294967296) (h3 : 0 ≤ b) (h4 : b < 4294967296) : bits .xor .i64 a b = ((a.toNat ^^^ b.toNat : Nat) : Int) := by
  obtain ⟨A, rfl⟩ := Int.eq_ofNat_of_zero_le h1
  obtain ⟨B, rfl⟩ := Int.eq_ofNat_of_zero_le h3
  simpa using i64_xor_nat A B (by omega) (by omega)
end Go.Proofs.YtlidmnehpcodkaaDoor

/-
  Own text, plain: decimal digits, rows of texts, the marks that the laws lay into them.
-/
namespace Go.Proofs.YtlidmnehpcodkaaDoor
open Go.RowKit

def dec : Nat → Nat → List UInt8
  | 0, _ => []
  | f + 1, k => if k = 0 then [] else dec f (k / 10) ++ [UInt8.ofNat (48 + k % 10)]
theorem dec_len (f k : Nat) : (dec f k).length ≤ f := by
  induction f generalizing k with
  | zero => simp [dec]
  | succ f ih =>
    unfold dec; split
    · simp
    · have := ih (k / 10); simp; omega
theorem dec_zero (f : Nat) : dec f 0 = [] := by cases f <;> simp [dec]
theorem dec_succ (f k : Nat) (h : 0 < k) : dec (f + 1) k = dec f (k / 10) ++ [UInt8.ofNat (48 + k % 10)] := by
  rw [dec, if_neg (by omega)]

/-- What a loop that writes digits has done so far: m is left, l is written. -/
def DecPart (K m : Nat) (l : List UInt8) : Prop := ∃ f, m < 10 ^ f ∧ dec f m ++ l = dec 20 K
theorem DecPart.start (K : Nat) (h : K < 10 ^ 20) : DecPart K K [] := ⟨20, h, by simp⟩
theorem DecPart.len {K m : Nat} {l : List UInt8} (h : DecPart K m l) : l.length ≤ 20 := by
  obtain ⟨f, _, h⟩ := h
  have := dec_len 20 K; rw [← h] at this; simp at this; omega
theorem DecPart.step {K m : Nat} {l : List UInt8} (h : DecPart K m l) (hm : 0 < m) : DecPart K (m / 10) (UInt8.ofNat (48 + m % 10) :: l) := by
  obtain ⟨f, hf, h⟩ := h
  cases f with
  | zero => simp at hf; omega
  | succ f =>
    refine ⟨f, by rw [Nat.pow_succ] at hf; omega, ?_⟩
    rw [dec_succ f m hm] at h
    rw [← h]; simp
theorem DecPart.last {K : Nat} {l : List UInt8} (h : DecPart K 0 l) : l = dec 20 K := by
  obtain ⟨f, _, h⟩ := h
  rw [dec_zero] at h; simpa using h

/-- The k-th mark. -/
def markS (k : Nat) : ByteArray := ⟨(109 :: (if k = 0 then [48] else dec 20 k)).toArray⟩
theorem markS_size (k : Nat) : (markS k).size ≤ 21 := by
  have := dec_len 20 k
  unfold markS; split <;> simp [ByteArray.size]; omega

def marksS (k n : Nat) : List ByteArray := (List.range n).map fun i => markS (k + i)
def markToS (l : List ByteArray) (k i : Nat) : List ByteArray := marksS k i ++ l.drop i
theorem marksS_len (k n : Nat) : (marksS k n).length = n := by simp [marksS]
theorem markToS_zero (l : List ByteArray) (k : Nat) : markToS l k 0 = l := by simp [markToS, marksS]
theorem markToS_all (l : List ByteArray) (k : Nat) : markToS l k l.length = marksS k l.length := by simp [markToS]
theorem markToS_len (l : List ByteArray) (k i : Nat) (h : i ≤ l.length) : (markToS l k i).length = l.length := by simp [markToS, marksS_len]; omega
theorem markToS_set (l : List ByteArray) (k i : Nat) (h : i < l.length) : (markToS l k i).set i (markS (k + i)) = markToS l k (i + 1) := by
  unfold markToS
  rw [List.set_append_right _ _ (by rw [marksS_len]; exact Nat.le_refl _), marksS_len, Nat.sub_self]
  have e : marksS k (i + 1) = marksS k i ++ [markS (k + i)] := by unfold marksS; rw [List.range_succ, List.map_append]; rfl
  rw [e, List.append_assoc, List.drop_eq_getElem_cons h]; rfl
theorem marksS_at (k n i : Nat) (h : i < n) : (marksS k n)[i]? = some (markS (k + i)) := by simp [marksS, h]

/-- The texts l lie from the address a on. -/
def RdS (w : World) (a : Option Addr) (l : List ByteArray) : Prop :=
  l = [] ∨ ∃ b off, a = some ⟨b, off, none⟩ ∧ b < w.heap.size ∧ ∀ i (h : i < l.length), w.cell? ⟨b, off + i, none⟩ = some (.string l[i])
theorem RdS.below {B : Nat} {w w' : World} {a : Option Addr} {l : List ByteArray} (h : RdS w a l) (hb : Below B w w') (hB : w.heap.size ≤ B) : RdS w' a l := by
  rcases h with h | ⟨b, off, ha, hlt, hc⟩
  · exact .inl h
  · exact .inr ⟨b, off, ha, by have := hb.size; omega, fun i hi => (hb.cell (by exact Nat.lt_of_lt_of_le hlt hB)).trans (hc i hi)⟩
theorem own_rdS {w : World} {base : Nat} {e : TypeId} {v : Value} {n : Nat} {l : List ByteArray} (h : w.ownsRow base e 1 v n (l.map Value.string)) :
    ∃ a cap, v = .slice a l.length cap ∧ n = l.length ∧ RdS w a l := by
  have hl : l.length = n := by have := h.1; simpa using this
  rcases h.2 with ⟨rfl, h0⟩ | ⟨g, cap, cur, rfl, _⟩
  · subst h0
    obtain rfl : l = [] := List.eq_nil_of_length_eq_zero hl
    exact ⟨none, 0, rfl, rfl, .inl rfl⟩
  · subst hl
    refine ⟨some ⟨g, 0, none⟩, cap, rfl, rfl, .inr ⟨g, 0, rfl, (h.lt g rfl).2, fun i hi => ?_⟩⟩
    rw [Nat.zero_add, h.cellAt i (by omega)]
    simp [hi]
end Go.Proofs.YtlidmnehpcodkaaDoor

/-
  Own text: the laws' helpers over rows of texts: alike, marked, still marked.
-/
namespace Go.Proofs.YtlidmnehpcodkaaDoor
open Go.RowKit

theorem str_cons (d : UInt8) (l : List UInt8) : (⟨#[d]⟩ ++ ⟨l.toArray⟩ : ByteArray) = ⟨(d :: l).toArray⟩ := by
  have := ByteArray.mk_append_mk (x := [d]) (y := l)
  simpa using this
theorem ret_str {a b : List UInt8} (h : a = b) : Ending.returned (.string ⟨a.toArray⟩) = .returned (.string ⟨b.toArray⟩) := by rw [h]

set_option maxRecDepth 20000 in
set_option maxHeartbeats 400000 in
theorem markT (k : Nat) (w : World) (hk : k ≤ 4294967296) :
    Calls Tryd.prog 113 #[.int .i64 k] w fun e w' => e = .returned (.string (markS k)) ∧ Below w.heap.size w w' := by
  by_cases h0 : k = 0
  · subst h0
    go_enter Tryd.func113, Tryd.ntmps113
    go_wp2
    go_ret
    exact ⟨rfl, Below.refl _ _⟩
  · have HM : Hid (markS k = ⟨(109 :: dec 20 k).toArray⟩) := by show _ = _; unfold markS; rw [if_neg h0]
    go_enter Tryd.func113, Tryd.ntmps113
    go_wp2
    go_loopw [0, 3] (fun x s wr => ∃ (m : Nat) (l : List UInt8), x = .int .i64 m ∧ m ≤ 4294967296 ∧ Hid (DecPart k m l) ∧ s = .string ⟨l.toArray⟩ ∧ Below w.heap.size w wr) (fun x _ _ => (intOf x).toNat)
    case atStart => exact ⟨k, [], rfl, hk, DecPart.start k (by omega), rfl, Below.refl _ _⟩
    case round =>
      obtain ⟨m, l, rfl, hm, HP, rfl, hbel⟩ := hrel
      have hll := HP.out.len
      by_cases hm0 : 0 < m
      · have hcv := run_convert_bytes_back (P := Tryd.prog) (wr.alloc (.cells #[.int .u8 (48 + (m : Int) % 10)] 5)) 22 9 5 ⟨wr.heap.size, 0, none⟩ 1 [UInt8.ofNat (48 + m % 10)] Tryd.underlying22 Tryd.underlying5 Tryd.underlying9 (by
          intro j hj
          match j, hj with
          | 0, _ =>
            have e : (((UInt8.ofNat (48 + m % 10)).toNat : Nat) : Int) = 48 + (m : Int) % 10 := by rw [UInt8.toNat_ofNat']; omega
            simp only [List.getElem_cons_zero]
            rw [e]
            simp [Addr.add])
        have hcv' : (convert 22 9 (.slice (some ⟨wr.heap.size, 0, none⟩) 1 1)).run Tryd.prog (wr.alloc (.cells #[.int .u8 (48 + (m : Int) % 10)] 5)) = .ok (.string ⟨[UInt8.ofNat (48 + m % 10)].toArray⟩) (wr.alloc (.cells #[.int .u8 (48 + (m : Int) % 10)] 5)) := hcv
        clear hcv
        have hbel' : Below w.heap.size w (wr.alloc (.cells #[.int .u8 (48 + (m : Int) % 10)] 5)) := hbel.alloc hbel.size _
        have HP' : Hid (DecPart k (m / 10) (UInt8.ofNat (48 + m % 10) :: l)) := HP.out.step hm0
        generalize UInt8.ofNat (48 + m % 10) = d at *
        go_wp2
        go_roundw
        case rel => exact ⟨m / 10, d :: l, by go_num, by omega, HP', by rw [str_cons d l], hbel'⟩
        case measure => simp [intOf]; omega
      · go_wp2
        go_ret
        refine ⟨?_, hbel⟩
        obtain rfl : m = 0 := by omega
        rw [HM.out, ← HP.out.last, str_cons 109 l]
        rfl

set_option maxRecDepth 20000 in
set_option maxHeartbeats 400000 in
theorem eqS (a c : Option Addr) (ca cc : Nat) (l : List ByteArray) (w : World) (hl : l.length ≤ 4194304) (hr : RdS w a l) (hs : RdS w c l) :
    Calls Tryd.prog 82 #[.slice a l.length ca, .slice c l.length cc] w fun e w' => e = .returned (.bool true) ∧ Below w.heap.size w w' := by
  have HCS : Hid (∀ k (h : k < l.length), ∃ b off, a = some ⟨b, off, none⟩ ∧ b < w.heap.size ∧ w.cell? ⟨b, off + k, none⟩ = some (.string l[k])) := by
    intro k hk
    rcases hr with rfl | ⟨b, off, rfl, hlt, hc⟩
    · simp at hk
    · exact ⟨b, off, rfl, hlt, hc k hk⟩
  have HDS : Hid (∀ k (h : k < l.length), ∃ b off, c = some ⟨b, off, none⟩ ∧ b < w.heap.size ∧ w.cell? ⟨b, off + k, none⟩ = some (.string l[k])) := by
    intro k hk
    rcases hs with rfl | ⟨b, off, rfl, hlt, hc⟩
    · simp at hk
    · exact ⟨b, off, rfl, hlt, hc k hk⟩
  clear hr hs
  go_enter Tryd.func82, Tryd.ntmps82
  go_wp2
  go_loopw [5] (fun i wr => ∃ k : Nat, k ≤ l.length ∧ i = .int .i64 k ∧ Below w.heap.size w wr) (fun i _ => l.length - (intOf i).toNat)
  case atStart => exact ⟨0, Nat.zero_le _, rfl, Below.refl _ _⟩
  case round =>
    obtain ⟨k, hk, rfl, hbel⟩ := hrel
    by_cases hlt : k < l.length
    · obtain ⟨b, off, rfl, hblt, hcell⟩ := HCS.out k hlt
      obtain ⟨d, off2, rfl, hdlt, hcell2⟩ := HDS.out k hlt
      have hcr : wr.cell? ⟨b, off + k, none⟩ = some (.string l[k]) := (hbel.cell hblt).trans hcell
      have hdr : wr.cell? ⟨d, off2 + k, none⟩ = some (.string l[k]) := (hbel.cell hdlt).trans hcell2
      generalize l[k] = z at *
      clear hcell hcell2
      go_wp2
      go_region
      all_goals (go_wp2)
      all_goals go_roundw
      case rel => exact ⟨k + 1, by omega, by go_num, hbel.drew⟩
      case measure => simp [intOf]; omega
    · go_wp2
      go_ret
      exact ⟨rfl, hbel⟩

set_option maxRecDepth 20000 in
set_option maxHeartbeats 400000 in
theorem markStr (v : Value) (n k base : Nat) (l : List ByteArray) (w : World) (hn : n ≤ 2147483648) (hk : k ≤ 2147483648) (hb : base ≤ w.heap.size) (hown : w.ownsRow base 9 1 v n (l.map Value.string)) :
    Calls Tryd.prog 84 #[v, .int .i64 k] w fun e w' => e = .returned (.int .i64 ((k + n : Nat) : Int)) ∧ w'.ownsRow base 9 1 v n ((marksS k n).map Value.string) ∧ Below base w w' := by
  have hl : l.length = n := by have := hown.1; simpa using this
  rcases hown.2 with ⟨rfl, rfl⟩ | ⟨g, cap, cur, rfl, hbg, hrest⟩
  · go_enter Tryd.func84, Tryd.ntmps84
    go_wp2
    go_loop [1, 5] (fun x i => x = .int .i64 k ∧ i = .int .i64 0) (fun _ _ => 0)
    case atStart => exact ⟨rfl, rfl⟩
    case round =>
      obtain ⟨rfl, rfl⟩ := hrel
      go_wp2
      go_ret
      exact ⟨by simp, World.ownsRow_nil _ _ _ _, Below.refl _ _⟩
  · clear hrest
    subst hl
    go_enter Tryd.func84, Tryd.ntmps84
    go_wp2
    go_loopw [1, 5] (fun x i wr => ∃ j : Nat, j ≤ l.length ∧ x = .int .i64 ((k + j : Nat) : Int) ∧ i = .int .i64 j ∧ wr.ownsRow base 9 1 (.slice (some ⟨g, 0, none⟩) l.length cap) l.length ((markToS l k j).map Value.string) ∧ Below base w wr) (fun _ i _ => l.length - (intOf i).toNat)
    case atStart => exact ⟨0, Nat.zero_le _, by simp, rfl, by rw [markToS_zero]; exact hown, Below.refl _ _⟩
    case round =>
      obtain ⟨j, hj, rfl, rfl, ho, hbel⟩ := hrel
      by_cases hlt : j < l.length
      · clear hown
        go_wp2_with fail
        refine (markT (k + j) _ (by omega)).mono ?_
        rintro e w1 ⟨rfl, hb1⟩
        have ho1 := ownsRow_below ho hb1 (Nat.le_refl _)
        have hbel1 : Below base w w1 := hbel.trans (hb1.mono (by have := hbel.size; omega))
        clear ho hbel hb1
        have hfz := ho1.frozenAt j
        have hce : w1.cell? ⟨g, j, none⟩ = some (.string ((markToS l k j).getD j ⟨#[]⟩)) := by
          rw [ho1.cellAt j (by omega)]
          have := markToS_len l k j hj
          simp [List.getD, show j < (markToS l k j).length by omega]
        generalize (markToS l k j).getD j ⟨#[]⟩ = old at hce
        have hst := (ho1.stored j (.string (markS (k + j)))).1
        rw [← List.map_set, markToS_set l k j hlt] at hst
        have hb2 : Below base w (w1.setCell ⟨g, j, none⟩ (.string (markS (k + j)))) := hbel1.setCell hbg _
        generalize markS (k + j) = ms at *
        go_wp2
        go_roundw
        case rel => exact ⟨j + 1, by omega, by go_num, by go_num, hst, hb2⟩
        case measure => simp [intOf]; omega
      · obtain rfl : j = l.length := by omega
        go_wp2
        go_ret
        exact ⟨by simp, by rw [← markToS_all]; exact ho, hbel⟩
end Go.Proofs.YtlidmnehpcodkaaDoor

/-
  Own text: the laws' helper that looks whether a row of texts still bears its marks.
-/
namespace Go.Proofs.YtlidmnehpcodkaaDoor
open Go.RowKit

set_option maxRecDepth 20000 in
set_option maxHeartbeats 400000 in
theorem heldStr (v : Value) (n k base : Nat) (w : World) (hn : n ≤ 2147483648) (hk : k ≤ 2147483648) (hown : w.ownsRow base 9 1 v n ((marksS k n).map Value.string)) :
    Calls Tryd.prog 86 #[v, .int .i64 k] w fun e w' => e = .returned (.int .i64 ((k + n : Nat) : Int)) ∧ Below w.heap.size w w' := by
  rcases hown.2 with ⟨rfl, rfl⟩ | ⟨g, cap, cur, rfl, hbg, hrest⟩
  · go_enter Tryd.func86, Tryd.ntmps86
    go_wp2
    go_loop [1, 5] (fun x i => x = .int .i64 k ∧ i = .int .i64 0) (fun _ _ => 0)
    case atStart => exact ⟨rfl, rfl⟩
    case round =>
      obtain ⟨rfl, rfl⟩ := hrel
      go_wp2
      go_ret
      exact ⟨by simp, Below.refl _ _⟩
  · clear hrest
    have hg : g < w.heap.size := (hown.lt g rfl).2
    go_enter Tryd.func86, Tryd.ntmps86
    go_wp2
    go_loopw [1, 5] (fun x i wr => ∃ j : Nat, j ≤ n ∧ x = .int .i64 ((k + j : Nat) : Int) ∧ i = .int .i64 j ∧ Below w.heap.size w wr) (fun _ i _ => n - (intOf i).toNat)
    case atStart => exact ⟨0, Nat.zero_le _, by simp, rfl, Below.refl _ _⟩
    case round =>
      obtain ⟨j, hj, rfl, rfl, hbel⟩ := hrel
      by_cases hlt : j < n
      · have hce : wr.cell? ⟨g, j, none⟩ = some (.string (markS (k + j))) := by
          rw [hbel.cell (by exact hg), hown.cellAt j (by omega)]
          simp [marksS_at k n j hlt]
        have hgr : g < wr.heap.size := by have := hbel.size; omega
        have HC : Hid (∀ w1 : World, Calls Tryd.prog 113 #[.int .i64 ((k + j : Nat) : Int)] w1 fun e w' => e = .returned (.string (markS (k + j))) ∧ Below w1.heap.size w1 w') := fun w1 => markT (k + j) w1 (by omega)
        generalize markS (k + j) = ms at *
        clear hown
        go_wp2
        go_region_with (go_at_call 113; refine (HC.out _).mono ?_; rintro e w1 ⟨rfl, hb1⟩; have hc1 : w1.cell? ⟨g, j, none⟩ = some (.string ms) := (hb1.cell (by exact hgr)).trans hce)
        all_goals
          have hb2 : Below w.heap.size w w1 := hbel.drew.trans (hb1.mono hbel.size)
          clear hb1 hc1 hce hbel
          go_wp2
          go_roundw
          case rel => exact ⟨j + 1, by omega, by go_num, by go_num, hb2⟩
          case measure => simp [intOf]; omega
      · obtain rfl : j = n := by omega
        go_wp2
        go_ret
        exact ⟨by simp, hbel⟩
end Go.Proofs.YtlidmnehpcodkaaDoor

/-
  Own text: 'append' onto a row of the call's own, from whatever source (a string's bytes, a slice, nothing): one law for the walk.
-/
namespace Go.Proofs.YtlidmnehpcodkaaDoor
open Go.RowKit
section
variable {P : Program} (w : World)

theorem run_append_own_src (base : Nat) (t tx ty e : TypeId) (i : TypeInfo) (z : Value) (size bytes : Nat) (ht : P.underlying t = some (.slice e)) (hi : P.info? e = some i) (hz : i.zero = some z)
    (hsize : i.size = size) (hby : i.bytes = bytes) (hzs : z.cells.size = size)
    (v : Value) (n : Nat) (xs : List Value) (hown : w.ownsRow base e size v n xs)
    (x : Value) (m : Nat) (news : List Value) (hs : Src P size tx x m news w)
    (h63 : n + m ≤ maxLen) (hbytes : (n + m) * bytes ≤ 140737488355328) (hbase : base ≤ w.heap.size) :
    ∃ v' w', (Builtin.append_ #[t, tx] ty #[v, x]).run P w = .ok v' w' ∧ w'.ownsRow base e size v' (n + m) (xs ++ news) ∧ w.grownBy w' v.ownBlock := by
  subst hsize
  subst hby
  have hsmall : n + m ≤ 9223372036854775807 := by simp only [maxLen] at h63; omega
  have hl := hs.newsLen
  have hlen : (xs ++ news).length = (n + m) * i.size := by rw [List.length_append, hown.1, hl, Nat.add_mul]
  have grown : ∀ (old : Nat), old < n + m → ∀ (row : Option Nat),
      (w.drew.alloc (.cells ((xs ++ news).toArray ++ Builtin.zeroCells z.cells (grownCap w (n + m) old e - (n + m))) e)).ownsRow base e i.size
        (.slice (some ⟨w.heap.size, 0, none⟩) (n + m) (grownCap w (n + m) old e)) (n + m) (xs ++ news) ∧
      w.grownBy (w.drew.alloc (.cells ((xs ++ news).toArray ++ Builtin.zeroCells z.cells (grownCap w (n + m) old e - (n + m))) e)) row := by
    intro old ho row
    have hge := grownCap_ge w (n + m) old e
    have hcm : grownCap w (n + m) old e ≤ maxLen := grownCap_le_maxLen w (n + m) old e h63
    refine ⟨⟨hlen, .inr ⟨w.heap.size, _, _, rfl, hbase, heap_alloc_new w.drew _, hge, hcm, ?_, ?_⟩⟩, ⟨rfl, rfl, rfl, by simp, fun k hk _ => _root_.Go.heap_alloc_old w.drew _ hk⟩⟩
    · simp only [Array.size_append, List.size_toArray, size_zeroCells, hzs, hlen, ← Nat.add_mul]
      congr 1
      omega
    · simp only [Array.toList_append]
      rw [← hlen]
      exact List.take_left
  rcases hown.2 with ⟨rfl, rfl⟩ | ⟨g, cap, cur, rfl, hbg, hg, hnc, hcm, hcs, htake⟩
  · have hx : xs = [] := List.eq_nil_of_length_eq_zero (by simpa using hown.1)
    subst hx
    by_cases hm : m = 0
    · subst hm
      have hn : news = [] := List.eq_nil_of_length_eq_zero (by simpa using hl)
      subst hn
      refine ⟨.slice none 0 0, w, ?_, World.ownsRow_nil w base e i.size, ⟨rfl, rfl, rfl, Nat.le_refl _, fun _ _ _ => rfl⟩⟩
      rcases hs.kind with ⟨e', hk⟩ | hk <;> simp [Builtin.append_, run_underlying ht, run_underlying hk, sizeOf, typeInfo, hi, hs.len, hs.cells]
    · have hold : (Builtin.firstCells i.size 0 (.slice none 0 0)).run P w.drew = .ok ([] : List Value).toArray w.drew := run_firstCells_none w.drew i.size 0 0 0
      have hr := run_append_grow_src (P := P) w t tx ty e i z ht hi hz none 0 0 [] hold x m news hs (by omega) (by omega) (growslice_fits (by omega) hbytes)
      have hgr := grown 0 (by omega) (Value.ownBlock (.slice none 0 0))
      simp only [Nat.zero_add, List.nil_append] at hgr hr ⊢
      exact ⟨_, _, hr, hgr.1, hgr.2⟩
  · by_cases hroom : n + m ≤ cap
    · have hfit : n * i.size + news.length ≤ cur.size := by rw [hl, hcs, ← Nat.add_mul]; exact Nat.mul_le_mul_right _ hroom
      have hst := run_storeCells_at P g (n * i.size) e news 0 cur w hg (by simpa using hfit) hs.one
      simp only [Nat.add_zero] at hst
      have hr : (Builtin.append_ #[t, tx] ty #[.slice (some ⟨g, 0, none⟩) n cap, x]).run P w =
          .ok (.slice (some ⟨g, 0, none⟩) (n + m) cap) (w.setRow g (cur.toList.take (n * i.size) ++ news ++ cur.toList.drop (n * i.size + news.length)).toArray) := by
        rcases hs.kind with ⟨e', hk⟩ | hk <;> simp [Builtin.append_, run_underlying ht, run_underlying hk, sizeOf, typeInfo, hi, hs.len, hroom, hs.cells, Addr.add_lit, hst]
      refine ⟨_, _, hr, ⟨hlen, .inr ⟨g, cap, _, rfl, hbg, setRow_heap w g cur _ e _ hg, hroom, hcm, ?_, ?_⟩⟩, ⟨rfl, rfl, rfl, by simp, fun k _ hk => setRow_other w g k _ (fun e => hk (by simp [Value.ownBlock, e]))⟩⟩
      · simp only [List.size_toArray, List.length_append, List.length_take, List.length_drop, Array.length_toList]
        omega
      · rw [htake, ← hlen]
        exact List.take_left
    · have holds : ∀ j u, xs[j]? = some u → w.cell? ((⟨g, 0, none⟩ : Addr).add j) = some u := hown.cells (g := g) rfl
      have hold : (Builtin.firstCells i.size n (.slice (some ⟨g, 0, none⟩) n cap)).run P w.drew = .ok xs.toArray w.drew := run_firstCells_some w.drew i.size n ⟨g, 0, none⟩ n cap xs hown.1 (by simpa using holds)
      have hr := run_append_grow_src (P := P) w t tx ty e i z ht hi hz (some ⟨g, 0, none⟩) n cap xs hold x m news hs (by omega) (by omega) (growslice_fits (by omega) hbytes)
      have hgr := grown cap (by omega) (Value.ownBlock (.slice (some ⟨g, 0, none⟩) n cap))
      exact ⟨_, _, hr, hgr.1, hgr.2⟩

theorem wpList_append_own_src {ops : Array Oper} {rest : List Oper} {o : Oper} {a : Act} {Q : Exit → Act → World → Prop} (hgd : o.guard = none) (s x : Operand) (t tx : TypeId)
    (ho : o.op = .call { callee := .builtin .append, args := #[s, x], argTypes := #[t, tx] })
    (base : Nat) (e : TypeId) (i : TypeInfo) (z : Value) (size bytes : Nat) (ht : P.underlying t = some (.slice e)) (hi : P.info? e = some i) (hz : i.zero = some z)
    (hsize : i.size = size) (hby : i.bytes = bytes) (hzs : z.cells.size = size)
    (v : Value) (n : Nat) (xs : List Value) (hs : a.eval s = v) (hown : w.ownsRow base e size v n xs)
    (xv : Value) (m : Nat) (news : List Value) (hx : a.eval x = xv) (hsrc : Src P size tx xv m news w)
    (h63 : n + m ≤ maxLen) (hbytes : (n + m) * bytes ≤ 140737488355328) (hbase : base ≤ w.heap.size)
    (h : ∀ v' w', w'.ownsRow base e size v' (n + m) (xs ++ news) → w.grownBy w' v.ownBlock → wpList P ops Q rest (a.put o.dst v') w') : wpList P ops Q (o :: rest) a w := by
  refine wpList_plain hgd fun K hK => ?_
  obtain ⟨v', w', hr, h2, h3⟩ := run_append_own_src (P := P) w base t tx o.type e i z size bytes ht hi hz hsize hby hzs v n xs hown xv m news hsrc h63 hbytes hbase
  unfold Oper.wp execOp
  simp only [ho, resolve, invoke, builtin, Sem.run_bind, Sem.run_pure, Result.andThen_ok, List.map_toArray, List.map_cons, List.map_nil, hs, hx, hr]
  exact hK _ _ (h v' w' h2 h3)
end
end Go.Proofs.YtlidmnehpcodkaaDoor

/-
  Own text, plain: rows of small structs that hold no row themselves: what can be read, what is owned; what a step leaves alone. Nothing of the program.
-/
namespace Go.Proofs.YtlidmnehpcodkaaDoor
open Go.RowKit

/-- Nothing that was there has turned but blocks in S. -/
structure Only (S : Nat → Prop) (w w' : World) : Prop where
  os : w'.os = w.os
  tape : w'.tape = w.tape
  output : w'.output = w.output
  size : w.heap.size ≤ w'.heap.size
  block : ∀ k, k < w.heap.size → ¬ S k → w'.heap[k]? = w.heap[k]?

theorem Only.refl (S : Nat → Prop) (w : World) : Only S w w := ⟨rfl, rfl, rfl, Nat.le_refl _, fun _ _ _ => rfl⟩
theorem Only.trans {S : Nat → Prop} {a b c : World} (h : Only S a b) (k : Only S b c) : Only S a c :=
  ⟨k.os.trans h.os, k.tape.trans h.tape, k.output.trans h.output, Nat.le_trans h.size k.size, fun i hi hs => (k.block i (Nat.lt_of_lt_of_le hi h.size) hs).trans (h.block i hi hs)⟩
theorem Only.mono {S T : Nat → Prop} {w w' : World} (h : Only S w w') (hst : ∀ k, k < w.heap.size → S k → T k) : Only T w w' :=
  ⟨h.os, h.tape, h.output, h.size, fun k hk hn => h.block k hk (fun hs => hn (hst k hk hs))⟩
theorem Only.of_below {B : Nat} {w w' : World} (h : Below B w w') : Only (fun k => B ≤ k) w w' :=
  ⟨h.os, h.tape, h.output, h.size, fun k _ hn => h.block k (by omega)⟩
/-- What makes new memory alone turns nothing. -/
theorem Only.of_new {S : Nat → Prop} {w w' : World} (h : Below w.heap.size w w') : Only S w w' :=
  ⟨h.os, h.tape, h.output, h.size, fun k hk _ => h.block k hk⟩
theorem Only.below {S : Nat → Prop} {B : Nat} {w w' : World} (h : Only S w w') (hB : B ≤ w.heap.size) (hs : ∀ k, S k → B ≤ k) : Below B w w' :=
  ⟨h.os, h.tape, h.output, h.size, fun k hk => h.block k (by omega) (fun e => by have := hs k e; omega)⟩
theorem Only.of_grown {w w' : World} {row : Option Nat} (h : w.grownBy w' row) : Only (fun k => row = some k) w w' :=
  ⟨h.os, h.tape, h.output, h.size, fun k hk hn => h.block k hk (fun e => hn e.symm)⟩
theorem Only.setCell {S : Nat → Prop} {a w : World} (h : Only S a w) {p : Addr} (hp : S p.block) (u : Value) : Only S a (w.setCell p u) :=
  h.trans ⟨rfl, rfl, rfl, by simp [World.setCell], fun k _ hn => Below.heap_setCell _ _ _ _ (fun e => hn (e ▸ hp))⟩
theorem Only.cell {S : Nat → Prop} {w w' : World} (h : Only S w w') {p : Addr} (hlt : p.block < w.heap.size) (hp : ¬ S p.block) : w'.cell? p = w.cell? p := World.cell?_of_block (w := w) (h.block p.block hlt hp)

theorem own_only {S : Nat → Prop} {w w' : World} {base : Nat} {e : TypeId} {size : Nat} {v : Value} {n : Nat} {xs : List Value} (h : w.ownsRow base e size v n xs) (ho : Only S w w') (hs : ∀ k, v.ownBlock = some k → ¬ S k) : w'.ownsRow base e size v n xs := by
  refine ⟨h.1, ?_⟩
  rcases h.2 with hn | ⟨g, cap, cur, rfl, hb', hgg, rest⟩
  · exact .inl hn
  · refine .inr ⟨g, cap, cur, rfl, hb', ?_, rest⟩
    rw [ho.block g (Array.getElem?_eq_some_iff.1 hgg).1 (hs g rfl)]
    exact hgg
/-- Rows of two makes lie apart. -/
theorem own_apart {w : World} {base base' : Nat} {e e' : TypeId} {size size' : Nat} {v v' : Value} {n n' : Nat} {xs xs' : List Value} (h : w.ownsRow base e size v n xs) (h' : w.ownsRow base' e' size' v' n' xs') (hne : e ≠ e') : ∀ k, v.ownBlock = some k → ¬ v'.ownBlock = some k := by
  intro k hk hk'
  rcases h.2 with ⟨rfl, _⟩ | ⟨g, cap, cur, rfl, _, hg, _⟩
  · cases hk
  · rcases h'.2 with ⟨rfl, _⟩ | ⟨g', cap', cur', rfl, _, hg', _⟩
    · cases hk'
    · cases hk
      cases hk'
      rw [hg] at hg'
      cases hg'
      exact hne rfl

/-! ### Rows of small structs -/
section
variable {α : Type} (enc : α → List Value) (sz : Nat)

/-- The structs l lie from the address a on. -/
def RdF (w : World) (a : Option Addr) (l : List α) : Prop :=
  l = [] ∨ ∃ b off, a = some ⟨b, off, none⟩ ∧ b < w.heap.size ∧ ∀ i (h : i < l.length) j, j < sz → w.cell? ⟨b, off + i * sz + j, none⟩ = (enc l[i])[j]?
variable {enc sz}
theorem RdF.below {B : Nat} {w w' : World} {a : Option Addr} {l : List α} (h : RdF enc sz w a l) (hb : Below B w w') (hB : w.heap.size ≤ B) : RdF enc sz w' a l := by
  rcases h with h | ⟨b, off, ha, hlt, hc⟩
  · exact .inl h
  · exact .inr ⟨b, off, ha, by have := hb.size; omega, fun i hi j hj => (hb.cell (by exact Nat.lt_of_lt_of_le hlt hB)).trans (hc i hi j hj)⟩
theorem RdF.at {w : World} {a : Option Addr} {l : List α} (h : RdF enc sz w a l) (k : Nat) (hk : k < l.length) : ∃ b off, a = some ⟨b, off, none⟩ ∧ b < w.heap.size ∧ ∀ j, j < sz → w.cell? ⟨b, off + k * sz + j, none⟩ = (enc l[k])[j]? := by
  rcases h with rfl | ⟨b, off, rfl, hlt, hc⟩
  · simp at hk
  · exact ⟨b, off, rfl, hlt, hc k hk⟩
theorem flat_len_c (hsz : ∀ x, (enc x).length = sz) (l : List α) : (l.flatMap enc).length = l.length * sz := by
  induction l with
  | nil => simp
  | cons x l ih => rw [List.flatMap_cons, List.length_append, ih, hsz, List.length_cons, Nat.add_mul]; omega
theorem flat_get (hsz : ∀ x, (enc x).length = sz) : ∀ (l : List α) (i : Nat) (h : i < l.length) (j : Nat), j < sz → (l.flatMap enc)[i * sz + j]? = (enc l[i])[j]?
  | x :: l, 0, _, j, hj => by
    rw [List.flatMap_cons, List.getElem?_append_left (by rw [hsz]; omega)]
    simp
  | x :: l, i + 1, h, j, hj => by
    rw [List.flatMap_cons, List.getElem?_append_right (by rw [hsz, Nat.add_mul]; omega), hsz]
    have := flat_get hsz l i (by simpa using h) j hj
    rw [show (i + 1) * sz + j - sz = i * sz + j by rw [Nat.add_mul]; omega, this]
    simp
theorem flat_set (hsz : ∀ x, (enc x).length = sz) : ∀ (l : List α) (i : Nat) (h : i < l.length) (j : Nat) (y : α) (u : Value), j < sz → enc y = (enc l[i]).set j u → (l.flatMap enc).set (i * sz + j) u = (l.set i y).flatMap enc
  | x :: l, 0, _, j, y, u, hj, he => by
    rw [List.flatMap_cons, List.set_append_left _ _ (by rw [hsz]; omega)]
    simp at he ⊢
    exact he.symm
  | x :: l, i + 1, h, j, y, u, hj, he => by
    rw [List.flatMap_cons, List.set_append_right _ _ (by rw [hsz, Nat.add_mul]; omega), hsz, show (i + 1) * sz + j - sz = i * sz + j by rw [Nat.add_mul]; omega]
    rw [flat_set hsz l i (by simpa using h) j y u hj (by simpa using he)]
    simp
/-- A value that owns a row of such structs is a slice that reads as these. -/
theorem own_rdF (hsz : ∀ x, (enc x).length = sz) {w : World} {base : Nat} {e : TypeId} {v : Value} {n : Nat} {l : List α} (h : w.ownsRow base e sz v n (l.flatMap enc)) (hn : l.length = n) :
    ∃ a cap, v = .slice a n cap ∧ n ≤ cap ∧ RdF enc sz w a l := by
  rcases h.2 with ⟨rfl, h0⟩ | ⟨g, cap, cur, rfl, _, _, hc, _⟩
  · subst h0
    obtain rfl : l = [] := List.eq_nil_of_length_eq_zero hn
    exact ⟨none, 0, rfl, Nat.le_refl _, .inl rfl⟩
  · refine ⟨some ⟨g, 0, none⟩, cap, rfl, hc, .inr ⟨g, 0, rfl, (h.lt g rfl).2, fun i hi j hj => ?_⟩⟩
    rw [Nat.zero_add, h.cellAt (i * sz + j) (by
      have : (i + 1) * sz ≤ n * sz := Nat.mul_le_mul_right _ (by omega)
      rw [Nat.add_mul] at this; omega)]
    exact flat_get hsz l i hi j hj
end

/-! ### A struct variable of the call's own -/
/-- The cells C lie in block P, all of them its own. -/
def Var (w : World) (P : Nat) (C : Array Value) (t : TypeId) : Prop := w.heap[P]? = some (.cells C t (0, 0))
theorem Var.cell {w : World} {P : Nat} {C : Array Value} {t : TypeId} (h : Var w P C t) (j : Nat) : w.cell? ⟨P, j, none⟩ = C[j]? := cell_of_row w P j _ _ _ h
theorem Var.lt {w : World} {P : Nat} {C : Array Value} {t : TypeId} (h : Var w P C t) : P < w.heap.size := (Array.getElem?_eq_some_iff.1 h).1
theorem Var.frozen {w : World} {P : Nat} {C : Array Value} {t : TypeId} (h : Var w P C t) (j : Nat) : w.frozen? ⟨P, j, none⟩ = false := by
  have h' : w.heap[P]? = some (.cells C t (0, 0)) := h
  simp [World.frozen?, h']
theorem Var.set {w : World} {P : Nat} {C : Array Value} {t : TypeId} (h : Var w P C t) (j : Nat) (u : Value) : Var (w.setCell ⟨P, j, none⟩ u) P (C.setIfInBounds j u) t := heap_setCell_same w P j C t u h
theorem Var.other {w : World} {P Q : Nat} {C : Array Value} {t : TypeId} (h : Var w P C t) (hne : P ≠ Q) (j : Nat) (u : Value) : Var (w.setCell ⟨Q, j, none⟩ u) P C t := by
  show (w.setCell ⟨Q, j, none⟩ u).heap[P]? = _
  rw [Below.heap_setCell _ _ _ _ hne]
  exact h
theorem Var.below {B : Nat} {w w' : World} {P : Nat} {C : Array Value} {t : TypeId} (h : Var w P C t) (hb : Below B w w') (hP : P < B) : Var w' P C t := by
  show w'.heap[P]? = _
  rw [hb.block P hP]
  exact h
theorem Var.new {w w' : World} {P : Nat} {C : Array Value} {t : TypeId} (h : Var w P C t) (hb : Below w.heap.size w w') : Var w' P C t := h.below hb h.lt
theorem Var.alloc {w : World} {P : Nat} {C : Array Value} {t : TypeId} (h : Var w P C t) (o : Obj) : Var (w.alloc o) P C t := h.new ((Below.refl _ _).alloc (Nat.le_refl _) o)
theorem Var.only {S : Nat → Prop} {w w' : World} {P : Nat} {C : Array Value} {t : TypeId} (h : Var w P C t) (ho : Only S w w') (hP : ¬ S P) : Var w' P C t := by
  show w'.heap[P]? = _
  rw [ho.block P h.lt hP]
  exact h
theorem Var.made (w : World) (C : Array Value) (t : TypeId) : Var (w.alloc (.cells C t)) w.heap.size C t := heap_alloc_new w _
theorem Var.made2 (w : World) (a : Obj) (C : Array Value) (t : TypeId) : Var ((w.alloc a).alloc (.cells C t)) (w.heap.size + 1) C t := by
  have h := Var.made (w.alloc a) C t
  rwa [show (w.alloc a).heap.size = w.heap.size + 1 by simp] at h
theorem Var.made3 (w : World) (a b : Obj) (C : Array Value) (t : TypeId) : Var (((w.alloc a).alloc b).alloc (.cells C t)) (w.heap.size + 1 + 1) C t := by
  have h := Var.made2 (w.alloc a) b C t
  rwa [show (w.alloc a).heap.size = w.heap.size + 1 by simp] at h

theorem own_set {w : World} {base : Nat} {e : TypeId} {size : Nat} {v : Value} {n : Nat} {xs : List Value} (h : w.ownsRow base e size v n xs) {Q : Nat} (hQ : Q < base) (j : Nat) (u : Value) : (w.setCell ⟨Q, j, none⟩ u).ownsRow base e size v n xs :=
  own_only (S := fun k => k = Q) h (Only.setCell (S := fun k => k = Q) (Only.refl _ _) (p := ⟨Q, j, none⟩) rfl u) (fun k hk => by have := (h.lt k hk).1; omega)

theorem below3 (w : World) (a b c : Obj) : Below w.heap.size w (((w.alloc a).alloc b).alloc c) :=
  (((Below.refl _ _).alloc (Nat.le_refl _) a).alloc (by simp) b).alloc (by simp; omega) c
theorem below2 (w : World) (a b : Obj) : Below w.heap.size w ((w.alloc a).alloc b) :=
  ((Below.refl _ _).alloc (Nat.le_refl _) a).alloc (by simp) b
theorem below1 (w : World) (a : Obj) : Below w.heap.size w (w.alloc a) := (Below.refl _ _).alloc (Nat.le_refl _) a
end Go.Proofs.YtlidmnehpcodkaaDoor

/-
  Own text: the laws' helpers over one write (a place and a text): a copy, its size, alike.
-/
namespace Go.Proofs.YtlidmnehpcodkaaDoor
open Go.RowKit

/-- A write: a place and a text. -/
abbrev PutD := Int × ByteArray
def encP (p : PutD) : List Value := [.int .i64 p.1, .string p.2]
def aggP (p : PutD) : Value := .agg #[.int .i64 p.1, .string p.2]
theorem encP_len (p : PutD) : (encP p).length = 2 := rfl

set_option maxRecDepth 20000 in
theorem toPutW (p : PutD) (w : World) :
    Calls Tryd.prog 111 #[aggP p] w fun e w' => e = .returned (aggP p) ∧ Below w.heap.size w w' := by
  obtain ⟨n, s⟩ := p
  unfold aggP
  go_enter Tryd.func111, Tryd.ntmps111
  go_wp2
  go_returns
  exact ⟨rfl, below3 _ _ _ _⟩

set_option maxRecDepth 20000 in
theorem eqPutW (p : PutD) (w : World) :
    Calls Tryd.prog 112 #[aggP p, aggP p] w fun e w' => e = .returned (.bool true) ∧ Below w.heap.size w w' := by
  obtain ⟨n, s⟩ := p
  unfold aggP
  go_enter Tryd.func112, Tryd.ntmps112
  go_wp2
  go_ret
  exact ⟨rfl, below2 _ _ _⟩

set_option maxRecDepth 20000 in
theorem szPutW (p : PutD) (m : Int) (w : World) (hm0 : 0 ≤ m) (hm1 : m ≤ 1048576) (hs : p.2.size ≤ maxLen) :
    Calls Tryd.prog 110 #[aggP p, .int .i64 m] w fun e w' => ∃ r : Int, e = .returned (.int .i64 r) ∧ (0 ≤ r → r + p.2.size = m) ∧ -1 ≤ r ∧ r ≤ 1048576 ∧ Below w.heap.size w w' := by
  obtain ⟨n, s⟩ := p
  have hs' : s.size ≤ 9223372036854775807 := by unfold maxLen at hs; simp at hs; omega
  clear hs
  unfold aggP
  by_cases hlt : m - (s.size : Int) < 0
  · go_enter Tryd.func110, Tryd.ntmps110
    go_wp2
    go_ret
    exact ⟨-1, rfl, fun h => by omega, by omega, by omega, below1 _ _⟩
  · go_enter Tryd.func110, Tryd.ntmps110
    go_wp2
    go_ret
    exact ⟨m - s.size, rfl, fun h => by simp, by omega, by omega, below1 _ _⟩

theorem Tryd.infoPut : (Tryd.prog.info? 39).map (fun i => (i.zero, i.size, i.bytes)) = some (some (.agg #[.int .i64 0, .string ⟨#[]⟩]), 2, 24) := by kernel_rfl

theorem putAt (l : List PutD) (i : Nat) (h : i < l.length) (n : Int) : (l.flatMap encP).set (i * 2) (.int .i64 n) = (l.set i (n, l[i].2)).flatMap encP := by
  have := flat_set encP_len l i h 0 (n, l[i].2) (.int .i64 n) (by omega) rfl
  simpa using this
theorem putData (l : List PutD) (i : Nat) (h : i < l.length) (s : ByteArray) : (l.flatMap encP).set (i * 2 + 1) (.string s) = (l.set i (l[i].1, s)).flatMap encP :=
  flat_set encP_len l i h 1 (l[i].1, s) (.string s) (by omega) rfl
theorem putBoth (l : List PutD) (i : Nat) (h : i < l.length) (n : Int) (s : ByteArray) : ((l.flatMap encP).set (i * 2) (.int .i64 n)).set (i * 2 + 1) (.string s) = (l.set i (n, s)).flatMap encP := by
  rw [putAt l i h, putData _ i (by simpa using h)]
  simp
theorem putCells {l : List PutD} {i : Nat} (h : i < l.length) : (l.flatMap encP)[i * 2]? = some (.int .i64 l[i].1) ∧ (l.flatMap encP)[i * 2 + 1]? = some (.string l[i].2) := by
  have e0 := flat_get encP_len l i h 0 (by omega)
  have e1 := flat_get encP_len l i h 1 (by omega)
  exact ⟨by simpa [encP] using e0, by simpa [encP] using e1⟩

theorem made_flat {α : Type} {enc : α → List Value} {sz : Nat} (hsz : ∀ x, (enc x).length = sz) (z : α) (zc : Array Value) (hz : zc.toList = enc z) (hpos : 0 < sz) (n : Nat) : (madeCells zc (n * sz)).toList = (List.replicate n z).flatMap enc := by
  have hzs : zc.size = sz := by rw [← Array.length_toList, hz, hsz]
  apply List.ext_getElem?
  intro k
  by_cases hk : k < n * sz
  · have hq : k / sz < n := Nat.div_lt_of_lt_mul (by rw [Nat.mul_comm]; exact hk)
    have e := flat_get hsz (List.replicate n z) (k / sz) (by simpa using hq) (k % sz) (Nat.mod_lt _ hpos)
    rw [show k / sz * sz + k % sz = k by rw [Nat.mul_comm]; exact Nat.div_add_mod k sz] at e
    rw [e]
    simp only [List.getElem_replicate]
    rw [← hz]
    simp [madeCells, hzs, hk, Nat.mod_lt _ hpos]
  · rw [List.getElem?_eq_none (by rw [Array.length_toList, size_madeCells]; omega), List.getElem?_eq_none (by rw [flat_len_c hsz, List.length_replicate]; omega)]
/-- The first k of l, then z. -/
def fillF {α : Type} (z : α) (l : List α) (k : Nat) : List α := l.take k ++ List.replicate (l.length - k) z
theorem fillF_set {α : Type} (z : α) (l : List α) (k : Nat) (h : k < l.length) : (fillF z l k).set k l[k] = fillF z l (k + 1) := by
  unfold fillF
  apply List.ext_getElem
  · simp; omega
  · intro i h1 h2
    simp only [List.getElem_set, List.getElem_append, List.length_take, List.getElem_take, List.getElem_replicate]
    by_cases hi : k = i
    · subst hi
      simp
      omega
    · by_cases h3 : i < k
      · simp [hi, show i < min k l.length by omega, show i < min (k + 1) l.length by omega]
      · simp [hi, show ¬ i < min k l.length by omega, show ¬ i < min (k + 1) l.length by omega]
theorem fillF_len {α : Type} (z : α) (l : List α) (k : Nat) (h : k ≤ l.length) : (fillF z l k).length = l.length := by unfold fillF; simp; omega
theorem fillF_all {α : Type} (z : α) (l : List α) : fillF z l l.length = l := by simp [fillF]
theorem fillF_zero {α : Type} (z : α) (l : List α) : fillF z l 0 = List.replicate l.length z := by simp [fillF]

set_option maxRecDepth 20000 in
set_option maxHeartbeats 400000 in
theorem toPuts (a : Option Addr) (cap : Nat) (l : List PutD) (w : World) (hl : l.length ≤ 1048576) (hr : RdF encP 2 w a l) :
    Calls Tryd.prog 81 #[.slice a l.length cap] w fun e w' => ∃ v, e = .returned v ∧ w'.ownsRow w.heap.size 39 2 v l.length (l.flatMap encP) ∧ Below w.heap.size w w' := by
  obtain ⟨i0, hi, hz0, hz1, hz2⟩ := info_parts Tryd.infoPut
  have HCS : Hid (∀ k (hk : k < l.length), ∃ b off, a = some ⟨b, off, none⟩ ∧ b < w.heap.size ∧ ∀ j, j < 2 → w.cell? ⟨b, off + k * 2 + j, none⟩ = (encP l[k])[j]?) := fun k hk => hr.at k hk
  clear hr
  go_enter Tryd.func81, Tryd.ntmps81
  go_wp2_with (at_make; refine wpList_make_full _ rfl _ _ 25 rfl w.heap.size 39 i0 (.agg #[.int .i64 0, .string ⟨#[]⟩]) 2 Tryd.underlying25 hi hz0 hz1 _ _ _ _ l.length rfl rfl rfl rfl (by rw [hz2]; omega) (by unfold maxLen; omega) (Nat.le_refl _) ?_)
  intro w1 hown hgrow
  have hown1 : w1.ownsRow w.heap.size 39 2 (.slice (some ⟨w.heap.size, 0, none⟩) l.length l.length) l.length ((fillF (0, ⟨#[]⟩) l 0).flatMap encP) := by
    rw [fillF_zero, ← made_flat encP_len _ #[.int .i64 0, .string ⟨#[]⟩] rfl (by omega)]
    exact hown
  clear hown
  go_wp2
  go_loopw [4] (fun i wr => ∃ k : Nat, k ≤ l.length ∧ i = .int .i64 k ∧ wr.ownsRow w.heap.size 39 2 (.slice (some ⟨w.heap.size, 0, none⟩) l.length l.length) l.length ((fillF (0, ⟨#[]⟩) l k).flatMap encP) ∧ Below w.heap.size w wr) (fun i _ => l.length - (intOf i).toNat)
  case atStart => exact ⟨0, Nat.zero_le _, rfl, hown1, (Below.refl _ _).grown hgrow (Nat.le_refl _) (fun k h => by simp at h)⟩
  case round =>
    obtain ⟨k, hk, rfl, ho, hbel⟩ := hrel
    by_cases hlt : k < l.length
    · obtain ⟨b, off, rfl, hblt, hcell⟩ := HCS.out k hlt
      have hcr : wr.cell? ⟨b, off + k * 2, none⟩ = some (.int .i64 l[k].1) := (hbel.cell hblt).trans (hcell 0 (by omega))
      have hcs : wr.cell? ⟨b, off + k * 2 + 1, none⟩ = some (.string l[k].2) := (hbel.cell hblt).trans (hcell 1 (by omega))
      clear hcell
      generalize hy : l[k] = y at *
      obtain ⟨yn, ys⟩ := y
      simp only at hcr hcs
      go_wp2_with fail
      refine (toPutW (yn, ys) _).mono ?_
      rintro e w2 ⟨rfl, hb2⟩
      have ho2 := ownsRow_below ho hb2 (Nat.le_refl _)
      have hbel2 : Below w.heap.size w w2 := hbel.trans (hb2.mono hbel.size)
      have hf0 := ho2.frozenAt (k * 2)
      have hf1 := ho2.frozenAt (k * 2 + 1)
      have hx0 := ho2.cellAt (k * 2) (by omega)
      have hx1 := ho2.cellAt (k * 2 + 1) (by omega)
      have hlen := fillF_len ((0 : Int), (⟨#[]⟩ : ByteArray)) l k hk
      have e01 := putCells (l := fillF (0, ⟨#[]⟩) l k) (i := k) (by omega)
      rw [e01.1] at hx0
      rw [e01.2] at hx1
      have hst := ((ho2.stored (k * 2) (.int .i64 yn)).1.stored (k * 2 + 1) (.string ys)).1
      rw [putBoth _ k (by omega), ← hy, fillF_set _ l k hlt] at hst
      have hb3 : Below w.heap.size w ((w2.setCell ⟨w.heap.size, k * 2, none⟩ (.int .i64 yn)).setCell ⟨w.heap.size, k * 2 + 1, none⟩ (.string ys)) := (hbel2.setCell (Nat.le_refl _) _).setCell (Nat.le_refl _) _
      clear e01 ho hbel hb2 ho2 hbel2 hy
      unfold aggP
      go_wp2
      go_roundw
      case rel => exact ⟨k + 1, by omega, by go_num, hst, hb3⟩
      case measure => simp [intOf]; omega
    · obtain rfl : k = l.length := by omega
      go_wp2
      go_ret
      rw [fillF_all] at ho
      exact ⟨_, rfl, ho, hbel⟩

set_option maxRecDepth 20000 in
set_option maxHeartbeats 400000 in
theorem eqPuts (a c : Option Addr) (ca cc : Nat) (l : List PutD) (w : World) (hl : l.length ≤ 4194304) (hr : RdF encP 2 w a l) (hs : RdF encP 2 w c l) :
    Calls Tryd.prog 83 #[.slice a l.length ca, .slice c l.length cc] w fun e w' => e = .returned (.bool true) ∧ Below w.heap.size w w' := by
  have HCS : Hid (∀ k (hk : k < l.length), ∃ b off, a = some ⟨b, off, none⟩ ∧ b < w.heap.size ∧ ∀ j, j < 2 → w.cell? ⟨b, off + k * 2 + j, none⟩ = (encP l[k])[j]?) := fun k hk => hr.at k hk
  have HDS : Hid (∀ k (hk : k < l.length), ∃ b off, c = some ⟨b, off, none⟩ ∧ b < w.heap.size ∧ ∀ j, j < 2 → w.cell? ⟨b, off + k * 2 + j, none⟩ = (encP l[k])[j]?) := fun k hk => hs.at k hk
  clear hr hs
  go_enter Tryd.func83, Tryd.ntmps83
  go_wp2
  go_loopw [5] (fun i wr => ∃ k : Nat, k ≤ l.length ∧ i = .int .i64 k ∧ Below w.heap.size w wr) (fun i _ => l.length - (intOf i).toNat)
  case atStart => exact ⟨0, Nat.zero_le _, rfl, Below.refl _ _⟩
  case round =>
    obtain ⟨k, hk, rfl, hbel⟩ := hrel
    by_cases hlt : k < l.length
    · obtain ⟨b, off, rfl, hblt, hcell⟩ := HCS.out k hlt
      obtain ⟨d, off2, rfl, hdlt, hcell2⟩ := HDS.out k hlt
      have hc0 : wr.cell? ⟨b, off + k * 2, none⟩ = some (.int .i64 l[k].1) := (hbel.cell hblt).trans (hcell 0 (by omega))
      have hc1 : wr.cell? ⟨b, off + k * 2 + 1, none⟩ = some (.string l[k].2) := (hbel.cell hblt).trans (hcell 1 (by omega))
      have hd0 : wr.cell? ⟨d, off2 + k * 2, none⟩ = some (.int .i64 l[k].1) := (hbel.cell hdlt).trans (hcell2 0 (by omega))
      have hd1 : wr.cell? ⟨d, off2 + k * 2 + 1, none⟩ = some (.string l[k].2) := (hbel.cell hdlt).trans (hcell2 1 (by omega))
      clear hcell hcell2
      have HE : Hid (∀ W, Calls Tryd.prog 112 #[.agg #[.int .i64 l[k].1, .string l[k].2], .agg #[.int .i64 l[k].1, .string l[k].2]] W fun e w' => e = .returned (.bool true) ∧ Below W.heap.size W w') := fun W => eqPutW l[k] W
      generalize l[k].1 = yn at *
      generalize l[k].2 = ys at *
      go_wp2
      go_region_with (go_at_call 112; refine (HE.out _).mono ?_; rintro e w2 ⟨rfl, hb2⟩)
      all_goals
        have hb3 : Below w.heap.size w w2 := hbel.drew.trans (hb2.mono hbel.size)
        go_wp2
        go_roundw
        case rel => exact ⟨k + 1, by omega, by go_num, hb3⟩
        case measure => simp [intOf]; omega
    · go_wp2
      go_ret
      exact ⟨rfl, hbel⟩

/-- How great writes are. -/
def szP (l : List PutD) : Nat := (l.map fun p => 1 + p.2.size).sum
theorem szP_take {l : List PutD} {k : Nat} (h : k < l.length) : szP (l.take (k + 1)) = szP (l.take k) + 1 + (l[k]).2.size := by
  unfold szP
  rw [List.take_succ_eq_append_getElem h, List.map_append, List.sum_append]
  simp
  omega

set_option maxRecDepth 20000 in
set_option maxHeartbeats 400000 in
theorem szPuts (a : Option Addr) (cap : Nat) (l : List PutD) (left : Int) (w : World) (h0 : 0 ≤ left) (h1 : left ≤ 1048576) (hl : l.length ≤ maxLen) (hz : ∀ p ∈ l, p.2.size ≤ maxLen) (hr : RdF encP 2 w a l) :
    Calls Tryd.prog 79 #[.slice a l.length cap, .int .i64 left] w fun e w' => ∃ r : Int, e = .returned (.int .i64 r) ∧ (0 ≤ r → r + szP l = left) ∧ -1 ≤ r ∧ r ≤ 1048576 ∧ Below w.heap.size w w' := by
  have HCS : Hid (∀ k (hk : k < l.length), ∃ b off, a = some ⟨b, off, none⟩ ∧ b < w.heap.size ∧ ∀ j, j < 2 → w.cell? ⟨b, off + k * 2 + j, none⟩ = (encP l[k])[j]?) := fun k hk => hr.at k hk
  have HZ : Hid (∀ p ∈ l, p.2.size ≤ maxLen) := hz
  have hm : l.length ≤ 9223372036854775807 := by unfold maxLen at hl; omega
  clear hr hz hl
  by_cases hbig : left < l.length
  · have hneg : left - (l.length : Int) < 0 := by omega
    go_enter Tryd.func79, Tryd.ntmps79
    go_wp2
    go_ret
    exact ⟨-1, rfl, fun h => by omega, by omega, by omega, Below.refl _ _⟩
  · have hneg : ¬ left - (l.length : Int) < 0 := by omega
    go_enter Tryd.func79, Tryd.ntmps79
    go_wp2
    go_loopw [1, 5] (fun x i wr => ∃ (m : Int) (k : Nat), x = .int .i64 m ∧ 0 ≤ m ∧ m ≤ 1048576 ∧ k ≤ l.length ∧ i = .int .i64 k ∧ Below w.heap.size w wr ∧ Hid (m + ((l.length : Int) - k) + (szP (l.take k) : Int) = left)) (fun _ i _ => l.length - (intOf i).toNat)
    case atStart => exact ⟨left - (l.length : Int), 0, by go_num, by omega, by omega, Nat.zero_le _, rfl, Below.refl _ _, by show _ = _; simp [szP]⟩
    case round =>
      obtain ⟨m, k, rfl, hm0, hm1, hk, rfl, hbel, HA⟩ := hrel
      by_cases hlt : k < l.length
      · obtain ⟨b, off, rfl, hblt, hcell⟩ := HCS.out k hlt
        have hc0 : wr.cell? ⟨b, off + k * 2, none⟩ = some (.int .i64 l[k].1) := (hbel.cell hblt).trans (hcell 0 (by omega))
        have hc1 : wr.cell? ⟨b, off + k * 2 + 1, none⟩ = some (.string l[k].2) := (hbel.cell hblt).trans (hcell 1 (by omega))
        have HS : Hid (szP (l.take (k + 1)) = szP (l.take k) + 1 + (l[k]).2.size) := szP_take hlt
        have HY : Hid (∀ W, Calls Tryd.prog 110 #[.agg #[.int .i64 l[k].1, .string l[k].2], .int .i64 m] W fun e w' => ∃ r : Int, e = .returned (.int .i64 r) ∧ (0 ≤ r → r + l[k].2.size = m) ∧ -1 ≤ r ∧ r ≤ 1048576 ∧ Below W.heap.size W w') := fun W => szPutW l[k] m W hm0 hm1 (HZ.out l[k] (List.getElem_mem hlt))
        clear hcell
        generalize l[k].1 = yn at *
        generalize l[k].2 = ys at *
        go_wp2_with fail
        refine (HY.out _).mono ?_
        rintro e w2 ⟨r, rfl, hrm, hr0, hr1, hb2⟩
        have hb3 : Below w.heap.size w w2 := hbel.trans (hb2.mono hbel.size)
        by_cases hrn : r < 0
        · clear hrm
          go_wp2
          go_ret
          exact ⟨-1, rfl, fun h => by omega, by omega, by omega, hb3⟩
        · have HRM : Hid (r + (ys.size : Int) = m) := hrm (by omega)
          clear hrm
          go_wp2
          go_roundw
          case rel => exact ⟨r, k + 1, rfl, by omega, by omega, by omega, by go_num, hb3, by show _ = _; rw [HS.out]; have := HA.out; have := HRM.out; omega⟩
          case measure => simp [intOf]; omega
      · obtain rfl : k = l.length := by omega
        have HE : Hid (m + szP l = left) := by have := HA.out; rw [List.take_length] at this; show _ = _; omega
        go_wp2
        go_ret
        exact ⟨m, rfl, fun _ => HE.out, by omega, by omega, hbel⟩
end Go.Proofs.YtlidmnehpcodkaaDoor

/-
  Own text: the laws' marks on rows of texts and of writes, with what they leave alone; whether they are still there.
-/
namespace Go.Proofs.YtlidmnehpcodkaaDoor
open Go.RowKit

/-- The blocks of a row. -/
def blk (v : Value) (j : Nat) : Prop := v.ownBlock = some j

set_option maxRecDepth 20000 in
set_option maxHeartbeats 400000 in
theorem markStrO (v : Value) (n k base : Nat) (l : List ByteArray) (w : World) (hn : n ≤ 2147483648) (hk : k ≤ 2147483648) (hown : w.ownsRow base 9 1 v n (l.map Value.string)) :
    Calls Tryd.prog 84 #[v, .int .i64 k] w fun e w' => e = .returned (.int .i64 ((k + n : Nat) : Int)) ∧ w'.ownsRow base 9 1 v n ((marksS k n).map Value.string) ∧ Only (blk v) w w' := by
  have hl : l.length = n := by have := hown.1; simpa using this
  rcases hown.2 with ⟨rfl, rfl⟩ | ⟨g, cap, cur, rfl, hbg, hrest⟩
  · go_enter Tryd.func84, Tryd.ntmps84
    go_wp2
    go_loop [1, 5] (fun x i => x = .int .i64 k ∧ i = .int .i64 0) (fun _ _ => 0)
    case atStart => exact ⟨rfl, rfl⟩
    case round =>
      obtain ⟨rfl, rfl⟩ := hrel
      go_wp2
      go_ret
      exact ⟨by simp, World.ownsRow_nil _ _ _ _, Only.refl _ _⟩
  · clear hrest
    subst hl
    go_enter Tryd.func84, Tryd.ntmps84
    go_wp2
    go_loopw [1, 5] (fun x i wr => ∃ j : Nat, j ≤ l.length ∧ x = .int .i64 ((k + j : Nat) : Int) ∧ i = .int .i64 j ∧ wr.ownsRow base 9 1 (.slice (some ⟨g, 0, none⟩) l.length cap) l.length ((markToS l k j).map Value.string) ∧ Only (blk (.slice (some ⟨g, 0, none⟩) l.length cap)) w wr) (fun _ i _ => l.length - (intOf i).toNat)
    case atStart => exact ⟨0, Nat.zero_le _, by simp, rfl, by rw [markToS_zero]; exact hown, Only.refl _ _⟩
    case round =>
      obtain ⟨j, hj, rfl, rfl, ho, hbel⟩ := hrel
      by_cases hlt : j < l.length
      · clear hown
        go_wp2_with fail
        refine (markT (k + j) _ (by omega)).mono ?_
        rintro e w1 ⟨rfl, hb1⟩
        have ho1 := ownsRow_below ho hb1 (Nat.le_refl _)
        have hbel1 : Only (blk (.slice (some ⟨g, 0, none⟩) l.length cap)) w w1 := hbel.trans (Only.of_new hb1)
        clear ho hbel hb1
        have hfz := ho1.frozenAt j
        have hce : w1.cell? ⟨g, j, none⟩ = some (.string ((markToS l k j).getD j ⟨#[]⟩)) := by
          rw [ho1.cellAt j (by omega)]
          have := markToS_len l k j hj
          simp [List.getD, show j < (markToS l k j).length by omega]
        generalize (markToS l k j).getD j ⟨#[]⟩ = old at hce
        have hst := (ho1.stored j (.string (markS (k + j)))).1
        rw [← List.map_set, markToS_set l k j hlt] at hst
        have hb2 : Only (blk (.slice (some ⟨g, 0, none⟩) l.length cap)) w (w1.setCell ⟨g, j, none⟩ (.string (markS (k + j)))) := hbel1.setCell (p := ⟨g, j, none⟩) rfl _
        generalize markS (k + j) = ms at *
        go_wp2
        go_roundw
        case rel => exact ⟨j + 1, by omega, by go_num, by go_num, hst, hb2⟩
        case measure => simp [intOf]; omega
      · obtain rfl : j = l.length := by omega
        go_wp2
        go_ret
        exact ⟨by simp, by rw [← markToS_all]; exact ho, hbel⟩

/-- The marks of n writes, from k on. -/
def marksP (k n : Nat) : List PutD := (List.range n).map fun i => (((k + 2 * i : Nat) : Int), markS (k + 2 * i + 1))
def markToP (l : List PutD) (k i : Nat) : List PutD := marksP k i ++ l.drop i
theorem marksP_len (k n : Nat) : (marksP k n).length = n := by simp [marksP]
theorem markToP_zero (l : List PutD) (k : Nat) : markToP l k 0 = l := by simp [markToP, marksP]
theorem markToP_all (l : List PutD) (k : Nat) : markToP l k l.length = marksP k l.length := by simp [markToP]
theorem markToP_len (l : List PutD) (k i : Nat) (h : i ≤ l.length) : (markToP l k i).length = l.length := by simp [markToP, marksP_len]; omega
theorem markToP_set (l : List PutD) (k i : Nat) (h : i < l.length) : (markToP l k i).set i (((k + 2 * i : Nat) : Int), markS (k + 2 * i + 1)) = markToP l k (i + 1) := by
  unfold markToP
  rw [List.set_append_right _ _ (by rw [marksP_len]; exact Nat.le_refl _), marksP_len, Nat.sub_self]
  have e : marksP k (i + 1) = marksP k i ++ [(((k + 2 * i : Nat) : Int), markS (k + 2 * i + 1))] := by unfold marksP; rw [List.range_succ, List.map_append]; rfl
  rw [e, List.append_assoc, List.drop_eq_getElem_cons h]; rfl
theorem marksP_at (k n i : Nat) (h : i < n) : (marksP k n)[i]'(by rw [marksP_len]; exact h) = (((k + 2 * i : Nat) : Int), markS (k + 2 * i + 1)) := by simp [marksP]

set_option maxRecDepth 20000 in
set_option maxHeartbeats 400000 in
theorem markPuts (v : Value) (n k base : Nat) (l : List PutD) (w : World) (hn : n ≤ 536870912) (hk : k ≤ 2147483648) (hl : l.length = n) (hown : w.ownsRow base 39 2 v n (l.flatMap encP)) :
    Calls Tryd.prog 85 #[v, .int .i64 k] w fun e w' => e = .returned (.int .i64 ((k + 2 * n : Nat) : Int)) ∧ w'.ownsRow base 39 2 v n ((marksP k n).flatMap encP) ∧ Only (blk v) w w' := by
  rcases hown.2 with ⟨rfl, rfl⟩ | ⟨g, cap, cur, rfl, hbg, hrest⟩
  · go_enter Tryd.func85, Tryd.ntmps85
    go_wp2
    go_loop [1, 5] (fun x i => x = .int .i64 k ∧ i = .int .i64 0) (fun _ _ => 0)
    case atStart => exact ⟨rfl, rfl⟩
    case round =>
      obtain ⟨rfl, rfl⟩ := hrel
      go_wp2
      go_ret
      exact ⟨by simp, World.ownsRow_nil _ _ _ _, Only.refl _ _⟩
  · clear hrest
    subst hl
    go_enter Tryd.func85, Tryd.ntmps85
    go_wp2
    go_loopw [1, 5] (fun x i wr => ∃ j : Nat, j ≤ l.length ∧ x = .int .i64 ((k + 2 * j : Nat) : Int) ∧ i = .int .i64 j ∧ wr.ownsRow base 39 2 (.slice (some ⟨g, 0, none⟩) l.length cap) l.length ((markToP l k j).flatMap encP) ∧ Only (blk (.slice (some ⟨g, 0, none⟩) l.length cap)) w wr) (fun _ i _ => l.length - (intOf i).toNat)
    case atStart => exact ⟨0, Nat.zero_le _, by simp, rfl, by rw [markToP_zero]; exact hown, Only.refl _ _⟩
    case round =>
      obtain ⟨j, hj, rfl, rfl, ho, hbel⟩ := hrel
      by_cases hlt : j < l.length
      · clear hown
        have hlen := markToP_len l k j hj
        have hce := ho.cellAt (j * 2) (by omega)
        rw [(putCells (l := markToP l k j) (i := j) (by omega)).1] at hce
        have hfz := ho.frozenAt (j * 2)
        have hst := (ho.stored (j * 2) (.int .i64 ((k + 2 * j : Nat) : Int))).1
        rw [putAt (markToP l k j) j (by omega)] at hst
        have hb1 : Only (blk (.slice (some ⟨g, 0, none⟩) l.length cap)) w (wr.setCell ⟨g, j * 2, none⟩ (.int .i64 ((k + 2 * j : Nat) : Int))) := hbel.setCell (p := ⟨g, j * 2, none⟩) rfl _
        clear ho hbel
        have HST : Hid ((wr.setCell ⟨g, j * 2, none⟩ (.int .i64 ((k + 2 * j : Nat) : Int))).ownsRow base 39 2 (.slice (some ⟨g, 0, none⟩) l.length cap) l.length (((markToP l k j).set j (((k + 2 * j : Nat) : Int), (markToP l k j)[j].2)).flatMap encP)) := hst
        clear hst
        obtain ⟨old, hce2⟩ : ∃ o, wr.cell? ⟨g, j * 2, none⟩ = some (.int .i64 o) := ⟨_, hce⟩
        clear hce
        go_wp2_with fail
        refine (markT (k + 2 * j + 1) _ (by omega)).mono ?_
        rintro e w1 ⟨rfl, hb2⟩
        have ho1 := ownsRow_below HST.out hb2 (Nat.le_refl _)
        have hbel1 := hb1.trans (Only.of_new hb2)
        have hlen2 : ((markToP l k j).set j (((k + 2 * j : Nat) : Int), (markToP l k j)[j].2)).length = l.length := by simp [hlen]
        have hcd := ho1.cellAt (j * 2 + 1) (by omega)
        rw [(putCells (l := (markToP l k j).set j (((k + 2 * j : Nat) : Int), (markToP l k j)[j].2)) (i := j) (by omega)).2] at hcd
        have hfd := ho1.frozenAt (j * 2 + 1)
        have hsd := (ho1.stored (j * 2 + 1) (.string (markS (k + 2 * j + 1)))).1
        rw [putData _ j (by omega)] at hsd
        simp only [List.getElem_set_self, List.set_set] at hsd hcd
        rw [markToP_set l k j hlt] at hsd
        have hb3 : Only (blk (.slice (some ⟨g, 0, none⟩) l.length cap)) w (w1.setCell ⟨g, j * 2 + 1, none⟩ (.string (markS (k + 2 * j + 1)))) := hbel1.setCell (p := ⟨g, j * 2 + 1, none⟩) rfl _
        obtain ⟨old2, hcd2⟩ : ∃ o, w1.cell? ⟨g, j * 2 + 1, none⟩ = some (.string o) := ⟨_, hcd⟩
        clear ho1 hbel1 hb1 hb2 hce2 hfz hcd
        clear HST hlen2
        clear hlen
        generalize markS (k + 2 * j + 1) = ms at *
        go_wp2
        go_roundw
        case rel => exact ⟨j + 1, by omega, by go_num, by go_num, hsd, hb3⟩
        case measure => simp [intOf]; omega
      · obtain rfl : j = l.length := by omega
        go_wp2
        go_ret
        exact ⟨by simp, by rw [← markToP_all]; exact ho, hbel⟩

set_option maxRecDepth 20000 in
set_option maxHeartbeats 400000 in
theorem heldPuts (a : Option Addr) (cap n k : Nat) (w : World) (hn : n ≤ 536870912) (hk : k ≤ 2147483648) (hr : RdF encP 2 w a (marksP k n)) :
    Calls Tryd.prog 87 #[.slice a n cap, .int .i64 k] w fun e w' => e = .returned (.int .i64 ((k + 2 * n : Nat) : Int)) ∧ Below w.heap.size w w' := by
  have HCS : Hid (∀ j, j < n → ∃ b off, a = some ⟨b, off, none⟩ ∧ b < w.heap.size ∧ w.cell? ⟨b, off + j * 2, none⟩ = some (.int .i64 ((k + 2 * j : Nat) : Int)) ∧ w.cell? ⟨b, off + j * 2 + 1, none⟩ = some (.string (markS (k + 2 * j + 1)))) := by
    intro j hj
    obtain ⟨b, off, h1, h2, h3⟩ := hr.at j (by rw [marksP_len]; exact hj)
    rw [marksP_at k n j hj] at h3
    exact ⟨b, off, h1, h2, h3 0 (by omega), h3 1 (by omega)⟩
  clear hr
  go_enter Tryd.func87, Tryd.ntmps87
  go_wp2
  go_loopw [1, 5] (fun x i wr => ∃ j : Nat, j ≤ n ∧ x = .int .i64 ((k + 2 * j : Nat) : Int) ∧ i = .int .i64 j ∧ Below w.heap.size w wr) (fun _ i _ => n - (intOf i).toNat)
  case atStart => exact ⟨0, Nat.zero_le _, by simp, rfl, Below.refl _ _⟩
  case round =>
    obtain ⟨j, hj, rfl, rfl, hbel⟩ := hrel
    by_cases hlt : j < n
    · obtain ⟨b, off, rfl, hblt, hc0, hc1⟩ := HCS.out j hlt
      have hd0 : wr.cell? ⟨b, off + j * 2, none⟩ = some (.int .i64 ((k + 2 * j : Nat) : Int)) := (hbel.cell hblt).trans hc0
      have hd1 : wr.cell? ⟨b, off + j * 2 + 1, none⟩ = some (.string (markS (k + 2 * j + 1))) := (hbel.cell hblt).trans hc1
      have hgr : b < wr.heap.size := by have := hbel.size; omega
      have HC : Hid (∀ w1 : World, Calls Tryd.prog 113 #[.int .i64 ((k + 2 * j + 1 : Nat) : Int)] w1 fun e w' => e = .returned (.string (markS (k + 2 * j + 1))) ∧ Below w1.heap.size w1 w') := fun w1 => markT (k + 2 * j + 1) w1 (by omega)
      generalize markS (k + 2 * j + 1) = ms at *
      clear hc0 hc1
      go_wp2
      go_region_with (go_at_call 113; refine (HC.out _).mono ?_; rintro e w1 ⟨rfl, hb1⟩; have hd2 : w1.cell? ⟨b, off + j * 2 + 1, none⟩ = some (.string ms) := (hb1.cell (by exact hgr)).trans hd1)
      all_goals
        have hb2 : Below w.heap.size w w1 := hbel.drew.trans (hb1.mono hbel.size)
        clear hb1 hd2 hbel hd0 hd1
        go_wp2
        go_roundw
        case rel => exact ⟨j + 1, by omega, by go_num, by go_num, hb2⟩
        case measure => simp [intOf]; omega
    · obtain rfl : j = n := by omega
      go_wp2
      go_ret
      exact ⟨by simp, hbel⟩
end Go.Proofs.YtlidmnehpcodkaaDoor

/-
  Own text: the laws' helpers over rows of texts, as the helpers over greater things ask for them: how great, a copy that is owned, still marked.
-/
namespace Go.Proofs.YtlidmnehpcodkaaDoor
open Go.RowKit

theorem Tryd.infoTxt : (Tryd.prog.info? 9).map (fun i => (i.zero, i.size, i.bytes)) = some (some (.string ⟨#[]⟩), 1, 16) := by kernel_rfl

/-- The cell of a row of texts that can be read. -/
theorem RdS.cellT {w : World} {a : Option Addr} {l : List ByteArray} (h : RdS w a l) (k : Nat) (hk : k < l.length) : ∃ b off, a = some ⟨b, off, none⟩ ∧ b < w.heap.size ∧ w.cell? ⟨b, off + k, none⟩ = some (.string l[k]) := by
  rcases h with rfl | ⟨b, off, rfl, hlt, hc⟩
  · simp at hk
  · exact ⟨b, off, rfl, hlt, hc k hk⟩
/-- How great texts are. -/
def szT (l : List ByteArray) : Nat := (l.map fun s => 1 + s.size).sum
theorem szT_take {l : List ByteArray} {k : Nat} (h : k < l.length) : szT (l.take (k + 1)) = szT (l.take k) + 1 + (l[k]).size := by
  unfold szT
  rw [List.take_succ_eq_append_getElem h, List.map_append, List.sum_append]
  simp
  omega
theorem szT_len (l : List ByteArray) : l.length ≤ szT l := by
  unfold szT
  induction l with
  | nil => simp
  | cons x l ih => simp; omega
theorem szP_len (l : List PutD) : l.length ≤ szP l := by
  unfold szP
  induction l with
  | nil => simp
  | cons x l ih => simp; omega

set_option maxRecDepth 20000 in
set_option maxHeartbeats 400000 in
theorem szStrs (a : Option Addr) (cap : Nat) (l : List ByteArray) (left : Int) (w : World) (h0 : 0 ≤ left) (h1 : left ≤ 1048576) (hl : l.length ≤ maxLen) (hz : ∀ s ∈ l, s.size ≤ maxLen) (hr : RdS w a l) :
    Calls Tryd.prog 78 #[.slice a l.length cap, .int .i64 left] w fun e w' => ∃ r : Int, e = .returned (.int .i64 r) ∧ (0 ≤ r → r + szT l = left) ∧ -1 ≤ r ∧ r ≤ 1048576 ∧ Below w.heap.size w w' := by
  have HCS : Hid (∀ k (hk : k < l.length), ∃ b off, a = some ⟨b, off, none⟩ ∧ b < w.heap.size ∧ w.cell? ⟨b, off + k, none⟩ = some (.string l[k])) := fun k hk => hr.cellT k hk
  have HZ : Hid (∀ s ∈ l, s.size ≤ maxLen) := hz
  have hm : l.length ≤ 9223372036854775807 := by unfold maxLen at hl; omega
  clear hr hz hl
  by_cases hbig : left < l.length
  · have hneg : left - (l.length : Int) < 0 := by omega
    go_enter Tryd.func78, Tryd.ntmps78
    go_wp2
    go_ret
    exact ⟨-1, rfl, fun h => by omega, by omega, by omega, Below.refl _ _⟩
  · have hneg : ¬ left - (l.length : Int) < 0 := by omega
    go_enter Tryd.func78, Tryd.ntmps78
    go_wp2
    go_loopw [1, 5] (fun x i wr => ∃ (m : Int) (k : Nat), x = .int .i64 m ∧ 0 ≤ m ∧ m ≤ 1048576 ∧ k ≤ l.length ∧ i = .int .i64 k ∧ wr = w ∧ Hid (m + ((l.length : Int) - k) + (szT (l.take k) : Int) = left)) (fun _ i _ => l.length - (intOf i).toNat)
    case atStart => exact ⟨left - (l.length : Int), 0, by go_num, by omega, by omega, Nat.zero_le _, rfl, rfl, by show _ = _; simp [szT]⟩
    case round =>
      obtain ⟨m, k, rfl, hm0, hm1, hk, rfl, hwr, HA⟩ := hrel
      subst hwr
      by_cases hlt : k < l.length
      · obtain ⟨b, off, rfl, hblt, hcell⟩ := HCS.out k hlt
        have HS : Hid (szT (l.take (k + 1)) = szT (l.take k) + 1 + (l[k]).size) := szT_take hlt
        have hyz : (l[k]).size ≤ 9223372036854775807 := by have := HZ.out l[k] (List.getElem_mem hlt); unfold maxLen at this; omega
        generalize l[k] = y at *
        by_cases hm2 : m - (y.size : Int) < 0
        · go_wp2
          go_ret
          exact ⟨-1, rfl, fun h => by omega, by omega, by omega, Below.refl _ _⟩
        · go_wp2
          go_roundw
          case rel => exact ⟨m - (y.size : Int), k + 1, by go_num, by omega, by omega, by omega, by go_num, by trivial, by show _ = _; rw [HS.out]; have := HA.out; omega⟩
          case measure => simp [intOf]; omega
      · obtain rfl : k = l.length := by omega
        have HE : Hid (m + szT l = left) := by have := HA.out; rw [List.take_length] at this; show _ = _; omega
        go_wp2
        go_ret
        exact ⟨m, rfl, fun _ => HE.out, by omega, by omega, Below.refl _ _⟩
theorem made_txt (n : Nat) : (madeCells #[Value.string ⟨#[]⟩] n).toList = (List.replicate n (⟨#[]⟩ : ByteArray)).map Value.string := by
  apply List.ext_getElem
  · simp [size_madeCells]
  · intro i h1 h2
    simp [madeCells, Nat.mod_one]

set_option maxRecDepth 20000 in
set_option maxHeartbeats 400000 in
theorem toStrs (a : Option Addr) (cap : Nat) (l : List ByteArray) (w : World) (hl : l.length ≤ 1048576) (hr : RdS w a l) :
    Calls Tryd.prog 80 #[.slice a l.length cap] w fun e w' => ∃ v, e = .returned v ∧ w'.ownsRow w.heap.size 9 1 v l.length (l.map Value.string) ∧ Below w.heap.size w w' := by
  obtain ⟨i0, hi, hz0, hz1, hz2⟩ := info_parts Tryd.infoTxt
  have HCS : Hid (∀ k (hk : k < l.length), ∃ b off, a = some ⟨b, off, none⟩ ∧ b < w.heap.size ∧ w.cell? ⟨b, off + k, none⟩ = some (.string l[k])) := fun k hk => hr.cellT k hk
  clear hr
  go_enter Tryd.func80, Tryd.ntmps80
  go_wp2_with (at_make; refine wpList_make_full _ rfl _ _ 24 rfl w.heap.size 9 i0 (.string ⟨#[]⟩) 1 Tryd.underlying24 hi hz0 hz1 _ _ _ _ l.length rfl rfl rfl rfl (by rw [hz2]; omega) (by unfold maxLen; omega) (Nat.le_refl _) ?_)
  intro w1 hown hgrow
  have hown1 : w1.ownsRow w.heap.size 9 1 (.slice (some ⟨w.heap.size, 0, none⟩) l.length l.length) l.length ((fillF ⟨#[]⟩ l 0).map Value.string) := by
    rw [fillF_zero, ← made_txt]
    exact hown
  clear hown
  go_wp2
  go_loopw [4] (fun i wr => ∃ k : Nat, k ≤ l.length ∧ i = .int .i64 k ∧ wr.ownsRow w.heap.size 9 1 (.slice (some ⟨w.heap.size, 0, none⟩) l.length l.length) l.length ((fillF ⟨#[]⟩ l k).map Value.string) ∧ Below w.heap.size w wr) (fun i _ => l.length - (intOf i).toNat)
  case atStart => exact ⟨0, Nat.zero_le _, rfl, hown1, (Below.refl _ _).grown hgrow (Nat.le_refl _) (fun k h => by simp at h)⟩
  case round =>
    obtain ⟨k, hk, rfl, ho, hbel⟩ := hrel
    by_cases hlt : k < l.length
    · obtain ⟨b, off, rfl, hblt, hcell⟩ := HCS.out k hlt
      have hcr : wr.cell? ⟨b, off + k, none⟩ = some (.string l[k]) := (hbel.cell hblt).trans hcell
      have hfz := ho.frozenAt k
      have hce : wr.cell? ⟨w.heap.size, k, none⟩ = some (.string ((fillF ⟨#[]⟩ l k).getD k ⟨#[]⟩)) := by
        rw [ho.cellAt k (by omega)]
        have := fillF_len (⟨#[]⟩ : ByteArray) l k hk
        simp [List.getD, show k < (fillF ⟨#[]⟩ l k).length by omega]
      generalize (fillF ⟨#[]⟩ l k).getD k ⟨#[]⟩ = old at hce
      have hst := (ho.stored k (.string l[k])).1
      rw [← List.map_set, fillF_set _ l k hlt] at hst
      clear hown1 hgrow hcell
      generalize l[k] = y at *
      go_wp2
      go_roundw
      case rel => exact ⟨k + 1, by omega, by go_num, hst, hbel.setCell (Nat.le_refl _) _⟩
      case measure => simp [intOf]; omega
    · obtain rfl : k = l.length := by omega
      go_wp2
      go_ret
      rw [fillF_all] at ho
      exact ⟨_, rfl, ho, hbel⟩

set_option maxRecDepth 20000 in
set_option maxHeartbeats 400000 in
theorem heldStrs (a : Option Addr) (cap n k : Nat) (w : World) (hn : n ≤ 2147483648) (hk : k ≤ 2147483648) (hr : RdS w a (marksS k n)) :
    Calls Tryd.prog 86 #[.slice a n cap, .int .i64 k] w fun e w' => e = .returned (.int .i64 ((k + n : Nat) : Int)) ∧ Below w.heap.size w w' := by
  have HCS : Hid (∀ j, j < n → ∃ b off, a = some ⟨b, off, none⟩ ∧ b < w.heap.size ∧ w.cell? ⟨b, off + j, none⟩ = some (.string (markS (k + j)))) := by
    intro j hj
    obtain ⟨b, off, h1, h2, h3⟩ := hr.cellT j (by rw [marksS_len]; exact hj)
    have e : (marksS k n)[j]'(by rw [marksS_len]; exact hj) = markS (k + j) := by simp [marksS]
    rw [e] at h3
    exact ⟨b, off, h1, h2, h3⟩
  clear hr
  go_enter Tryd.func86, Tryd.ntmps86
  go_wp2
  go_loopw [1, 5] (fun x i wr => ∃ j : Nat, j ≤ n ∧ x = .int .i64 ((k + j : Nat) : Int) ∧ i = .int .i64 j ∧ Below w.heap.size w wr) (fun _ i _ => n - (intOf i).toNat)
  case atStart => exact ⟨0, Nat.zero_le _, by simp, rfl, Below.refl _ _⟩
  case round =>
    obtain ⟨j, hj, rfl, rfl, hbel⟩ := hrel
    by_cases hlt : j < n
    · obtain ⟨b, off, rfl, hblt, hc0⟩ := HCS.out j hlt
      have hce : wr.cell? ⟨b, off + j, none⟩ = some (.string (markS (k + j))) := (hbel.cell hblt).trans hc0
      have hgr : b < wr.heap.size := by have := hbel.size; omega
      have HC : Hid (∀ w1 : World, Calls Tryd.prog 113 #[.int .i64 ((k + j : Nat) : Int)] w1 fun e w' => e = .returned (.string (markS (k + j))) ∧ Below w1.heap.size w1 w') := fun w1 => markT (k + j) w1 (by omega)
      clear hc0
      generalize markS (k + j) = ms at *
      go_wp2
      go_region_with (go_at_call 113; refine (HC.out _).mono ?_; rintro e w1 ⟨rfl, hb1⟩; have hc1 : w1.cell? ⟨b, off + j, none⟩ = some (.string ms) := (hb1.cell (by exact hgr)).trans hce)
      all_goals
        have hb2 : Below w.heap.size w w1 := hbel.drew.trans (hb1.mono hbel.size)
        clear hb1 hc1 hce hbel
        go_wp2
        go_roundw
        case rel => exact ⟨j + 1, by omega, by go_num, by go_num, hb2⟩
        case measure => simp [intOf]; omega
    · obtain rfl : j = n := by omega
      go_wp2
      go_ret
      exact ⟨by simp, hbel⟩
end Go.Proofs.YtlidmnehpcodkaaDoor

/-
  Own text: disks: what can be read, what is owned; the laws' helpers over disks: how great, a copy, alike, marked, still marked.
-/
namespace Go.Proofs.YtlidmnehpcodkaaDoor
open Go.RowKit

/-- A disk: its sectors, what is pending. -/
abbrev DiskD := List ByteArray × List PutD
def RdD (w : World) (v : Value) (d : DiskD) : Prop :=
  ∃ a ca b cb, v = .agg #[.slice a d.1.length ca, .slice b d.2.length cb] ∧ RdS w a d.1 ∧ RdF encP 2 w b d.2
def OwnD (w : World) (lo : Nat) (v : Value) (d : DiskD) : Prop :=
  ∃ v1 v2, v = .agg #[v1, v2] ∧ w.ownsRow lo 9 1 v1 d.1.length (d.1.map Value.string) ∧ w.ownsRow lo 39 2 v2 d.2.length (d.2.flatMap encP)
def blkD (v : Value) (j : Nat) : Prop := ∃ v1 v2, v = .agg #[v1, v2] ∧ (blk v1 j ∨ blk v2 j)

theorem RdD.below {B : Nat} {w w' : World} {v : Value} {d : DiskD} (h : RdD w v d) (hb : Below B w w') (hB : w.heap.size ≤ B) : RdD w' v d := by
  obtain ⟨a, ca, b, cb, rfl, h1, h2⟩ := h
  exact ⟨a, ca, b, cb, rfl, h1.below hb hB, h2.below hb hB⟩
theorem OwnD.rd {w : World} {lo : Nat} {v : Value} {d : DiskD} (h : OwnD w lo v d) : RdD w v d := by
  obtain ⟨v1, v2, rfl, h1, h2⟩ := h
  obtain ⟨a, ca, rfl, _, r1⟩ := own_rdS h1
  obtain ⟨b, cb, rfl, _, r2⟩ := own_rdF encP_len h2 rfl
  exact ⟨a, ca, b, cb, rfl, r1, r2⟩
theorem RdD.shape {w : World} {v : Value} {d : DiskD} (h : RdD w v d) : ∃ a ca b cb, v = .agg #[.slice a d.1.length ca, .slice b d.2.length cb] := by
  obtain ⟨a, ca, b, cb, rfl, _, _⟩ := h
  exact ⟨a, ca, b, cb, rfl⟩
theorem OwnD.shape {w : World} {lo : Nat} {v : Value} {d : DiskD} (h : OwnD w lo v d) : ∃ a ca b cb, v = .agg #[.slice a d.1.length ca, .slice b d.2.length cb] := h.rd.shape
theorem OwnD.below {w w' : World} {lo : Nat} {v : Value} {d : DiskD} (h : OwnD w lo v d) (hb : Below w.heap.size w w') : OwnD w' lo v d := by
  obtain ⟨v1, v2, rfl, h1, h2⟩ := h
  exact ⟨v1, v2, rfl, ownsRow_below h1 hb (Nat.le_refl _), ownsRow_below h2 hb (Nat.le_refl _)⟩
theorem OwnD.base {w : World} {lo lo' : Nat} {v : Value} {d : DiskD} (h : OwnD w lo v d) (hl : lo' ≤ lo) : OwnD w lo' v d := by
  obtain ⟨v1, v2, rfl, h1, h2⟩ := h
  exact ⟨v1, v2, rfl, ownsRow_base h1 hl, ownsRow_base h2 hl⟩
theorem OwnD.blk {w : World} {lo : Nat} {v : Value} {d : DiskD} (h : OwnD w lo v d) : ∀ k, blkD v k → lo ≤ k ∧ k < w.heap.size := by
  obtain ⟨v1, v2, rfl, h1, h2⟩ := h
  rintro k ⟨u1, u2, e, hk⟩
  cases e
  rcases hk with hk | hk
  · exact h1.lt k hk
  · exact h2.lt k hk
theorem OwnD.only {S : Nat → Prop} {w w' : World} {lo : Nat} {v : Value} {d : DiskD} (h : OwnD w lo v d) (ho : Only S w w') (hs : ∀ k, blkD v k → ¬ S k) : OwnD w' lo v d := by
  obtain ⟨v1, v2, rfl, h1, h2⟩ := h
  exact ⟨v1, v2, rfl, own_only h1 ho (fun k hk => hs k ⟨v1, v2, rfl, .inl hk⟩), own_only h2 ho (fun k hk => hs k ⟨v1, v2, rfl, .inr hk⟩)⟩
/-- What was read before a bound is read still, whatever turns behind it. -/
theorem RdD.only {S : Nat → Prop} {w w' : World} {v : Value} {d : DiskD} (h : RdD w v d) (ho : Only S w w') (hs : ∀ k, k < w.heap.size → ¬ S k) : RdD w' v d :=
  h.below (B := w.heap.size) ⟨ho.os, ho.tape, ho.output, ho.size, fun k hk => ho.block k hk (hs k hk)⟩ (Nat.le_refl _)

def szD (d : DiskD) : Nat := szT d.1 + szP d.2
/-- No text in it is longer than a text can be. -/
def FitD (d : DiskD) : Prop := d.1.length ≤ maxLen ∧ d.2.length ≤ maxLen ∧ (∀ s ∈ d.1, s.size ≤ maxLen) ∧ ∀ p ∈ d.2, p.2.size ≤ maxLen

set_option maxRecDepth 20000 in
set_option maxHeartbeats 400000 in
theorem szDiskW (v : Value) (d : DiskD) (left : Int) (w : World) (h0 : 0 ≤ left) (h1 : left ≤ 1048576) (hf : FitD d) (hr : RdD w v d) :
    Calls Tryd.prog 33 #[v, .int .i64 left] w fun e w' => ∃ r : Int, e = .returned (.int .i64 r) ∧ (0 ≤ r → r + szD d = left) ∧ -1 ≤ r ∧ r ≤ 1048576 ∧ Below w.heap.size w w' := by
  obtain ⟨a, ca, b, cb, rfl, r1, r2⟩ := hr
  obtain ⟨f1, f2, f3, f4⟩ := hf
  have HR1 : Hid (RdS w a d.1) := r1
  have HR2 : Hid (RdF encP 2 w b d.2) := r2
  have HF : Hid (d.1.length ≤ maxLen ∧ d.2.length ≤ maxLen ∧ (∀ s ∈ d.1, s.size ≤ maxLen) ∧ ∀ p ∈ d.2, p.2.size ≤ maxLen) := ⟨f1, f2, f3, f4⟩
  have HSZ : Hid (szD d = szT d.1 + szP d.2) := rfl
  clear r1 r2 f1 f2 f3 f4
  go_enter Tryd.func33, Tryd.ntmps33
  go_wp2_with fail
  refine (szStrs _ _ d.1 left _ h0 h1 HF.out.1 HF.out.2.2.1 (HR1.out.below (below1 _ _) (Nat.le_refl _))).mono ?_
  rintro e w1 ⟨r, rfl, hr1, hr0, hrm, hb1⟩
  have hb01 : Below w.heap.size w w1 := (below1 w _).trans (hb1.mono (by simp))
  by_cases hneg : r < 0
  · clear hr1
    go_wp2
    go_ret
    exact ⟨-1, rfl, fun h => by omega, by omega, by omega, hb01⟩
  · have HE1 : Hid (r + szT d.1 = left) := hr1 (by omega)
    clear hr1
    have hcell : w1.cell? ⟨w.heap.size, 1, none⟩ = some (.slice b d.2.length cb) := (hb1.cell (by simp)).trans (by simp)
    go_wp2_with fail
    refine (szPuts _ _ d.2 r _ (by omega) hrm HF.out.2.1 HF.out.2.2.2 (HR2.out.below hb01 (Nat.le_refl _))).mono ?_
    rintro e w2 ⟨r', rfl, hr2, hr0', hrm', hb2⟩
    have hb02 : Below w.heap.size w w2 := hb01.trans (hb2.mono hb01.size)
    by_cases hneg' : r' < 0
    · clear hr2
      go_wp2
      go_ret
      exact ⟨-1, rfl, fun h => by omega, by omega, by omega, hb02⟩
    · have HE2 : Hid (r' + szP d.2 = r) := hr2 (by omega)
      clear hr2
      go_wp2
      go_ret
      exact ⟨r', rfl, fun _ => by rw [HSZ.out]; have := HE1.out; have := HE2.out; omega, by omega, by omega, hb02⟩

theorem Tryd.sizeDisk : (Tryd.prog.info? 27).map (·.size) = some 2 := by kernel_rfl

set_option maxRecDepth 20000 in
set_option maxHeartbeats 400000 in
theorem toDiskW (v : Value) (d : DiskD) (w : World) (hl : szD d ≤ 1048576) (hr : RdD w v d) :
    Calls Tryd.prog 34 #[v] w fun e w' => ∃ v', e = .returned v' ∧ OwnD w' w.heap.size v' d ∧ Below w.heap.size w w' := by
  obtain ⟨a, ca, b, cb, rfl, r1, r2⟩ := hr
  have hl1 : d.1.length ≤ 1048576 := by have := szT_len d.1; unfold szD at hl; omega
  have hl2 : d.2.length ≤ 1048576 := by have := szP_len d.2; unfold szD at hl; omega
  have HR1 : Hid (RdS w a d.1) := r1
  have HR2 : Hid (RdF encP 2 w b d.2) := r2
  clear r1 r2 hl
  go_enter Tryd.func34, Tryd.ntmps34
  go_wp2_with fail
  refine (toStrs _ _ d.1 _ hl1 (HR1.out.below (below3 _ _ _ _) (Nat.le_refl _))).mono ?_
  rintro e w1 ⟨v1, rfl, ho1, hb1⟩
  obtain ⟨a1, c1, rfl, _, _⟩ := own_rdS ho1
  have hV0 : Var w1 (w.heap.size + 1 + 1) #[.slice none 0 0, .slice none 0 0] 27 := (Var.made3 w _ _ _ _).new hb1
  have hR0 : Var w1 (w.heap.size + 1) #[.slice none 0 0, .slice none 0 0] 27 := ((Var.made2 w _ _ _).alloc _).new hb1
  have hX0 : Var w1 w.heap.size #[.slice a d.1.length ca, .slice b d.2.length cb] 58 := (((Var.made w _ _).alloc _).alloc _).new hb1
  have hs0 : (((w.alloc (.cells #[.slice a d.1.length ca, .slice b d.2.length cb] 58)).alloc (.cells #[.slice none 0 0, .slice none 0 0] 27)).alloc (.cells #[.slice none 0 0, .slice none 0 0] 27)).heap.size = w.heap.size + 1 + 1 + 1 := by simp
  rw [hs0] at ho1 hb1
  have hb01 : Below w.heap.size w w1 := (below3 w _ _ _).trans (hb1.mono (by omega))
  have hV1 := hV0.set 0 (.slice a1 d.1.length c1)
  have hR1 := hR0.other (Q := w.heap.size + 1 + 1) (by omega) 0 (.slice a1 d.1.length c1)
  have hX1 := hX0.other (Q := w.heap.size + 1 + 1) (by omega) 0 (.slice a1 d.1.length c1)
  have hb02 : Below w.heap.size w (w1.setCell ⟨w.heap.size + 1 + 1, 0, none⟩ (.slice a1 d.1.length c1)) := hb01.setCell (p := ⟨w.heap.size + 1 + 1, 0, none⟩) (by show _ ≤ w.heap.size + 1 + 1; omega) _
  have hc0 := hV0.cell 0
  have hf0 := hV0.frozen 0
  have hcx := hX1.cell 1
  go_wp2_with fail
  have ho1' := own_set ho1 (Q := w.heap.size + 1 + 1) (by omega) 0 (.slice a1 d.1.length c1)
  have hsz1 : w.heap.size + 1 + 1 + 1 ≤ (w1.setCell ⟨w.heap.size + 1 + 1, 0, none⟩ (.slice a1 d.1.length c1)).heap.size := by have := hV1.lt; omega
  clear hc0 hf0 hcx hV0 hR0 hX0 hb01 hb1 ho1 hs0
  generalize w1.setCell ⟨w.heap.size + 1 + 1, 0, none⟩ (.slice a1 d.1.length c1) = wx at *
  refine (toPuts _ _ d.2 _ hl2 (HR2.out.below hb02 (Nat.le_refl _))).mono ?_
  rintro e w2 ⟨v2, rfl, ho2, hb2⟩
  obtain ⟨a2, c2, rfl, _, _⟩ := own_rdF encP_len ho2 rfl
  have hV2 := hV1.new hb2
  have hR2 := hR1.new hb2
  have ho12 := ownsRow_below ho1' hb2 (Nat.le_refl _)
  have ho2' := ownsRow_base ho2 hsz1
  have hb03 : Below w.heap.size w w2 := hb02.trans (hb2.mono hb02.size)
  clear hV1 hR1 hX1 ho1' ho2 hb2 hb02 hsz1
  have hV3 := hV2.set 1 (.slice a2 d.2.length c2)
  have hR3 := hR2.other (Q := w.heap.size + 1 + 1) (by omega) 1 (.slice a2 d.2.length c2)
  have hR4 := hR3.set 0 (.slice a1 d.1.length c1)
  have hR5 := hR4.set 1 (.slice a2 d.2.length c2)
  have HR5 : Hid (Var (((w2.setCell ⟨w.heap.size + 1 + 1, 1, none⟩ (.slice a2 d.2.length c2)).setCell ⟨w.heap.size + 1, 0, none⟩ (.slice a1 d.1.length c1)).setCell ⟨w.heap.size + 1, 1, none⟩ (.slice a2 d.2.length c2)) (w.heap.size + 1) #[.slice a1 d.1.length c1, .slice a2 d.2.length c2] 27) := hR5
  have e1 := own_set (own_set (own_set ho12 (Q := w.heap.size + 1 + 1) (by omega) 1 (.slice a2 d.2.length c2)) (Q := w.heap.size + 1) (by omega) 0 (.slice a1 d.1.length c1)) (Q := w.heap.size + 1) (by omega) 1 (.slice a2 d.2.length c2)
  have e2 := own_set (own_set (own_set ho2' (Q := w.heap.size + 1 + 1) (by omega) 1 (.slice a2 d.2.length c2)) (Q := w.heap.size + 1) (by omega) 0 (.slice a1 d.1.length c1)) (Q := w.heap.size + 1) (by omega) 1 (.slice a2 d.2.length c2)
  have hb04 : Below w.heap.size w (((w2.setCell ⟨w.heap.size + 1 + 1, 1, none⟩ (.slice a2 d.2.length c2)).setCell ⟨w.heap.size + 1, 0, none⟩ (.slice a1 d.1.length c1)).setCell ⟨w.heap.size + 1, 1, none⟩ (.slice a2 d.2.length c2)) := ((hb03.setCell (p := ⟨w.heap.size + 1 + 1, 1, none⟩) (by show _ ≤ w.heap.size + 1 + 1; omega) _).setCell (p := ⟨w.heap.size + 1, 0, none⟩) (by show _ ≤ w.heap.size + 1; omega) _).setCell (p := ⟨w.heap.size + 1, 1, none⟩) (by show _ ≤ w.heap.size + 1; omega) _
  have E1 : Hid (_) := e1
  have E2 : Hid (_) := e2
  have hc1 := hV2.cell 1
  have hf1 := hV2.frozen 1
  have hd0 := hV3.cell 0
  have hd1 := hV3.cell 1
  have hr0 := hR3.cell 0
  have hr1 := hR4.cell 1
  have hg0 := hR3.frozen 0
  have hg1 := hR4.frozen 1
  clear e1 e2 ho12 ho2' hb03 hV2 hV3 hR2 hR3 hR4 hR5
  simp at hc1 hd0 hd1 hr0 hr1
  go_wp2
  refine bodyPost_ret (results_cell_row rfl _ _ (w.heap.size + 1) 27 #[.slice a1 d.1.length c1, .slice a2 d.2.length c2] (0, 0) _ rfl HR5.out Tryd.underlying27 rfl Tryd.sizeDisk) rfl ?_
  exact ⟨_, rfl, ⟨_, _, rfl, ownsRow_base E1.out (by omega), ownsRow_base E2.out (by omega)⟩, hb04⟩

set_option maxRecDepth 20000 in
set_option maxHeartbeats 400000 in
theorem eqDiskW (v u : Value) (d : DiskD) (w : World) (hl : d.1.length ≤ 4194304 ∧ d.2.length ≤ 4194304) (hr : RdD w v d) (hs : RdD w u d) :
    Calls Tryd.prog 35 #[v, u] w fun e w' => e = .returned (.bool true) ∧ Below w.heap.size w w' := by
  obtain ⟨a, ca, b, cb, rfl, r1, r2⟩ := hr
  obtain ⟨a', ca', b', cb', rfl, r1', r2'⟩ := hs
  have HR : Hid (RdS w a d.1 ∧ RdF encP 2 w b d.2 ∧ RdS w a' d.1 ∧ RdF encP 2 w b' d.2) := ⟨r1, r2, r1', r2'⟩
  obtain ⟨hl1, hl2⟩ := hl
  clear r1 r2 r1' r2'
  go_enter Tryd.func35, Tryd.ntmps35
  go_wp2_with fail
  refine (eqS _ _ _ _ d.1 _ hl1 (HR.out.1.below (below2 _ _ _) (Nat.le_refl _)) (HR.out.2.2.1.below (below2 _ _ _) (Nat.le_refl _))).mono ?_
  rintro e w1 ⟨rfl, hb1⟩
  have hX : Var w1 w.heap.size #[.slice a d.1.length ca, .slice b d.2.length cb] 27 := ((Var.made w _ _).alloc _).new hb1
  have hY : Var w1 (w.heap.size + 1) #[.slice a' d.1.length ca', .slice b' d.2.length cb'] 27 := (Var.made2 w _ _ _).new hb1
  have hb01 : Below w.heap.size w w1 := (below2 w _ _).trans (hb1.mono (by simp; omega))
  have hx1 := hX.cell 1
  have hy1 := hY.cell 1
  clear hX hY hb1
  simp at hx1 hy1
  go_wp2_with fail
  refine (eqPuts _ _ _ _ d.2 _ hl2 (HR.out.2.1.below hb01 (Nat.le_refl _)) (HR.out.2.2.2.below hb01 (Nat.le_refl _))).mono ?_
  rintro e w2 ⟨rfl, hb2⟩
  go_wp2
  go_ret
  exact ⟨rfl, hb01.trans (hb2.mono hb01.size)⟩

/-- A disk's marks, from k on, and how many. -/
def mrkD (k : Nat) (d : DiskD) : DiskD := (marksS k d.1.length, marksP (k + d.1.length) d.2.length)
def cntD (d : DiskD) : Nat := d.1.length + 2 * d.2.length
theorem mrkD_len (k : Nat) (d : DiskD) : (mrkD k d).1.length = d.1.length ∧ (mrkD k d).2.length = d.2.length := ⟨marksS_len _ _, marksP_len _ _⟩

set_option maxRecDepth 20000 in
set_option maxHeartbeats 400000 in
theorem markDiskW (v : Value) (lo k : Nat) (d : DiskD) (w : World) (hl : d.1.length ≤ 4194304 ∧ d.2.length ≤ 4194304) (hk : k ≤ 1073741824) (ho : OwnD w lo v d) :
    Calls Tryd.prog 36 #[v, .int .i64 k] w fun e w' => e = .returned (.int .i64 ((k + cntD d : Nat) : Int)) ∧ OwnD w' lo v (mrkD k d) ∧ Only (blkD v) w w' := by
  obtain ⟨v1, v2, rfl, ho1, ho2⟩ := ho
  obtain ⟨hl1, hl2⟩ := hl
  obtain ⟨a, ca, rfl, _, _⟩ := own_rdS ho1
  obtain ⟨b, cb, rfl, _, _⟩ := own_rdF encP_len ho2 rfl
  have HO1 : Hid (w.ownsRow lo 9 1 (.slice a d.1.length ca) d.1.length (d.1.map Value.string)) := ho1
  have HO2 : Hid (w.ownsRow lo 39 2 (.slice b d.2.length cb) d.2.length (d.2.flatMap encP)) := ho2
  have HAP : Hid (∀ j, blk (.slice b d.2.length cb) j → ¬ blk (.slice a d.1.length ca) j) := own_apart ho2 ho1 (by decide)
  have HCN : Hid (k + cntD d = k + d.1.length + 2 * d.2.length) := by show _ = _; unfold cntD; omega
  clear ho1 ho2
  go_enter Tryd.func36, Tryd.ntmps36
  go_wp2_with fail
  refine (markStrO _ d.1.length k lo d.1 _ (by omega) (by omega) (ownsRow_below HO1.out (below1 _ _) (Nat.le_refl _))).mono ?_
  rintro e w1 ⟨rfl, hm1, hon1⟩
  have hX : Var w1 w.heap.size #[.slice a d.1.length ca, .slice b d.2.length cb] 27 := by
    show w1.heap[w.heap.size]? = _
    rw [hon1.block w.heap.size (by simp) (fun hb => by have := (HO1.out.lt _ hb).2; omega)]
    exact Var.made w _ _
  have hx1 := hX.cell 1
  simp at hx1
  have hp1 := own_only (ownsRow_below HO2.out (below1 w (.cells #[.slice a d.1.length ca, .slice b d.2.length cb] 27)) (Nat.le_refl _)) hon1 (fun j hj => HAP.out j hj)
  have HM1 : Hid (w1.ownsRow lo 9 1 (.slice a d.1.length ca) d.1.length ((marksS k d.1.length).map Value.string)) := hm1
  have HP1 : Hid (w1.ownsRow lo 39 2 (.slice b d.2.length cb) d.2.length (d.2.flatMap encP)) := hp1
  have hon01 : Only (blkD (.agg #[.slice a d.1.length ca, .slice b d.2.length cb])) w w1 := (Only.of_new (below1 w _)).trans (hon1.mono fun j _ hj => ⟨_, _, rfl, .inl hj⟩)
  clear hm1 hp1 hX
  go_wp2_with fail
  refine (markPuts _ d.2.length (k + d.1.length) lo d.2 _ (by omega) (by omega) rfl HP1.out).mono ?_
  rintro e w2 ⟨rfl, hm2, hon2⟩
  have HM2 : Hid (w2.ownsRow lo 39 2 (.slice b d.2.length cb) d.2.length ((marksP (k + d.1.length) d.2.length).flatMap encP)) := hm2
  have HM3 : Hid (w2.ownsRow lo 9 1 (.slice a d.1.length ca) d.1.length ((marksS k d.1.length).map Value.string)) := own_only HM1.out hon2 (fun j hj hb => HAP.out j hb hj)
  have hon02 : Only (blkD (.agg #[.slice a d.1.length ca, .slice b d.2.length cb])) w w2 := hon01.trans (hon2.mono fun j _ hj => ⟨_, _, rfl, .inr hj⟩)
  clear hm2
  go_wp2
  go_ret
  refine ⟨by rw [HCN.out]; rfl, ⟨_, _, rfl, ?_, ?_⟩, hon02⟩
  · rw [(mrkD_len k d).1]; exact HM3.out
  · rw [(mrkD_len k d).2]; exact HM2.out

set_option maxRecDepth 20000 in
set_option maxHeartbeats 400000 in
theorem heldDiskW (v : Value) (k : Nat) (d : DiskD) (w : World) (hl : d.1.length ≤ 4194304 ∧ d.2.length ≤ 4194304) (hk : k ≤ 1073741824) (hr : RdD w v (mrkD k d)) :
    Calls Tryd.prog 37 #[v, .int .i64 k] w fun e w' => e = .returned (.int .i64 ((k + cntD d : Nat) : Int)) ∧ Below w.heap.size w w' := by
  obtain ⟨a, ca, b, cb, rfl, r1, r2⟩ := hr
  obtain ⟨hl1, hl2⟩ := hl
  rw [(mrkD_len k d).1, (mrkD_len k d).2]
  have HR1 : Hid (RdS w a (marksS k d.1.length)) := r1
  have HR2 : Hid (RdF encP 2 w b (marksP (k + d.1.length) d.2.length)) := r2
  have HCN : Hid (k + cntD d = k + d.1.length + 2 * d.2.length) := by show _ = _; unfold cntD; omega
  clear r1 r2
  go_enter Tryd.func37, Tryd.ntmps37
  go_wp2_with fail
  refine (heldStrs _ _ d.1.length k _ (by omega) (by omega) (HR1.out.below (below1 _ _) (Nat.le_refl _))).mono ?_
  rintro e w1 ⟨rfl, hb1⟩
  have hX : Var w1 w.heap.size #[.slice a d.1.length ca, .slice b d.2.length cb] 27 := (Var.made w _ _).new hb1
  have hb01 : Below w.heap.size w w1 := (below1 w _).trans (hb1.mono (by simp))
  have hx1 := hX.cell 1
  simp at hx1
  clear hX hb1
  go_wp2_with fail
  refine (heldPuts _ _ d.2.length (k + d.1.length) _ (by omega) (by omega) (HR2.out.below hb01 (Nat.le_refl _))).mono ?_
  rintro e w2 ⟨rfl, hb2⟩
  go_wp2
  go_ret
  exact ⟨by rw [HCN.out]; rfl, hb01.trans (hb2.mono hb01.size)⟩
end Go.Proofs.YtlidmnehpcodkaaDoor

/-
  Own text: what the frame tells of a disk that came in: it can be read, and no text in it is longer than a text can be.
-/
namespace Go.Proofs.YtlidmnehpcodkaaDoor
open Go.ChangeShapes Go.WideShapes Go.ChangeAt Go.RowKit

theorem len_of_sz {d : DiskD} (h : szD d ≤ 1048576) : d.1.length ≤ 4194304 ∧ d.2.length ≤ 4194304 := by
  have h1 := szT_len d.1
  have h2 := szP_len d.2
  unfold szD at h
  omega

section
variable {H : Type} {enc : TypeId × Value → H} {w : World} {spare : Nat → Bool} {held : Bool}

set_option maxRecDepth 20000 in
theorem put_of_trod {fuel : Nat} {cs : List Value} {x : DataW H × List MemPlace} (h : DataW.trod enc Tryd.prog w 0 spare held fuel 120 cs = some x) :
    ∃ p : PutD, cs = encP p ∧ p.2.size ≤ maxLen ∧ (Lit.int .i64 p.1).wf = true := by
  obtain ⟨y0, y1, n, _, hl, h0, h1⟩ := trod_struct2 Tryd.underlying120 h
  have hc : Tryd.prog.cellsOf 120 = 2 := by kernel_rfl
  have hc0 : Tryd.prog.cellsOf 3 = 1 := by kernel_rfl
  have hc1 : Tryd.prog.cellsOf 9 = 1 := by kernel_rfl
  rw [hc] at hl
  match cs, hl with
  | [c0, c1], _ =>
    simp only [hc0, hc1, List.drop_zero, List.take_succ_cons, List.take_zero, List.drop_succ_cons] at h0 h1
    obtain ⟨m, e0, _, hw⟩ := DataW.trod_int Tryd.underlying3 h0
    obtain ⟨s, e1, _, hs⟩ := DataW.trod_string Tryd.underlying9 h1
    simp at e0 e1
    subst e0
    subst e1
    exact ⟨(m, s), rfl, hs, hw⟩

theorem puts_of_trod {fuel : Nat} {v : Value} {x : DataW H × List MemPlace} (h : DataW.trod enc Tryd.prog w 0 spare held fuel 56 [v] = some x) :
    ∃ (a : Option Addr) (cap : Nat) (l : List PutD), v = .slice a l.length cap ∧ l.length ≤ maxLen ∧ (∀ p ∈ l, p.2.size ≤ maxLen ∧ (Lit.int .i64 p.1).wf = true) ∧ RdF encP 2 w a l := by
  have hc : Tryd.prog.cellsOf 120 = 2 := by kernel_rfl
  rcases DataW.trod_slice Tryd.underlying56 h with ⟨hv, _⟩ | ⟨a, len, cap, elems, rest, n, _, hv, _, _, hl, hm, hlen, hel, _, _⟩
  · simp at hv
    exact ⟨none, 0, [], hv, Nat.zero_le _, by simp, .inl rfl⟩
  · simp at hv
    rw [hc] at hel
    have each : ∀ i, i < len → ∃ p : PutD, w.cells? 0 (a.add (i * 2)) 2 = some (encP p) ∧ p.2.size ≤ maxLen ∧ (Lit.int .i64 p.1).wf = true := by
      intro i hi
      have h1 := hel i hi
      rw [List.getElem?_eq_getElem (by omega)] at h1
      obtain ⟨cs, hcs, ht⟩ := Option.bind_eq_some_iff.1 h1
      obtain ⟨p, rfl, h2⟩ := put_of_trod ht
      exact ⟨p, hcs, h2⟩
    let g : Nat → PutD := fun i => if hi : i < len then Classical.choose (each i hi) else (0, ⟨#[]⟩)
    have hg : ∀ i (hi : i < len), w.cells? 0 (a.add (i * 2)) 2 = some (encP (g i)) ∧ (g i).2.size ≤ maxLen ∧ (Lit.int .i64 (g i).1).wf = true := by
      intro i hi
      have := Classical.choose_spec (each i hi)
      simp only [g, hi, dif_pos]
      exact this
    refine ⟨some a, cap, (List.range len).map g, by simp [hv], by simp; omega, ?_, ?_⟩
    · intro p hp
      obtain ⟨i, hi, rfl⟩ := List.mem_map.1 hp
      exact (hg i (List.mem_range.1 hi)).2
    · by_cases h0 : len = 0
      · left; simp [h0]
      · right
        obtain ⟨b, off, spot⟩ := a
        have hc0 := (World.cells?_some (hg 0 (by omega)).1).2.2 0 (by omega)
        have hspot : spot = none := by
          have := World.cell?_spot (hc0.trans (by rfl))
          simpa [Addr.add] using this
        subst hspot
        have hcell : ∀ i (hi : i < len) j, j < 2 → w.cell? ⟨b, off + i * 2 + j, none⟩ = (encP (g i))[j]? := by
          intro i hi j hj
          have := (World.cells?_some (hg i hi).1).2.2 j (by omega)
          rw [Go.WideShapes.add_plain, Go.WideShapes.add_plain] at this
          exact this
        refine ⟨b, off, rfl, World.block_lt_of_cell? w ⟨b, off + 0 * 2 + 0, none⟩ ((hcell 0 (by omega) 0 (by omega)).trans (by rfl)), fun i hi j hj => ?_⟩
        simp at hi
        rw [hcell i hi j hj]
        simp

set_option maxRecDepth 20000 in
theorem open_Disk {r : Reach} {b0 : Nat} {v : Value} {d : DataW H} {p : List MemPlace} (hv : Value.okWide Tryd.prog w r b0 58 v) (h : DataW.Trod enc Tryd.prog w 0 (fun _ => true) held 58 v d p) :
    ∃ D : DiskD, FitD D ∧ RdD w v D := by
  obtain ⟨v0, v1, y0, y1, n, rfl, _, _, h0, h1⟩ := Go.Joins.open_agg2 Tryd.underlying58 (by kernel_rfl) (by kernel_rfl) hv h
  obtain ⟨b, cb, lp, rfl, hlp, hfp, hrp⟩ := puts_of_trod h1
  have hS : ∃ (a : Option Addr) (ca : Nat) (ls : List ByteArray), v0 = .slice a ls.length ca ∧ ls.length ≤ maxLen ∧ (∀ s ∈ ls, s.size ≤ maxLen) ∧ RdS w a ls := by
    rcases open_strings Tryd.underlying24 Tryd.underlying9 (by kernel_rfl) h0 with ⟨hcs, _⟩ | ⟨x, l, c, zs, hcs, _, hl, hm, hz, _, hcell, hwz⟩
    · simp at hcs
      exact ⟨none, 0, [], hcs, Nat.zero_le _, by simp, .inl rfl⟩
    · simp at hcs
      simp at hz
      refine ⟨some x, c, zs.take l, by rw [hcs]; simp; omega, by simp; omega, fun s hs => hwz s (List.mem_of_mem_take hs), ?_⟩
      by_cases h0 : l = 0
      · left; simp [h0]
      · right
        obtain ⟨b, off, spot⟩ := x
        have hc0 := hcell 0 (by omega)
        have hspot : spot = none := by simpa [Addr.add] using World.cell?_spot hc0
        subst hspot
        refine ⟨b, off, rfl, World.block_lt_of_cell? w _ hc0, fun i hi => ?_⟩
        simp at hi
        have := hcell i (by omega)
        rw [Go.WideShapes.add_plain] at this
        rw [this]
        simp [List.getD, show i < zs.length by omega]
  obtain ⟨a, ca, ls, rfl, hls, hfs, hrs⟩ := hS
  exact ⟨(ls, lp), ⟨hls, hlp, hfs, fun p hp => (hfp p hp).1⟩, ⟨a, ca, b, cb, rfl, hrs, hrp⟩⟩
end
end Go.Proofs.YtlidmnehpcodkaaDoor

/-
  Own text: whether a number lies between two.
-/
namespace Go.Proofs.YtlidmnehpcodkaaDoor
open Go.RowKit

theorem inW (x lo hi : Int) (w : World) :
    Calls Tryd.prog 76 #[.int .i64 x, .int .i64 lo, .int .i64 hi] w fun e w' => e = .returned (.bool (decide (lo ≤ x) && decide (x ≤ hi))) ∧ w' = w := by
  by_cases h1 : lo ≤ x <;> by_cases h2 : x ≤ hi
  all_goals
    go_enter Tryd.func76, Tryd.ntmps76
    go_wp2
    go_ret
    exact ⟨by simp [h1, h2], rfl⟩

end Go.Proofs.YtlidmnehpcodkaaDoor

/-
  Own text, plain: disks as lists: right ones, what is read, written, flushed, what falls.
-/
namespace Go.Proofs.YtlidmnehpcodkaaDoor

def txOk (s : ByteArray) : Bool := decide (s.size ≤ 90)
def putOk (n : Nat) (p : PutD) : Bool := (decide (0 ≤ p.1) && decide (p.1 ≤ (n : Int) - 1)) && decide (p.2.size ≤ 90)
/-- A right disk. -/
def dkOk (d : List ByteArray × List PutD) : Bool := decide (d.1.length ≤ 120) && decide (d.2.length ≤ 400) && d.1.all txOk && d.2.all (putOk d.1.length)
/-- Writes put into sectors, in order. -/
def putIn (s : List ByteArray) (l : List PutD) : List ByteArray := l.foldl (fun s p => s.set p.1.toNat p.2) s
def dkFlush (d : List ByteArray × List PutD) : List ByteArray × List PutD := if dkOk d = true then (putIn d.1 d.2, []) else d
/-- The writes that are kept. -/
def keepL : List PutD → List Bool → List PutD
  | [], _ => []
  | _ :: _, [] => []
  | p :: l, k :: ks => if k then p :: keepL l ks else keepL l ks
def dkFall (d : List ByteArray × List PutD) (ks : List Bool) : List ByteArray × List PutD := if dkOk d = true then (putIn d.1 (keepL d.2 ks), []) else d
/-- The last write at a place. -/
def lastAt (l : List PutD) (at' : Int) : Option ByteArray := (l.reverse.find? fun p => decide (p.1 = at')).map (·.2)
def dkRead (d : List ByteArray × List PutD) (at' : Int) : Option ByteArray :=
  if dkOk d = true ∧ 0 ≤ at' ∧ at' ≤ (d.1.length : Int) - 1 then some ((lastAt d.2 at').getD (d.1.getD at'.toNat ⟨#[]⟩)) else none
def dkWrite (d : List ByteArray × List PutD) (at' : Int) (s : ByteArray) : Option (List ByteArray × List PutD) :=
  if dkOk d = true ∧ dkOk (d.1, d.2 ++ [(at', s)]) = true then some (d.1, d.2 ++ [(at', s)]) else none

theorem dkOk_iff {d : List ByteArray × List PutD} : dkOk d = true ↔ d.1.length ≤ 120 ∧ d.2.length ≤ 400 ∧ (∀ s ∈ d.1, s.size ≤ 90) ∧ ∀ p ∈ d.2, 0 ≤ p.1 ∧ p.1 < (d.1.length : Int) ∧ p.2.size ≤ 90 := by
  simp only [dkOk, putOk, txOk, Bool.and_eq_true, decide_eq_true_eq, List.all_eq_true]
  constructor
  · rintro ⟨⟨⟨h1, h2⟩, h3⟩, h4⟩
    exact ⟨h1, h2, h3, fun p hp => ⟨(h4 p hp).1.1, by have := (h4 p hp).1.2; omega, (h4 p hp).2⟩⟩
  · rintro ⟨h1, h2, h3, h4⟩
    exact ⟨⟨⟨h1, h2⟩, h3⟩, fun p hp => ⟨⟨(h4 p hp).1, by have := (h4 p hp).2.1; omega⟩, (h4 p hp).2.2⟩⟩
theorem putIn_len (s : List ByteArray) (l : List PutD) : (putIn s l).length = s.length := by
  unfold putIn
  induction l generalizing s with
  | nil => rfl
  | cons p l ih => rw [List.foldl_cons, ih]; simp
theorem putIn_small {s : List ByteArray} {l : List PutD} (hs : ∀ x ∈ s, x.size ≤ 90) (hl : ∀ p ∈ l, p.2.size ≤ 90) : ∀ x ∈ putIn s l, x.size ≤ 90 := by
  unfold putIn
  induction l generalizing s with
  | nil => exact hs
  | cons p l ih =>
    rw [List.foldl_cons]
    refine ih ?_ (fun q hq => hl q (by simp [hq]))
    intro x hx
    rcases List.mem_or_eq_of_mem_set hx with h | h
    · exact hs x h
    · rw [h]; exact hl p (by simp)
theorem putIn_app (s : List ByteArray) (l m : List PutD) : putIn s (l ++ m) = putIn (putIn s l) m := by simp [putIn]
theorem keepL_mem {l : List PutD} : ∀ {ks : List Bool} {p : PutD}, p ∈ keepL l ks → p ∈ l := by
  induction l with
  | nil => intro ks p h; simp [keepL] at h
  | cons q l ih =>
    intro ks p h
    cases ks with
    | nil => simp [keepL] at h
    | cons k ks =>
      rw [keepL] at h
      split at h
      · rcases List.mem_cons.1 h with rfl | h
        · simp
        · exact List.mem_cons_of_mem _ (ih h)
      · exact List.mem_cons_of_mem _ (ih h)
theorem flush_ok {d : List ByteArray × List PutD} (h : dkOk d = true) : dkOk (dkFlush d) = true ∧ (dkFlush d).2 = [] := by
  have hd := dkOk_iff.1 h
  unfold dkFlush
  rw [if_pos h]
  refine ⟨dkOk_iff.2 ⟨by rw [putIn_len]; exact hd.1, by simp, ?_, by simp⟩, rfl⟩
  exact putIn_small hd.2.2.1 (fun p hp => (hd.2.2.2 p hp).2.2)
theorem fall_none {s : List ByteArray} (ks : List Bool) : dkFall (s, []) ks = (s, []) := by
  unfold dkFall
  split
  · rfl
  · rfl
theorem flush_none {s : List ByteArray} : dkFlush (s, []) = (s, []) := by
  unfold dkFlush
  split
  · rfl
  · rfl
theorem lastAt_app (l : List PutD) (at' : Int) (s : ByteArray) : lastAt (l ++ [(at', s)]) at' = some s := by simp [lastAt]
theorem read_written {d e : List ByteArray × List PutD} {at' : Int} {s : ByteArray} (h : dkWrite d at' s = some e) : dkRead e at' = some s ∧ dkOk e = true := by
  unfold dkWrite at h
  split at h
  · rename_i hk
    obtain rfl := Option.some.inj h
    have hp := (dkOk_iff.1 hk.2).2.2.2 (at', s) (by simp)
    refine ⟨?_, hk.2⟩
    unfold dkRead
    rw [if_pos ⟨hk.2, hp.1, by have := hp.2.1; simp at this ⊢; omega⟩, lastAt_app]
    rfl
  · cases h
theorem read_flushed {d e : List ByteArray × List PutD} {at' : Int} {s : ByteArray} (h : dkWrite d at' s = some e) : dkRead (dkFlush e) at' = some s := by
  have hr := read_written h
  unfold dkWrite at h
  split at h
  · rename_i hk
    obtain rfl := Option.some.inj h
    have hp := (dkOk_iff.1 hk.2).2.2.2 (at', s) (by simp)
    simp only at hp
    have hf := flush_ok hk.2
    unfold dkRead
    have hlen : (dkFlush (d.1, d.2 ++ [(at', s)])).1.length = d.1.length := by
      unfold dkFlush; rw [if_pos hk.2]; exact putIn_len _ _
    rw [if_pos ⟨hf.1, hp.1, by rw [hlen]; omega⟩, hf.2]
    have e1 : (dkFlush (d.1, d.2 ++ [(at', s)])).1 = (putIn d.1 d.2).set at'.toNat s := by
      unfold dkFlush; rw [if_pos hk.2]
      show putIn d.1 (d.2 ++ [(at', s)]) = _
      rw [putIn_app]
      rfl
    rw [e1]
    have hb : at'.toNat < (putIn d.1 d.2).length := by rw [putIn_len]; omega
    simp [lastAt, List.getD, hb]
  · cases h
end Go.Proofs.YtlidmnehpcodkaaDoor

/-
  Own text: texts that are not too long to be copied.
-/
namespace Go.Proofs.YtlidmnehpcodkaaDoor
open Go.RowKit

def SmL (l : List ByteArray) : Prop := ∀ s ∈ l, s.size ≤ 281474976710656
def SmP (l : List PutD) : Prop := ∀ p ∈ l, p.2.size ≤ 281474976710656
/-- No text in it is too long to be copied. -/
def SmD (d : DiskD) : Prop := SmL d.1 ∧ SmP d.2
theorem SmL.set {l : List ByteArray} (h : SmL l) (k : Nat) {s : ByteArray} (hs : s.size ≤ 91) : SmL (l.set k s) := by
  intro x hx
  rcases List.mem_or_eq_of_mem_set hx with hx | rfl
  · exact h x hx
  · omega
theorem smL_rep (n : Nat) : SmL (List.replicate n ⟨#[]⟩) := by
  intro x hx
  rw [(List.mem_replicate.1 hx).2]
  decide
theorem smP_rep (n : Nat) : SmP (List.replicate n (0, ⟨#[]⟩)) := by
  intro x hx
  rw [(List.mem_replicate.1 hx).2]
  decide
theorem smP_nil : SmP [] := fun _ h => by cases h
theorem SmP.app {l : List PutD} (h : SmP l) (n : Int) {s : ByteArray} (hs : s.size ≤ 91) : SmP (l ++ [(n, s)]) := by
  intro x hx
  rcases List.mem_append.1 hx with hx | hx
  · exact h x hx
  · obtain rfl : x = (n, s) := by simpa using hx
    show s.size ≤ _
    omega
theorem smD_ok {d : DiskD} (h : dkOk d = true) : SmD d := by
  obtain ⟨_, _, h1, h2⟩ := dkOk_iff.1 h
  exact ⟨fun s hs => by have := h1 s hs; omega, fun p hp => by have := (h2 p hp).2.2; omega⟩
theorem szT_mem {l : List ByteArray} {s : ByteArray} (h : s ∈ l) : s.size ≤ szT l := by
  induction l with
  | nil => cases h
  | cons x l ih =>
    have e : szT (x :: l) = 1 + x.size + szT l := by simp [szT]
    rcases List.mem_cons.1 h with rfl | h
    · omega
    · have := ih h; omega
theorem szP_mem {l : List PutD} {p : PutD} (h : p ∈ l) : p.2.size ≤ szP l := by
  induction l with
  | nil => cases h
  | cons x l ih =>
    have e : szP (x :: l) = 1 + x.2.size + szP l := by simp [szP]
    rcases List.mem_cons.1 h with rfl | h
    · omega
    · have := ih h; omega
theorem smD_sz {d : DiskD} (h : szD d ≤ 1048576) : SmD d := by
  have e : szD d = szT d.1 + szP d.2 := rfl
  exact ⟨fun s hs => by have := szT_mem hs; omega, fun p hp => by have := szP_mem hp; omega⟩
end Go.Proofs.YtlidmnehpcodkaaDoor
