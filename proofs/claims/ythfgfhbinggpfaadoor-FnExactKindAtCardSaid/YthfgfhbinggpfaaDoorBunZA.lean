/-
  Own texts, several together.
-/
import Derived.WalkKit
import Derived.ProofKit
import Derived.Deep.QuietTactic
import Derived.BigQuiet
import Derived.Test.YthfgfhbinggpfaaDoorRows
import Derived.Deep.AppendSrc
import Derived.Laws.IdiomStrings
import Derived.Handy
import Derived.Deep.RegionWith
/-
  Own text, plain: what a slice of bytes holds ('Rd'), and the check sum as a function on numbers. Nothing of the program.
-/
namespace Go.Proofs.YthfgfhbinggpfaaDoor
open Go.RowKit

/-- The numbers l lie from the address a on (of nothing nothing is asked). -/
def Rd (k : IntKind) (w : World) (a : Option Addr) (l : List Int) : Prop :=
  l = [] ∨ ∃ b off, a = some ⟨b, off, none⟩ ∧ b < w.heap.size ∧ ∀ i, i < l.length → w.cell? ⟨b, off + i, none⟩ = some (.int k (l.getD i 0))

/-- Each number is a byte. -/
def U8 (l : List Int) : Prop := ∀ n ∈ l, 0 ≤ n ∧ n < 256

theorem U8.at {l : List Int} (h : U8 l) (i : Nat) : 0 ≤ l.getD i 0 ∧ l.getD i 0 < 256 := by
  by_cases hi : i < l.length
  · have := h _ (List.getElem_mem hi); simpa [List.getD, hi] using this
  · have e : l[i]? = none := List.getElem?_eq_none (by omega)
    simp [List.getD, e]

theorem U8.at' {l : List Int} (h : U8 l) (i : Nat) : 0 ≤ l[i]?.getD 0 ∧ l[i]?.getD 0 < 256 := by
  have := h.at i; rwa [List.getD_eq_getElem?_getD] at this

theorem Rd.below {k : IntKind} {B : Nat} {w w' : World} {a : Option Addr} {l : List Int} (h : Rd k w a l) (hb : Below B w w') (hB : w.heap.size ≤ B) : Rd k w' a l := by
  rcases h with h | ⟨b, off, ha, hlt, hc⟩
  · exact .inl h
  · exact .inr ⟨b, off, ha, by have := hb.size; omega, fun i hi => (hb.cell (by exact Nat.lt_of_lt_of_le hlt hB)).trans (hc i hi)⟩

theorem Rd.drewN {k : IntKind} {w : World} {n : Nat} {a : Option Addr} {l : List Int} (h : Rd k w a l) : Rd k (w.drewN n) a l := by
  rcases h with h | ⟨b, off, ha, hlt, hc⟩
  · exact .inl h
  · exact .inr ⟨b, off, ha, by simpa using hlt, fun i hi => by simpa using hc i hi⟩

/-- What a row of the call's own holds can be read. -/
theorem Rd.own {k : IntKind} {w : World} {base : Nat} {e : TypeId} {g n cap : Nat} {l : List Int} (h : w.ownsRow base e 1 (.slice (some ⟨g, 0, none⟩) n cap) n (l.map (Value.int k))) : Rd k w (some ⟨g, 0, none⟩) l := by
  have hl : l.length = n := by have := h.1; simpa using this
  have hg : g < w.heap.size := (h.lt g rfl).2
  refine .inr ⟨g, 0, rfl, hg, fun i hi => ?_⟩
  have := h.cellAt i (by omega)
  rw [Nat.zero_add, this]
  simp [List.getD, hi]

theorem ownsRow_below {w w' : World} {B base : Nat} {e : TypeId} {size : Nat} {v : Value} {n : Nat} {xs : List Value} (h : w.ownsRow base e size v n xs) (hb : Below B w w') (hB : w.heap.size ≤ B) : w'.ownsRow base e size v n xs := by
  refine ⟨h.1, ?_⟩
  rcases h.2 with hn | ⟨g, cap, cur, rfl, hb', hgg, rest⟩
  · exact .inl hn
  · refine .inr ⟨g, cap, cur, rfl, hb', ?_, rest⟩
    rw [hb.block g (by have := (Array.getElem?_eq_some_iff.1 hgg).1; omega)]
    exact hgg

theorem ownsRow_base {w : World} {base base' : Nat} {e : TypeId} {size : Nat} {v : Value} {n : Nat} {xs : List Value} (h : w.ownsRow base e size v n xs) (hb : base' ≤ base) : w.ownsRow base' e size v n xs := by
  refine ⟨h.1, ?_⟩
  rcases h.2 with hn | ⟨g, cap, cur, rfl, hb', rest⟩
  · exact .inl hn
  · exact .inr ⟨g, cap, cur, rfl, Nat.le_trans hb hb', rest⟩

/-- Behind an append of one element onto a row of the call's own. -/
theorem below_append {w wr w1 : World} {B : Nat} {o : Obj} {e : TypeId} {size : Nat} {v : Value} {n : Nat} {xs : List Value} (hbel : Below B w wr) (hB : B ≤ wr.heap.size) (hown : wr.ownsRow B e size v n xs) (hg : (wr.alloc o).grownBy w1 v.ownBlock) : Below B w w1 :=
  (hbel.alloc hB o).grown hg (by simp; omega) (fun k hk => (hown.lt k hk).1)

/-- A value that owns a row of numbers is a slice that reads as these. -/
theorem own_rd {k : IntKind} {w : World} {base : Nat} {e : TypeId} {v : Value} {n : Nat} {l : List Int} (h : w.ownsRow base e 1 v n (l.map (Value.int k))) :
    ∃ a cap, v = .slice a l.length cap ∧ n = l.length ∧ Rd k w a l := by
  have hl : l.length = n := by have := h.1; simpa using this
  rcases h.2 with ⟨rfl, h0⟩ | ⟨g, cap, cur, rfl, _⟩
  · subst h0
    obtain rfl : l = [] := List.eq_nil_of_length_eq_zero hl
    exact ⟨none, 0, rfl, rfl, .inl rfl⟩
  · subst hl
    exact ⟨some ⟨g, 0, none⟩, cap, rfl, rfl, Rd.own h⟩

/-- What the row's frame tells of a slice of bytes that came in, as 'Rd'. -/
theorem rd_of_row {w : World} {a : Option Addr} {len cap : Nat} {zs : List Int}
    (h : (a = none ∧ len = 0 ∧ cap = 0 ∧ zs = []) ∨ ∃ x, a = some x ∧ len ≤ cap ∧ cap ≤ maxLen ∧ zs.length = cap ∧ (∀ i, i < zs.length → w.cell? (x.add i) = some (.int .u8 (zs.getD i 0))) ∧ ∀ n ∈ zs, (Lit.int .u8 n).wf = true) :
    ∃ l : List Int, l.length = len ∧ U8 l ∧ Rd .u8 w a l := by
  rcases h with ⟨_, rfl, _, _⟩ | ⟨x, rfl, hl, hm, hz, hc, hw⟩
  · exact ⟨[], rfl, by intro n hn; simp at hn, .inl rfl⟩
  · refine ⟨zs.take len, by simp; omega, ?_, ?_⟩
    · intro n hn
      have := hw n (List.mem_of_mem_take hn)
      simp [Lit.wf, IntKind.min, IntKind.max, IntKind.bits, IntKind.signed] at this
      omega
    · by_cases h0 : len = 0
      · left; simp [h0]
      · right
        obtain ⟨b, off, spot⟩ := x
        have hc0 := hc 0 (by omega)
        have hspot : spot = none := by simpa [Addr.add] using World.cell?_spot hc0
        subst hspot
        refine ⟨b, off, rfl, World.block_lt_of_cell? w _ hc0, fun i hi => ?_⟩
        simp at hi
        have := hc i (by omega)
        rw [Go.WideShapes.add_plain] at this
        rw [this]
        simp [List.getD, show i < len by omega]

/-! ### The check sum -/
def cstep (x : Nat) : Nat := if x % 2 = 1 then (x / 2) ^^^ 3988292384 else x / 2
def csteps : Nat → Nat → Nat
  | 0, x => x
  | n + 1, x => cstep (csteps n x)
def crcTo (l : List Int) : Nat → Nat
  | 0 => 4294967295
  | k + 1 => csteps 8 (crcTo l k ^^^ (l.getD k 0).toNat)

theorem xor_lt {a b : Nat} (ha : a < 4294967296) (hb : b < 4294967296) : a ^^^ b < 4294967296 := Nat.xor_lt_two_pow (n := 32) ha hb
theorem cstep_lt {x : Nat} (h : x < 4294967296) : cstep x < 4294967296 := by
  unfold cstep; split
  · exact xor_lt (by omega) (by omega)
  · omega
theorem csteps_lt {x : Nat} (h : x < 4294967296) : ∀ n, csteps n x < 4294967296
  | 0 => h
  | n + 1 => cstep_lt (csteps_lt h n)
theorem crcTo_lt {l : List Int} (h : U8 l) : ∀ k, crcTo l k < 4294967296
  | 0 => by unfold crcTo; omega
  | k + 1 => csteps_lt (xor_lt (crcTo_lt h k) (by have := h.at k; omega)) 8

theorem i64_xor_nat (a b : Nat) (ha : a < 4294967296) (hb : b < 4294967296) : bits .xor .i64 (a : Int) (b : Int) = ((a ^^^ b : Nat) : Int) := by
  have hx : a ^^^ b < 2 ^ 32 := Nat.xor_lt_two_pow (by omega) (by omega)
  have h1 : (BitVec.ofInt 64 (a : Int)).toNat = a := by rw [BitVec.ofInt_natCast, BitVec.toNat_ofNat]; omega
  have h2 : (BitVec.ofInt 64 (b : Int)).toNat = b := by rw [BitVec.ofInt_natCast, BitVec.toNat_ofNat]; omega
  have h3 : bits .xor .i64 (a : Int) (b : Int) = IntKind.wrap .i64 ((BitVec.ofInt 64 (a : Int) ^^^ BitVec.ofInt 64 (b : Int)).toNat : Int) := by rfl
  rw [h3, BitVec.toNat_xor, h1, h2, IntKind.wrap_i64]
  omega
theorem i64_xor (a b : Int) (h1 : 0 ≤ a) (h2 : a < 4294967296) (h3 : 0 ≤ b) (h4 : b < 4294967296) : bits .xor .i64 a b = ((a.toNat ^^^ b.toNat : Nat) : Int) := by
  obtain ⟨A, rfl⟩ := Int.eq_ofNat_of_zero_le h1
  obtain ⟨B, rfl⟩ := Int.eq_ofNat_of_zero_le h3
  simpa using i64_xor_nat A B (by omega) (by omega)
end Go.Proofs.YthfgfhbinggpfaaDoor

/-
  Own text, plain: a number as bytes, seven bits each, the low ones first.
-/
namespace Go.Proofs.YthfgfhbinggpfaaDoor
open Go.RowKit

def vlq : Nat → Nat → List Int
  | 0, n => [(n : Int)]
  | f + 1, n => if n < 128 then [(n : Int)] else ((n % 128 + 128 : Nat) : Int) :: vlq f (n / 128)

/-- The bytes of a number, as many as there are; nothing outside its range. -/
def putNum (n : Int) : List Int := if 0 ≤ n ∧ n ≤ 2147483647 then vlq 4 n.toNat else []

theorem vlq_small (f n : Nat) (h : n < 128) : vlq f n = [(n : Int)] := by cases f <;> simp [vlq, h]
theorem vlq_big (f n : Nat) (h : 128 ≤ n) : vlq (f + 1) n = ((n % 128 + 128 : Nat) : Int) :: vlq f (n / 128) := by simp [vlq, show ¬ n < 128 by omega]
theorem vlq_len (f n : Nat) : (vlq f n).length ≤ f + 1 := by
  induction f generalizing n with
  | zero => simp [vlq]
  | succ f ih =>
    by_cases h : n < 128
    · rw [vlq_small _ _ h]; simp
    · rw [vlq_big _ _ (by omega)]; have := ih (n / 128); simp; omega
theorem vlq_u8 (f n : Nat) (h : n < 128 ^ (f + 1)) : U8 (vlq f n) := by
  induction f generalizing n with
  | zero => intro x hx; simp [vlq] at hx h; omega
  | succ f ih =>
    by_cases hn : n < 128
    · rw [vlq_small _ _ hn]; intro x hx; simp at hx; omega
    · rw [vlq_big _ _ (by omega)]
      intro x hx
      rcases List.mem_cons.1 hx with rfl | hx
      · omega
      · refine ih (n / 128) ?_ x hx
        rw [Nat.pow_succ] at h; omega
theorem putNum_len (n : Int) : (putNum n).length ≤ 5 := by unfold putNum; split; exact vlq_len 4 _; simp
theorem putNum_u8 (n : Int) : U8 (putNum n) := by
  unfold putNum; split
  · exact vlq_u8 4 _ (by omega)
  · intro x hx; simp at hx

/-- What a loop that writes a number down has done so far: 'pre' is written, m is left. -/
def Part (N m : Nat) (pre : List Int) : Prop := ∃ f, m < 128 ^ (f + 1) ∧ pre ++ vlq f m = vlq 4 N
theorem Part.start (N : Nat) (h : N ≤ 2147483647) : Part N N [] := ⟨4, by omega, rfl⟩
theorem Part.len {N m : Nat} {pre : List Int} (h : Part N m pre) : pre.length ≤ 5 := by
  obtain ⟨f, _, h⟩ := h
  have := vlq_len 4 N; rw [← h] at this; simp at this; omega
theorem Part.step {N m : Nat} {pre : List Int} (h : Part N m pre) (hm : 128 ≤ m) : Part N (m / 128) (pre ++ [((m : Int) % 128 + 128)]) := by
  obtain ⟨f, hf, h⟩ := h
  cases f with
  | zero => omega
  | succ f =>
    refine ⟨f, by rw [Nat.pow_succ] at hf; omega, ?_⟩
    rw [vlq_big f m hm] at h
    rw [← h]; simp
theorem Part.last {N m : Nat} {pre : List Int} (h : Part N m pre) (hm : m < 128) : pre ++ [(m : Int)] = vlq 4 N := by
  obtain ⟨f, _, h⟩ := h
  rw [vlq_small f m hm] at h; exact h

/-- The marks that the laws lay: k, k + 1, .. as bytes. -/
def marks (k n : Nat) : List Int := (List.range n).map fun i => (((k + i) % 256 : Nat) : Int)
def markTo (l : List Int) (k i : Nat) : List Int := marks k i ++ l.drop i
theorem marks_len (k n : Nat) : (marks k n).length = n := by simp [marks]
theorem markTo_zero (l : List Int) (k : Nat) : markTo l k 0 = l := by simp [markTo, marks]
theorem markTo_all (l : List Int) (k : Nat) : markTo l k l.length = marks k l.length := by simp [markTo]
theorem markTo_len (l : List Int) (k i : Nat) (h : i ≤ l.length) : (markTo l k i).length = l.length := by simp [markTo, marks_len]; omega
theorem markTo_set (l : List Int) (k i : Nat) (h : i < l.length) : (markTo l k i).set i (((k + i) % 256 : Nat) : Int) = markTo l k (i + 1) := by
  unfold markTo
  rw [List.set_append_right _ _ (by rw [marks_len]; exact Nat.le_refl _), marks_len, Nat.sub_self]
  have e : marks k (i + 1) = marks k i ++ [(((k + i) % 256 : Nat) : Int)] := by unfold marks; rw [List.range_succ, List.map_append]; rfl
  rw [e, List.append_assoc, List.drop_eq_getElem_cons h]; rfl
theorem marks_at (k n i : Nat) (h : i < n) : (marks k n).getD i 0 = (((k + i) % 256 : Nat) : Int) := by simp [marks, List.getD, h]
theorem wrap_mark (k i : Nat) : IntKind.u8.wrap ((k : Int) + (i : Int)) = (((k + i) % 256 : Nat) : Int) := by rw [IntKind.wrap_u8]; omega
end Go.Proofs.YthfgfhbinggpfaaDoor

/-
  Own text, plain: which number stands at a place of a row of bytes.
-/
namespace Go.Proofs.YthfgfhbinggpfaaDoor
open Go.RowKit

/-- The number that begins at place p ends with its k-th byte. -/
def Stop (l : List Int) (p k : Nat) : Prop := k < 5 ∧ p + k < l.length ∧ l.getD (p + k) 0 < 128 ∧ ∀ j, j < k → 128 ≤ l.getD (p + j) 0
/-- What the first k bytes from p on come to. -/
def valTo (l : List Int) (p : Nat) : Nat → Nat
  | 0 => 0
  | k + 1 => valTo l p k + (l.getD (p + k) 0).toNat % 128 * 128 ^ k
/-- There is a number at this place: n, and 'next' is the place behind it. -/
def Good (l : List Int) (at' : Int) (n next : Nat) : Prop :=
  ∃ p k : Nat, at' = (p : Int) ∧ Stop l p k ∧ (k = 0 ∨ l.getD (p + k) 0 ≠ 0) ∧ n = valTo l p (k + 1) ∧ n ≤ 2147483647 ∧ next = p + k + 1

theorem Stop.unique {l : List Int} {p k k' : Nat} (h : Stop l p k) (h' : Stop l p k') : k = k' := by
  obtain ⟨_, _, h1, h2⟩ := h
  obtain ⟨_, _, h3, h4⟩ := h'
  rcases Nat.lt_trichotomy k k' with hl | hl | hl
  · have := h4 k hl; omega
  · exact hl
  · have := h2 k' hl; omega
theorem Good.unique {l : List Int} {at' : Int} {n next n' next' : Nat} (h : Good l at' n next) (h' : Good l at' n' next') : n = n' ∧ next = next' := by
  obtain ⟨p, k, hp, hs, _, hn, _, hx⟩ := h
  obtain ⟨p', k', hp', hs', _, hn', _, hx'⟩ := h'
  obtain rfl : p = p' := by omega
  obtain rfl := hs.unique hs'
  exact ⟨by rw [hn, hn'], by rw [hx, hx']⟩
theorem valTo_lt (l : List Int) (p : Nat) : ∀ k, valTo l p k < 128 ^ k
  | 0 => by simp [valTo]
  | k + 1 => by
    have := valTo_lt l p k
    have h2 : (l.getD (p + k) 0).toNat % 128 ≤ 127 := by omega
    have h3 : (l.getD (p + k) 0).toNat % 128 * 128 ^ k ≤ 127 * 128 ^ k := Nat.mul_le_mul_right _ h2
    rw [valTo, Nat.pow_succ]; omega

/-- The bytes from p on, up to the k-th. -/
def cut (l : List Int) (p k : Nat) : List Int := (l.drop p).take (k + 1)

theorem getD_drop (l : List Int) (p j : Nat) : (l.drop p).getD j 0 = l.getD (p + j) 0 := by simp [List.getD]

/-- What the bytes ds come to. -/
def valL : List Int → Nat
  | [] => 0
  | d :: r => d.toNat % 128 + 128 * valL r

theorem valL_snoc (l : List Int) (d : Int) : valL (l ++ [d]) = valL l + d.toNat % 128 * 128 ^ l.length := by
  induction l with
  | nil => simp [valL]
  | cons x r ih => simp [valL, ih, Nat.pow_succ, Nat.mul_add, Nat.mul_comm, Nat.mul_left_comm]; omega

theorem valL_take (l : List Int) (p k : Nat) (h : p + k ≤ l.length) : valL ((l.drop p).take k) = valTo l p k := by
  induction k with
  | zero => simp [valL, valTo]
  | succ k ih =>
    have hk : k < (l.drop p).length := by simp; omega
    rw [List.take_succ_eq_append_getElem hk, valL_snoc, ih (by omega), valTo]
    have e1 : (l.drop p)[k] = l.getD (p + k) 0 := by
      rw [← getD_drop]; simp [List.getD, show p + k < l.length by omega]
    have e2 : ((l.drop p).take k).length = k := by simp; omega
    rw [e1, e2]

/-- A row of bytes, each but the last one from 128 on, the last one below and (if not alone) not 0, is how its number is written. -/
theorem vlq_valL (ds : List Int) (hu : U8 ds) (d : Int) (hd0 : 0 ≤ d) (hd : d < 128) (hhi : ∀ x ∈ ds, 128 ≤ x) (hz : ds = [] ∨ d ≠ 0) :
    ∀ f, ds.length ≤ f → vlq f (valL (ds ++ [d])) = ds ++ [d] := by
  induction ds with
  | nil =>
    intro f _
    simp only [List.nil_append, valL]
    rw [vlq_small _ _ (by omega)]
    simp; omega
  | cons x r ih =>
    intro f hf
    cases f with
    | zero => simp at hf
    | succ f =>
      have hx := hu x (by simp)
      have hx2 := hhi x (by simp)
      have hz' : d ≠ 0 := by rcases hz with h | h; simp at h; exact h
      have hv : 0 < valL (r ++ [d]) := by
        rw [valL_snoc]
        have hp : 0 < 128 ^ r.length := Nat.pow_pos (by omega)
        have : 0 < d.toNat % 128 := by omega
        have := Nat.mul_pos this hp
        omega
      simp only [List.cons_append, valL]
      rw [vlq_big _ _ (by omega)]
      have e1 : (x.toNat % 128 + 128 * valL (r ++ [d])) / 128 = valL (r ++ [d]) := by omega
      have e2 : (((x.toNat % 128 + 128 * valL (r ++ [d])) % 128 + 128 : Nat) : Int) = x := by omega
      rw [e1, e2, ih (fun y hy => hu y (by simp [hy])) (fun y hy => hhi y (by simp [hy])) (.inr hz') f (by simpa using hf)]

/-- Where the last one of several is 0 it is not how the number is written. -/
theorem vlq_last (f n : Nat) (ds : List Int) (h : vlq f n = ds ++ [0]) (hne : ds ≠ []) : False := by
  induction f generalizing n ds with
  | zero =>
    cases ds with
    | nil => exact hne rfl
    | cons x r => simp [vlq] at h
  | succ f ih =>
    cases ds with
    | nil => exact hne rfl
    | cons x r =>
      by_cases hn : n < 128
      · rw [vlq_small _ _ hn] at h; simp at h
      · rw [vlq_big _ _ (by omega)] at h
        simp only [List.cons_append, List.cons.injEq] at h
        cases r with
        | nil =>
          simp at h
          have hq : 0 < n / 128 := by omega
          cases f with
          | zero => simp [vlq] at h; omega
          | succ f =>
            by_cases h2 : n / 128 < 128
            · rw [vlq_small _ _ h2] at h; simp at h; omega
            · rw [vlq_big _ _ (by omega)] at h
              have := h.2
              simp at this
              have hl := this.2
              cases f <;> simp [vlq] at hl
              split at hl <;> simp at hl
        | cons y r => exact ih (n / 128) (y :: r) h.2 (by simp)
end Go.Proofs.YthfgfhbinggpfaaDoor

/-
  Own text, plain: a number that was written is read as it was, wherever it stands; bytes as a text.
-/
namespace Go.Proofs.YthfgfhbinggpfaaDoor
open Go.RowKit

/-- The bytes l as a text. -/
def baOf (l : List Int) : ByteArray := ⟨(l.map fun x => UInt8.ofNat x.toNat).toArray⟩
theorem vlq_shapeP (f n : Nat) (h : n < 128 ^ (f + 1)) : ∃ ds d, vlq f n = ds ++ [d] ∧ (∀ x ∈ ds, 128 ≤ x) ∧ 0 ≤ d ∧ d < 128 ∧ (ds = [] ∨ d ≠ 0) ∧ valL (ds ++ [d]) = n ∧ ds.length ≤ f := by
  induction f generalizing n with
  | zero =>
    refine ⟨[], (n : Int), by simp [vlq], by simp, by omega, by simp at h; omega, .inl rfl, ?_, by simp⟩
    simp at h
    simp [valL]; omega
  | succ f ih =>
    by_cases hn : n < 128
    · refine ⟨[], (n : Int), by rw [vlq_small _ _ hn]; rfl, by simp, by omega, by omega, .inl rfl, ?_, by simp⟩
      simp [valL]; omega
    · obtain ⟨ds, d, h1, h2, h3, h4, h5, h6, h7⟩ := ih (n / 128) (by rw [Nat.pow_succ] at h; omega)
      refine ⟨((n % 128 + 128 : Nat) : Int) :: ds, d, by rw [vlq_big _ _ (by omega), h1]; rfl, ?_, h3, h4, .inr ?_, ?_, by simp; omega⟩
      · intro x hx
        rcases List.mem_cons.1 hx with rfl | hx
        · omega
        · exact h2 x hx
      · rcases h5 with rfl | h5
        · simp [valL] at h6; omega
        · exact h5
      · simp only [List.cons_append, valL, h6]
        omega

theorem getD_midP (pre ds : List Int) (suf : List Int) (j : Nat) (hj : j < ds.length) : (pre ++ ds ++ suf).getD (pre.length + j) 0 = ds.getD j 0 := by
  simp only [List.getD, List.append_assoc]
  rw [List.getElem?_append_right (by omega), List.getElem?_append_left (by omega)]
  congr 2
  omega

theorem good_midP (pre suf : List Int) (n : Nat) (hn : n ≤ 2147483647) : Good (pre ++ putNum n ++ suf) pre.length n (pre.length + (putNum n).length) := by
  have hp : putNum (n : Int) = vlq 4 n := by rw [putNum, if_pos (by omega)]; rfl
  obtain ⟨ds, d, h1, h2, h3, h4, h5, h6, h7⟩ := vlq_shapeP 4 n (by omega)
  rw [hp, h1]
  have hlen : (ds ++ [d]).length = ds.length + 1 := by simp
  have hd : (pre ++ (ds ++ [d]) ++ suf).getD (pre.length + ds.length) 0 = d := by
    rw [getD_midP _ _ _ _ (by omega)]; simp [List.getD]
  have hstop : Stop (pre ++ (ds ++ [d]) ++ suf) pre.length ds.length := by
    refine ⟨by omega, by simp, by rw [hd]; exact h4, fun j hj => ?_⟩
    rw [getD_midP _ _ _ _ (by omega)]
    have e : (ds ++ [d]).getD j 0 = ds[j] := by simp [List.getD, List.getElem?_append_left hj, hj]
    rw [e]; exact h2 _ (List.getElem_mem hj)
  refine ⟨pre.length, ds.length, rfl, hstop, ?_, ?_, hn, by rw [hlen]; omega⟩
  · rw [hd]
    rcases h5 with rfl | h5
    · exact .inl rfl
    · exact .inr h5
  · rw [← valL_take _ _ _ (by simp)]
    have e : ((pre ++ (ds ++ [d]) ++ suf).drop pre.length).take (ds.length + 1) = ds ++ [d] := by
      rw [List.append_assoc, List.drop_left, ← hlen, List.take_left]
    rw [e, h6]

end Go.Proofs.YthfgfhbinggpfaaDoor

/-
  Own text: the two PutNum functions answer a new row that holds 'putNum', and turn nothing that was there.
-/
namespace Go.Proofs.YthfgfhbinggpfaaDoor
open Go.RowKit

theorem Tryd.infoU8 : (Tryd.prog.info? 5).map (fun i => (i.zero, i.size, i.bytes)) = some (some (.int .u8 0), 1, 1) := by kernel_rfl

theorem inY (n : Int) (w : World) (h : 0 ≤ n ∧ n ≤ 2147483647) : Calls Tryd.prog 40 #[.int .i64 n, .int .i64 0, .int .i64 2147483647] w fun e w' => e = .returned (.bool true) ∧ w' = w := by
  obtain ⟨h1, h2⟩ := h
  go_enter Tryd.func40, Tryd.ntmps40
  go_wp2
  go_ret
  exact ⟨rfl, rfl⟩

theorem inN (n : Int) (w : World) (h : ¬ (0 ≤ n ∧ n ≤ 2147483647)) : Calls Tryd.prog 40 #[.int .i64 n, .int .i64 0, .int .i64 2147483647] w fun e w' => e = .returned (.bool false) ∧ w' = w := by
  by_cases h1 : 0 ≤ n
  · have h2 : ¬ n ≤ 2147483647 := fun x => h ⟨h1, x⟩
    clear h
    go_enter Tryd.func40, Tryd.ntmps40
    go_wp2
    go_ret
    exact ⟨rfl, rfl⟩
  · clear h
    go_enter Tryd.func40, Tryd.ntmps40
    go_wp2
    go_ret
    exact ⟨rfl, rfl⟩

set_option maxRecDepth 20000 in
set_option maxHeartbeats 400000 in
theorem implPutNum (n : Int) (w : World) :
    Calls Tryd.prog 103 #[.int .i64 n] w fun e w' => ∃ v, e = .returned v ∧ w'.ownsRow w.heap.size 5 1 v (putNum n).length ((putNum n).map (Value.int .u8)) ∧ Below w.heap.size w w' := by
  obtain ⟨i0, hi, hz0, hz1, hz2⟩ := info_parts Tryd.infoU8
  by_cases hneg : n < 0
  · have hp : Hid (putNum n = []) := by show putNum n = []; unfold putNum; rw [if_neg (by omega)]
    go_enter Tryd.func103, Tryd.ntmps103
    go_wp2
    go_ret
    exact ⟨_, rfl, by rw [hp.out]; exact World.ownsRow_nil _ _ _ _, Below.refl _ _⟩
  · by_cases hbig : 2147483647 < n
    · have hp : Hid (putNum n = []) := by show putNum n = []; unfold putNum; rw [if_neg (by omega)]
      go_enter Tryd.func103, Tryd.ntmps103
      go_wp2
      go_ret
      exact ⟨_, rfl, by rw [hp.out]; exact World.ownsRow_nil _ _ _ _, Below.refl _ _⟩
    · obtain ⟨N, rfl⟩ := Int.eq_ofNat_of_zero_le (show 0 ≤ n by omega)
      have hp : Hid (putNum N = vlq 4 N) := by show putNum N = vlq 4 N; unfold putNum; rw [if_pos (by omega)]; simp
      go_enter Tryd.func103, Tryd.ntmps103
      go_wp2
      go_loopw [0, 3] (fun x v wr => ∃ (m : Nat) (pre : List Int), x = .int .i64 m ∧ Hid (Part N m pre) ∧ m ≤ 2147483647 ∧ wr.ownsRow w.heap.size 5 1 v pre.length (pre.map (Value.int .u8)) ∧ Below w.heap.size w wr) (fun x _ _ => (intOf x).toNat)
      case atStart => exact ⟨N, [], rfl, Part.start N (by omega), by omega, World.ownsRow_nil _ _ _ _, Below.refl _ _⟩
      case round =>
        obtain ⟨m, pre, rfl, HP, hm, hown, hbel⟩ := hrel
        have hpl := HP.out.len
        by_cases h128 : 128 ≤ m
        · go_wp2_with (at_builtin; refine wpList_append_own _ rfl _ _ 94 rfl w.heap.size 5 i0 (.int .u8 0) 1 1 Tryd.underlying94 hi hz0 hz1 hz2 rfl (by decide) _ _ _ rfl (hown.alloc _) ⟨wr.heap.size, 0, none⟩ 1 1 [.int .u8 ((m : Int) % 128 + 128)] rfl rfl ?c1 ?c2 ?c3 ?c4 ?c5 ?_)
          case c1 =>
            intro j u hj
            match j, hj with
            | 0, hj => simp at hj; subst hj; simp [Addr.add]
          case c2 => intro u hu; simp at hu; subst hu; rfl
          case c3 => unfold maxLen; omega
          case c4 => omega
          case c5 => have := hbel.size; simp; omega
          intro v' w1 hown' hgrow _
          have hbel' : Below w.heap.size w w1 := below_append hbel hbel.size hown hgrow
          have HP' : Hid (Part N (m / 128) (pre ++ [((m : Int) % 128 + 128)])) := HP.out.step h128
          clear hgrow hown hbel
          go_wp2
          go_roundw
          case rel => exact ⟨m / 128, pre ++ [((m : Int) % 128 + 128)], by go_num, HP', by omega, by simpa using hown', hbel'⟩
          case measure => simp [intOf]; omega
        · go_wp2_with (at_builtin; refine wpList_append_own _ rfl _ _ 94 rfl w.heap.size 5 i0 (.int .u8 0) 1 1 Tryd.underlying94 hi hz0 hz1 hz2 rfl (by decide) _ _ _ rfl (hown.alloc _) ⟨wr.heap.size, 0, none⟩ 1 1 [.int .u8 (m : Int)] rfl rfl ?d1 ?d2 ?d3 ?d4 ?d5 ?_)
          case d1 =>
            intro j u hj
            match j, hj with
            | 0, hj => simp at hj; subst hj; simp [Addr.add]
          case d2 => intro u hu; simp at hu; subst hu; rfl
          case d3 => unfold maxLen; omega
          case d4 => omega
          case d5 => have := hbel.size; simp; omega
          intro v' w1 hown' hgrow _
          have hbel' : Below w.heap.size w w1 := below_append hbel hbel.size hown hgrow
          have HL : Hid (pre ++ [(m : Int)] = putNum N) := by show _ = _; rw [hp.out]; exact HP.out.last (by omega)
          clear hgrow hown hbel
          go_wp2
          go_ret
          refine ⟨v', rfl, ?_, hbel'⟩
          rw [← HL.out]
          simpa using hown'
set_option maxRecDepth 20000 in
set_option maxHeartbeats 400000 in
theorem specPutNum (n : Int) (w : World) :
    Calls Tryd.prog 106 #[.int .i64 n] w fun e w' => ∃ v, e = .returned v ∧ w'.ownsRow w.heap.size 5 1 v (putNum n).length ((putNum n).map (Value.int .u8)) ∧ Below w.heap.size w w' := by
  obtain ⟨i0, hi, hz0, hz1, hz2⟩ := info_parts Tryd.infoU8
  have ho0 : (w.alloc (.cells #[] 5)).ownsRow w.heap.size 5 1 (.slice (some ⟨w.heap.size, 0, none⟩) 0 0) 0 [] := World.ownsRow_made w #[] 0 (Nat.le_refl _) (Nat.zero_le _) rfl
  have hb0 : Below w.heap.size w (w.alloc (.cells #[] 5)) := (Below.refl _ _).alloc (Nat.le_refl _) _
  by_cases hin : 0 ≤ n ∧ n ≤ 2147483647
  · obtain ⟨N, rfl⟩ := Int.eq_ofNat_of_zero_le hin.1
    have hp : Hid (putNum N = vlq 4 N) := by show putNum N = vlq 4 N; unfold putNum; rw [if_pos hin]; simp
    have hin' := hin.2
    go_enter Tryd.func106, Tryd.ntmps106
    go_wp2_with (go_at_call 40; refine (inY _ _ hin).mono ?_; rintro e w' ⟨rfl, rfl⟩)
    go_loopw [0, 3] (fun x v wr => ∃ (m : Nat) (pre : List Int), x = .int .i64 m ∧ Hid (Part N m pre) ∧ m ≤ 2147483647 ∧ wr.ownsRow w.heap.size 5 1 v pre.length (pre.map (Value.int .u8)) ∧ Below w.heap.size w wr) (fun x _ _ => (intOf x).toNat)
    case atStart => exact ⟨N, [], rfl, Part.start N (by omega), by omega, ho0, hb0⟩
    case round =>
      obtain ⟨m, pre, rfl, HP, hm, hown, hbel⟩ := hrel
      have hpl := HP.out.len
      by_cases h128 : 128 ≤ m
      · go_wp2_with (at_builtin; refine wpList_append_own _ rfl _ _ 94 rfl w.heap.size 5 i0 (.int .u8 0) 1 1 Tryd.underlying94 hi hz0 hz1 hz2 rfl (by decide) _ _ _ rfl (hown.alloc _) ⟨wr.heap.size, 0, none⟩ 1 1 [.int .u8 ((m : Int) % 128 + 128)] rfl rfl ?c1 ?c2 ?c3 ?c4 ?c5 ?_)
        case c1 =>
          intro j u hj
          match j, hj with
          | 0, hj => simp at hj; subst hj; simp [Addr.add]
        case c2 => intro u hu; simp at hu; subst hu; rfl
        case c3 => unfold maxLen; omega
        case c4 => omega
        case c5 => have := hbel.size; simp; omega
        intro v' w1 hown' hgrow _
        have hbel' : Below w.heap.size w w1 := below_append hbel hbel.size hown hgrow
        have HP' : Hid (Part N (m / 128) (pre ++ [((m : Int) % 128 + 128)])) := HP.out.step h128
        clear hgrow hown hbel
        go_wp2
        go_roundw
        case rel => exact ⟨m / 128, pre ++ [((m : Int) % 128 + 128)], by go_num, HP', by omega, by simpa using hown', hbel'⟩
        case measure => simp [intOf]; omega
      · go_wp2_with (at_builtin; refine wpList_append_own _ rfl _ _ 94 rfl w.heap.size 5 i0 (.int .u8 0) 1 1 Tryd.underlying94 hi hz0 hz1 hz2 rfl (by decide) _ _ _ rfl (hown.alloc _) ⟨wr.heap.size, 0, none⟩ 1 1 [.int .u8 (m : Int)] rfl rfl ?d1 ?d2 ?d3 ?d4 ?d5 ?_)
        case d1 =>
          intro j u hj
          match j, hj with
          | 0, hj => simp at hj; subst hj; simp [Addr.add]
        case d2 => intro u hu; simp at hu; subst hu; rfl
        case d3 => unfold maxLen; omega
        case d4 => omega
        case d5 => have := hbel.size; simp; omega
        intro v' w1 hown' hgrow _
        have hbel' : Below w.heap.size w w1 := below_append hbel hbel.size hown hgrow
        have HL : Hid (pre ++ [(m : Int)] = putNum N) := by show _ = _; rw [hp.out]; exact HP.out.last (by omega)
        clear hgrow hown hbel
        go_wp2
        go_ret
        refine ⟨v', rfl, ?_, hbel'⟩
        rw [← HL.out]
        simpa using hown'
  · have hp : Hid (putNum n = []) := by show putNum n = []; unfold putNum; rw [if_neg hin]
    go_enter Tryd.func106, Tryd.ntmps106
    go_wp2_with (go_at_call 40; refine (inN _ _ hin).mono ?_; rintro e w' ⟨rfl, rfl⟩)
    go_ret
    exact ⟨_, rfl, by rw [hp.out]; exact ho0, hb0⟩

end Go.Proofs.YthfgfhbinggpfaaDoor

/-
  Own text: 'append' onto a row of the call's own, from whatever source (a string's bytes, a slice, nothing): one law for the walk.
-/
namespace Go.Proofs.YthfgfhbinggpfaaDoor
open Go.RowKit
section
variable {P : Program} (w : World)

theorem run_append_own_src (base : Nat) (t tx ty e : TypeId) (i : TypeInfo) (z : Value) (size bytes : Nat) (ht : P.underlying t = some (.slice e)) (hi : P.info? e = some i) (hz : i.zero = some z)
    (hsize : i.size = size) (hby : i.bytes = bytes) (hzs : z.cells.size = size)
    (v : Value) (n : Nat) (xs : List Value) (hown : w.ownsRow base e size v n xs)
    (x : Value) (m : Nat) (news : List Value) (hs : Src P size tx x m news w)
    (h63 : n + m ≤ maxLen) (hbytes : (n + m) * bytes ≤ 140737488355328) (hbase : base ≤ w.heap.size) :
    ∃ v' w', (Builtin.append_ #[t, tx] ty #[v, x]).run P w = .ok v' w' ∧ w'.ownsRow base e size v' (n + m) (xs ++ news) ∧ w.grownBy w' v.ownBlock := by
  subst hsize
  subst hby
  have hsmall : n + m ≤ 9223372036854775807 := by simp only [maxLen] at h63; omega
  have hl := hs.newsLen
  have hlen : (xs ++ news).length = (n + m) * i.size := by rw [List.length_append, hown.1, hl, Nat.add_mul]
  have grown : ∀ (old : Nat), old < n + m → ∀ (row : Option Nat),
      (w.drew.alloc (.cells ((xs ++ news).toArray ++ Builtin.zeroCells z.cells (grownCap w (n + m) old e - (n + m))) e)).ownsRow base e i.size
        (.slice (some ⟨w.heap.size, 0, none⟩) (n + m) (grownCap w (n + m) old e)) (n + m) (xs ++ news) ∧
      w.grownBy (w.drew.alloc (.cells ((xs ++ news).toArray ++ Builtin.zeroCells z.cells (grownCap w (n + m) old e - (n + m))) e)) row := by
    intro old ho row
    have hge := grownCap_ge w (n + m) old e
    have hcm : grownCap w (n + m) old e ≤ maxLen := grownCap_le_maxLen w (n + m) old e h63
    refine ⟨⟨hlen, .inr ⟨w.heap.size, _, _, rfl, hbase, heap_alloc_new w.drew _, hge, hcm, ?_, ?_⟩⟩, ⟨rfl, rfl, rfl, by simp, fun k hk _ => _root_.Go.heap_alloc_old w.drew _ hk⟩⟩
    · simp only [Array.size_append, List.size_toArray, size_zeroCells, hzs, hlen, ← Nat.add_mul]
      congr 1
      omega
    · simp only [Array.toList_append]
      rw [← hlen]
      exact List.take_left
  rcases hown.2 with ⟨rfl, rfl⟩ | ⟨g, cap, cur, rfl, hbg, hg, hnc, hcm, hcs, htake⟩
  · have hx : xs = [] := List.eq_nil_of_length_eq_zero (by simpa using hown.1)
    subst hx
    by_cases hm : m = 0
    · subst hm
      have hn : news = [] := List.eq_nil_of_length_eq_zero (by simpa using hl)
      subst hn
      refine ⟨.slice none 0 0, w, ?_, World.ownsRow_nil w base e i.size, ⟨rfl, rfl, rfl, Nat.le_refl _, fun _ _ _ => rfl⟩⟩
      rcases hs.kind with ⟨e', hk⟩ | hk <;> simp [Builtin.append_, run_underlying ht, run_underlying hk, sizeOf, typeInfo, hi, hs.len, hs.cells]
    · have hold : (Builtin.firstCells i.size 0 (.slice none 0 0)).run P w.drew = .ok ([] : List Value).toArray w.drew := run_firstCells_none w.drew i.size 0 0 0
      have hr := run_append_grow_src (P := P) w t tx ty e i z ht hi hz none 0 0 [] hold x m news hs (by omega) (by omega) (growslice_fits (by omega) hbytes)
      have hgr := grown 0 (by omega) (Value.ownBlock (.slice none 0 0))
      simp only [Nat.zero_add, List.nil_append] at hgr hr ⊢
      exact ⟨_, _, hr, hgr.1, hgr.2⟩
  · by_cases hroom : n + m ≤ cap
    · have hfit : n * i.size + news.length ≤ cur.size := by rw [hl, hcs, ← Nat.add_mul]; exact Nat.mul_le_mul_right _ hroom
      have hst := run_storeCells_at P g (n * i.size) e news 0 cur w hg (by simpa using hfit) hs.one
      simp only [Nat.add_zero] at hst
      have hr : (Builtin.append_ #[t, tx] ty #[.slice (some ⟨g, 0, none⟩) n cap, x]).run P w =
          .ok (.slice (some ⟨g, 0, none⟩) (n + m) cap) (w.setRow g (cur.toList.take (n * i.size) ++ news ++ cur.toList.drop (n * i.size + news.length)).toArray) := by
        rcases hs.kind with ⟨e', hk⟩ | hk <;> simp [Builtin.append_, run_underlying ht, run_underlying hk, sizeOf, typeInfo, hi, hs.len, hroom, hs.cells, Addr.add_lit, hst]
      refine ⟨_, _, hr, ⟨hlen, .inr ⟨g, cap, _, rfl, hbg, setRow_heap w g cur _ e _ hg, hroom, hcm, ?_, ?_⟩⟩, ⟨rfl, rfl, rfl, by simp, fun k _ hk => setRow_other w g k _ (fun e => hk (by simp [Value.ownBlock, e]))⟩⟩
      · simp only [List.size_toArray, List.length_append, List.length_take, List.length_drop, Array.length_toList]
        omega
      · rw [htake, ← hlen]
        exact List.take_left
    · have holds : ∀ j u, xs[j]? = some u → w.cell? ((⟨g, 0, none⟩ : Addr).add j) = some u := hown.cells (g := g) rfl
      have hold : (Builtin.firstCells i.size n (.slice (some ⟨g, 0, none⟩) n cap)).run P w.drew = .ok xs.toArray w.drew := run_firstCells_some w.drew i.size n ⟨g, 0, none⟩ n cap xs hown.1 (by simpa using holds)
      have hr := run_append_grow_src (P := P) w t tx ty e i z ht hi hz (some ⟨g, 0, none⟩) n cap xs hold x m news hs (by omega) (by omega) (growslice_fits (by omega) hbytes)
      have hgr := grown cap (by omega) (Value.ownBlock (.slice (some ⟨g, 0, none⟩) n cap))
      exact ⟨_, _, hr, hgr.1, hgr.2⟩

theorem wpList_append_own_src {ops : Array Oper} {rest : List Oper} {o : Oper} {a : Act} {Q : Exit → Act → World → Prop} (hgd : o.guard = none) (s x : Operand) (t tx : TypeId)
    (ho : o.op = .call { callee := .builtin .append, args := #[s, x], argTypes := #[t, tx] })
    (base : Nat) (e : TypeId) (i : TypeInfo) (z : Value) (size bytes : Nat) (ht : P.underlying t = some (.slice e)) (hi : P.info? e = some i) (hz : i.zero = some z)
    (hsize : i.size = size) (hby : i.bytes = bytes) (hzs : z.cells.size = size)
    (v : Value) (n : Nat) (xs : List Value) (hs : a.eval s = v) (hown : w.ownsRow base e size v n xs)
    (xv : Value) (m : Nat) (news : List Value) (hx : a.eval x = xv) (hsrc : Src P size tx xv m news w)
    (h63 : n + m ≤ maxLen) (hbytes : (n + m) * bytes ≤ 140737488355328) (hbase : base ≤ w.heap.size)
    (h : ∀ v' w', w'.ownsRow base e size v' (n + m) (xs ++ news) → w.grownBy w' v.ownBlock → wpList P ops Q rest (a.put o.dst v') w') : wpList P ops Q (o :: rest) a w := by
  refine wpList_plain hgd fun K hK => ?_
  obtain ⟨v', w', hr, h2, h3⟩ := run_append_own_src (P := P) w base t tx o.type e i z size bytes ht hi hz hsize hby hzs v n xs hown xv m news hsrc h63 hbytes hbase
  unfold Oper.wp execOp
  simp only [ho, resolve, invoke, builtin, Sem.run_bind, Sem.run_pure, Result.andThen_ok, List.map_toArray, List.map_cons, List.map_nil, hs, hx, hr]
  exact hK _ _ (h v' w' h2 h3)
end
end Go.Proofs.YthfgfhbinggpfaaDoor

/-
  Own text: the two PutText functions answer a new row that holds the length and the bytes, and turn nothing that was there.
-/
namespace Go.Proofs.YthfgfhbinggpfaaDoor
open Go.RowKit

/-- A string's bytes, as numbers. -/
def bytesOf (s : ByteArray) : List Int := s.data.toList.map fun b => (b.toNat : Int)
theorem bytesOf_len (s : ByteArray) : (bytesOf s).length = s.size := by simp [bytesOf]
theorem bytesOf_u8 (s : ByteArray) : U8 (bytesOf s) := by
  intro n hn
  obtain ⟨b, _, rfl⟩ := List.mem_map.1 hn
  have := b.toNat_lt; omega
theorem byteCells_eq (s : ByteArray) : byteCells s = (bytesOf s).map (Value.int .u8) := by simp [byteCells, bytesOf]
def putText (s : ByteArray) : List Int := putNum (s.size : Int) ++ bytesOf s
theorem putText_u8 (s : ByteArray) : U8 (putText s) := by
  intro n hn
  rcases List.mem_append.1 hn with h | h
  · exact putNum_u8 _ n h
  · exact bytesOf_u8 s n h
theorem putText_len (s : ByteArray) : (putText s).length ≤ s.size + 5 := by
  have := putNum_len (s.size : Int); simp [putText, bytesOf_len]; omega

set_option maxRecDepth 20000 in
set_option maxHeartbeats 400000 in
theorem implPutText (s : ByteArray) (w : World) (hs : s.size ≤ 1048576) :
    Calls Tryd.prog 104 #[.string s] w fun e w' => ∃ v, e = .returned v ∧ w'.ownsRow w.heap.size 5 1 v (putText s).length ((putText s).map (Value.int .u8)) ∧ Below w.heap.size w w' := by
  obtain ⟨i0, hi, hz0, hz1, hz2⟩ := info_parts Tryd.infoU8
  go_enter Tryd.func104, Tryd.ntmps104
  go_wp2_with fail
  refine (implPutNum s.size _).mono ?_
  rintro e w1 ⟨v1, rfl, ho1, hb1⟩
  have hpl := putNum_len (s.size : Int)
  go_wp2_with (at_builtin; refine wpList_append_own_src _ rfl _ _ 94 9 rfl w.heap.size 5 i0 (.int .u8 0) 1 1 Tryd.underlying94 hi hz0 hz1 hz2 rfl _ _ _ rfl ho1 _ s.size (byteCells s) rfl (Src.ofString _ Tryd.underlying9 s) (by unfold maxLen; omega) (by omega) hb1.size ?_)
  intro v' w2 ho2 hg2
  have hb2 : Below w.heap.size w w2 := hb1.grown hg2 hb1.size (fun k hk => (ho1.lt k hk).1)
  clear hg2
  go_wp2
  go_ret
  refine ⟨_, rfl, ?_, hb2⟩
  rw [byteCells_eq, ← List.map_append] at ho2
  rw [show (putText s).length = (putNum (s.size : Int)).length + s.size by simp [putText, bytesOf_len]]
  exact ho2

set_option maxRecDepth 20000 in
set_option maxHeartbeats 400000 in
theorem specPutText (s : ByteArray) (w : World) (hs : s.size ≤ 1048576) :
    Calls Tryd.prog 105 #[.string s] w fun e w' => ∃ v, e = .returned v ∧ w'.ownsRow w.heap.size 5 1 v (putText s).length ((putText s).map (Value.int .u8)) ∧ Below w.heap.size w w' := by
  obtain ⟨i0, hi, hz0, hz1, hz2⟩ := info_parts Tryd.infoU8
  go_enter Tryd.func105, Tryd.ntmps105
  go_wp2_with fail
  refine (specPutNum s.size _).mono ?_
  rintro e w1 ⟨v1, rfl, ho1, hb1⟩
  have hpl := putNum_len (s.size : Int)
  have hcv := run_bytes_of_string (P := Tryd.prog) w1 9 94 5 s Tryd.underlying9 Tryd.underlying94 Tryd.underlying5
  generalize hcap : grownCap w1 s.size 0 5 = cap at hcv
  generalize hW : w1.drew.alloc (.cells (bytesRow s cap) 5 ((bytesRow s cap).size, (bytesRow s cap).size + 1)) = W at hcv
  have hcells : ∀ j u, (byteCells s)[j]? = some u → W.cell? ((⟨w1.heap.size, 0, none⟩ : Addr).add j) = some u := by
    intro j u hu
    have hj : j < s.data.size := by
      have := (List.getElem?_eq_some_iff.1 hu).1
      rw [byteCells_length] at this
      exact this
    have e1 : W.heap[w1.heap.size]? = some (.cells (bytesRow s cap) 5 ((bytesRow s cap).size, (bytesRow s cap).size + 1)) := by rw [← hW]; exact heap_alloc_new w1.drew _
    rw [Addr.add_lit, Nat.zero_add, cell_of_row W w1.heap.size j _ _ _ e1, bytesRow_at s cap j hj]
    rw [← hu, byteCells]
    simp [Array.getElem?_eq_getElem hj]
  have hsrc : Src Tryd.prog 1 94 (.slice (some ⟨w1.heap.size, 0, none⟩) s.size cap) s.size (byteCells s) W :=
    Src.ofSlice W Tryd.underlying94 _ _ _ _ (by rw [byteCells_length, Nat.mul_one]) hcells (fun u hu => by obtain ⟨_, _, rfl⟩ := List.mem_map.1 hu; rfl)
  have hbW : Below w1.heap.size w1 W := by rw [← hW]; exact (Below.refl _ _).drew.alloc (Nat.le_refl _) _
  have hoW := ownsRow_below ho1 hbW (Nat.le_refl _)
  have hb2 : Below w.heap.size w W := hb1.trans (hbW.mono hb1.size)
  clear hW hcap hcells hbW ho1 hb1
  go_wp2_with (at_builtin; refine wpList_append_own_src _ rfl _ _ 94 94 rfl w.heap.size 5 i0 (.int .u8 0) 1 1 Tryd.underlying94 hi hz0 hz1 hz2 rfl _ _ _ rfl hoW _ s.size (byteCells s) rfl hsrc (by unfold maxLen; omega) (by omega) hb2.size ?_)
  intro v' w2 ho2 hg2
  have hb3 : Below w.heap.size w w2 := hb2.grown hg2 hb2.size (fun k hk => (hoW.lt k hk).1)
  clear hg2
  go_wp2
  go_ret
  refine ⟨_, rfl, ?_, hb3⟩
  rw [byteCells_eq, ← List.map_append] at ho2
  rw [show (putText s).length = (putNum (s.size : Int)).length + s.size by simp [putText, bytesOf_len]]
  exact ho2
end Go.Proofs.YthfgfhbinggpfaaDoor

/-
  Own text, plain: decimal digits, rows of texts, the marks that the laws lay into them.
-/
namespace Go.Proofs.YthfgfhbinggpfaaDoor
open Go.RowKit

def dec : Nat → Nat → List UInt8
  | 0, _ => []
  | f + 1, k => if k = 0 then [] else dec f (k / 10) ++ [UInt8.ofNat (48 + k % 10)]
theorem dec_len (f k : Nat) : (dec f k).length ≤ f := by
  induction f generalizing k with
  | zero => simp [dec]
  | succ f ih =>
    unfold dec; split
    · simp
    · have := ih (k / 10); simp; omega
theorem dec_zero (f : Nat) : dec f 0 = [] := by cases f <;> simp [dec]
theorem dec_succ (f k : Nat) (h : 0 < k) : dec (f + 1) k = dec f (k / 10) ++ [UInt8.ofNat (48 + k % 10)] := by
  rw [dec, if_neg (by omega)]

/-- What a loop that writes digits has done so far: m is left, l is written. -/
def DecPart (K m : Nat) (l : List UInt8) : Prop := ∃ f, m < 10 ^ f ∧ dec f m ++ l = dec 20 K
theorem DecPart.start (K : Nat) (h : K < 10 ^ 20) : DecPart K K [] := ⟨20, h, by simp⟩
theorem DecPart.len {K m : Nat} {l : List UInt8} (h : DecPart K m l) : l.length ≤ 20 := by
  obtain ⟨f, _, h⟩ := h
  have := dec_len 20 K; rw [← h] at this; simp at this; omega
theorem DecPart.step {K m : Nat} {l : List UInt8} (h : DecPart K m l) (hm : 0 < m) : DecPart K (m / 10) (UInt8.ofNat (48 + m % 10) :: l) := by
  obtain ⟨f, hf, h⟩ := h
  cases f with
  | zero => simp at hf; omega
  | succ f =>
    refine ⟨f, by rw [Nat.pow_succ] at hf; omega, ?_⟩
    rw [dec_succ f m hm] at h
    rw [← h]; simp
theorem DecPart.last {K : Nat} {l : List UInt8} (h : DecPart K 0 l) : l = dec 20 K := by
  obtain ⟨f, _, h⟩ := h
  rw [dec_zero] at h; simpa using h

/-- The k-th mark. -/
def markS (k : Nat) : ByteArray := ⟨(109 :: (if k = 0 then [48] else dec 20 k)).toArray⟩
theorem markS_size (k : Nat) : (markS k).size ≤ 21 := by
  have := dec_len 20 k
  unfold markS; split <;> simp [ByteArray.size]; omega

def marksS (k n : Nat) : List ByteArray := (List.range n).map fun i => markS (k + i)
def markToS (l : List ByteArray) (k i : Nat) : List ByteArray := marksS k i ++ l.drop i
theorem marksS_len (k n : Nat) : (marksS k n).length = n := by simp [marksS]
theorem markToS_zero (l : List ByteArray) (k : Nat) : markToS l k 0 = l := by simp [markToS, marksS]
theorem markToS_all (l : List ByteArray) (k : Nat) : markToS l k l.length = marksS k l.length := by simp [markToS]
theorem markToS_len (l : List ByteArray) (k i : Nat) (h : i ≤ l.length) : (markToS l k i).length = l.length := by simp [markToS, marksS_len]; omega
theorem markToS_set (l : List ByteArray) (k i : Nat) (h : i < l.length) : (markToS l k i).set i (markS (k + i)) = markToS l k (i + 1) := by
  unfold markToS
  rw [List.set_append_right _ _ (by rw [marksS_len]; exact Nat.le_refl _), marksS_len, Nat.sub_self]
  have e : marksS k (i + 1) = marksS k i ++ [markS (k + i)] := by unfold marksS; rw [List.range_succ, List.map_append]; rfl
  rw [e, List.append_assoc, List.drop_eq_getElem_cons h]; rfl
theorem marksS_at (k n i : Nat) (h : i < n) : (marksS k n)[i]? = some (markS (k + i)) := by simp [marksS, h]

/-- The texts l lie from the address a on. -/
def RdS (w : World) (a : Option Addr) (l : List ByteArray) : Prop :=
  l = [] ∨ ∃ b off, a = some ⟨b, off, none⟩ ∧ b < w.heap.size ∧ ∀ i (h : i < l.length), w.cell? ⟨b, off + i, none⟩ = some (.string l[i])
theorem RdS.below {B : Nat} {w w' : World} {a : Option Addr} {l : List ByteArray} (h : RdS w a l) (hb : Below B w w') (hB : w.heap.size ≤ B) : RdS w' a l := by
  rcases h with h | ⟨b, off, ha, hlt, hc⟩
  · exact .inl h
  · exact .inr ⟨b, off, ha, by have := hb.size; omega, fun i hi => (hb.cell (by exact Nat.lt_of_lt_of_le hlt hB)).trans (hc i hi)⟩
theorem own_rdS {w : World} {base : Nat} {e : TypeId} {v : Value} {n : Nat} {l : List ByteArray} (h : w.ownsRow base e 1 v n (l.map Value.string)) :
    ∃ a cap, v = .slice a l.length cap ∧ n = l.length ∧ RdS w a l := by
  have hl : l.length = n := by have := h.1; simpa using this
  rcases h.2 with ⟨rfl, h0⟩ | ⟨g, cap, cur, rfl, _⟩
  · subst h0
    obtain rfl : l = [] := List.eq_nil_of_length_eq_zero hl
    exact ⟨none, 0, rfl, rfl, .inl rfl⟩
  · subst hl
    refine ⟨some ⟨g, 0, none⟩, cap, rfl, rfl, .inr ⟨g, 0, rfl, (h.lt g rfl).2, fun i hi => ?_⟩⟩
    rw [Nat.zero_add, h.cellAt i (by omega)]
    simp [hi]
end Go.Proofs.YthfgfhbinggpfaaDoor

/-
  Own text, plain: rows of small structs that hold no row themselves: what can be read, what is owned; what a step leaves alone. Nothing of the program.
-/
namespace Go.Proofs.YthfgfhbinggpfaaDoor
open Go.RowKit

/-- Nothing that was there has turned but blocks in S. -/
structure Only (S : Nat → Prop) (w w' : World) : Prop where
  os : w'.os = w.os
  tape : w'.tape = w.tape
  output : w'.output = w.output
  size : w.heap.size ≤ w'.heap.size
  block : ∀ k, k < w.heap.size → ¬ S k → w'.heap[k]? = w.heap[k]?

theorem Only.refl (S : Nat → Prop) (w : World) : Only S w w := ⟨rfl, rfl, rfl, Nat.le_refl _, fun _ _ _ => rfl⟩
theorem Only.trans {S : Nat → Prop} {a b c : World} (h : Only S a b) (k : Only S b c) : Only S a c :=
  ⟨k.os.trans h.os, k.tape.trans h.tape, k.output.trans h.output, Nat.le_trans h.size k.size, fun i hi hs => (k.block i (Nat.lt_of_lt_of_le hi h.size) hs).trans (h.block i hi hs)⟩
theorem Only.mono {S T : Nat → Prop} {w w' : World} (h : Only S w w') (hst : ∀ k, k < w.heap.size → S k → T k) : Only T w w' :=
  ⟨h.os, h.tape, h.output, h.size, fun k hk hn => h.block k hk (fun hs => hn (hst k hk hs))⟩
theorem Only.of_below {B : Nat} {w w' : World} (h : Below B w w') : Only (fun k => B ≤ k) w w' :=
  ⟨h.os, h.tape, h.output, h.size, fun k _ hn => h.block k (by omega)⟩
/-- What makes new memory alone turns nothing. -/
theorem Only.of_new {S : Nat → Prop} {w w' : World} (h : Below w.heap.size w w') : Only S w w' :=
  ⟨h.os, h.tape, h.output, h.size, fun k hk _ => h.block k hk⟩
theorem Only.below {S : Nat → Prop} {B : Nat} {w w' : World} (h : Only S w w') (hB : B ≤ w.heap.size) (hs : ∀ k, S k → B ≤ k) : Below B w w' :=
  ⟨h.os, h.tape, h.output, h.size, fun k hk => h.block k (by omega) (fun e => by have := hs k e; omega)⟩
theorem Only.of_grown {w w' : World} {row : Option Nat} (h : w.grownBy w' row) : Only (fun k => row = some k) w w' :=
  ⟨h.os, h.tape, h.output, h.size, fun k hk hn => h.block k hk (fun e => hn e.symm)⟩
theorem Only.setCell {S : Nat → Prop} {a w : World} (h : Only S a w) {p : Addr} (hp : S p.block) (u : Value) : Only S a (w.setCell p u) :=
  h.trans ⟨rfl, rfl, rfl, by simp [World.setCell], fun k _ hn => Below.heap_setCell _ _ _ _ (fun e => hn (e ▸ hp))⟩
theorem Only.cell {S : Nat → Prop} {w w' : World} (h : Only S w w') {p : Addr} (hlt : p.block < w.heap.size) (hp : ¬ S p.block) : w'.cell? p = w.cell? p := World.cell?_of_block (w := w) (h.block p.block hlt hp)

theorem own_only {S : Nat → Prop} {w w' : World} {base : Nat} {e : TypeId} {size : Nat} {v : Value} {n : Nat} {xs : List Value} (h : w.ownsRow base e size v n xs) (ho : Only S w w') (hs : ∀ k, v.ownBlock = some k → ¬ S k) : w'.ownsRow base e size v n xs := by
  refine ⟨h.1, ?_⟩
  rcases h.2 with hn | ⟨g, cap, cur, rfl, hb', hgg, rest⟩
  · exact .inl hn
  · refine .inr ⟨g, cap, cur, rfl, hb', ?_, rest⟩
    rw [ho.block g (Array.getElem?_eq_some_iff.1 hgg).1 (hs g rfl)]
    exact hgg
/-- Rows of two makes lie apart. -/
theorem own_apart {w : World} {base base' : Nat} {e e' : TypeId} {size size' : Nat} {v v' : Value} {n n' : Nat} {xs xs' : List Value} (h : w.ownsRow base e size v n xs) (h' : w.ownsRow base' e' size' v' n' xs') (hne : e ≠ e') : ∀ k, v.ownBlock = some k → ¬ v'.ownBlock = some k := by
  intro k hk hk'
  rcases h.2 with ⟨rfl, _⟩ | ⟨g, cap, cur, rfl, _, hg, _⟩
  · cases hk
  · rcases h'.2 with ⟨rfl, _⟩ | ⟨g', cap', cur', rfl, _, hg', _⟩
    · cases hk'
    · cases hk
      cases hk'
      rw [hg] at hg'
      cases hg'
      exact hne rfl

/-! ### Rows of small structs -/
section
variable {α : Type} (enc : α → List Value) (sz : Nat)

/-- The structs l lie from the address a on. -/
def RdF (w : World) (a : Option Addr) (l : List α) : Prop :=
  l = [] ∨ ∃ b off, a = some ⟨b, off, none⟩ ∧ b < w.heap.size ∧ ∀ i (h : i < l.length) j, j < sz → w.cell? ⟨b, off + i * sz + j, none⟩ = (enc l[i])[j]?
variable {enc sz}
theorem RdF.below {B : Nat} {w w' : World} {a : Option Addr} {l : List α} (h : RdF enc sz w a l) (hb : Below B w w') (hB : w.heap.size ≤ B) : RdF enc sz w' a l := by
  rcases h with h | ⟨b, off, ha, hlt, hc⟩
  · exact .inl h
  · exact .inr ⟨b, off, ha, by have := hb.size; omega, fun i hi j hj => (hb.cell (by exact Nat.lt_of_lt_of_le hlt hB)).trans (hc i hi j hj)⟩
theorem RdF.at {w : World} {a : Option Addr} {l : List α} (h : RdF enc sz w a l) (k : Nat) (hk : k < l.length) : ∃ b off, a = some ⟨b, off, none⟩ ∧ b < w.heap.size ∧ ∀ j, j < sz → w.cell? ⟨b, off + k * sz + j, none⟩ = (enc l[k])[j]? := by
  rcases h with rfl | ⟨b, off, rfl, hlt, hc⟩
  · simp at hk
  · exact ⟨b, off, rfl, hlt, hc k hk⟩
theorem flat_len_c (hsz : ∀ x, (enc x).length = sz) (l : List α) : (l.flatMap enc).length = l.length * sz := by
  induction l with
  | nil => simp
  | cons x l ih => rw [List.flatMap_cons, List.length_append, ih, hsz, List.length_cons, Nat.add_mul]; omega
theorem flat_get (hsz : ∀ x, (enc x).length = sz) : ∀ (l : List α) (i : Nat) (h : i < l.length) (j : Nat), j < sz → (l.flatMap enc)[i * sz + j]? = (enc l[i])[j]?
  | x :: l, 0, _, j, hj => by
    rw [List.flatMap_cons, List.getElem?_append_left (by rw [hsz]; omega)]
    simp
  | x :: l, i + 1, h, j, hj => by
    rw [List.flatMap_cons, List.getElem?_append_right (by rw [hsz, Nat.add_mul]; omega), hsz]
    have := flat_get hsz l i (by simpa using h) j hj
    rw [show (i + 1) * sz + j - sz = i * sz + j by rw [Nat.add_mul]; omega, this]
    simp
theorem flat_set (hsz : ∀ x, (enc x).length = sz) : ∀ (l : List α) (i : Nat) (h : i < l.length) (j : Nat) (y : α) (u : Value), j < sz → enc y = (enc l[i]).set j u → (l.flatMap enc).set (i * sz + j) u = (l.set i y).flatMap enc
  | x :: l, 0, _, j, y, u, hj, he => by
    rw [List.flatMap_cons, List.set_append_left _ _ (by rw [hsz]; omega)]
    simp at he ⊢
    exact he.symm
  | x :: l, i + 1, h, j, y, u, hj, he => by
    rw [List.flatMap_cons, List.set_append_right _ _ (by rw [hsz, Nat.add_mul]; omega), hsz, show (i + 1) * sz + j - sz = i * sz + j by rw [Nat.add_mul]; omega]
    rw [flat_set hsz l i (by simpa using h) j y u hj (by simpa using he)]
    simp
/-- A value that owns a row of such structs is a slice that reads as these. -/
theorem own_rdF (hsz : ∀ x, (enc x).length = sz) {w : World} {base : Nat} {e : TypeId} {v : Value} {n : Nat} {l : List α} (h : w.ownsRow base e sz v n (l.flatMap enc)) (hn : l.length = n) :
    ∃ a cap, v = .slice a n cap ∧ n ≤ cap ∧ RdF enc sz w a l := by
  rcases h.2 with ⟨rfl, h0⟩ | ⟨g, cap, cur, rfl, _, _, hc, _⟩
  · subst h0
    obtain rfl : l = [] := List.eq_nil_of_length_eq_zero hn
    exact ⟨none, 0, rfl, Nat.le_refl _, .inl rfl⟩
  · refine ⟨some ⟨g, 0, none⟩, cap, rfl, hc, .inr ⟨g, 0, rfl, (h.lt g rfl).2, fun i hi j hj => ?_⟩⟩
    rw [Nat.zero_add, h.cellAt (i * sz + j) (by
      have : (i + 1) * sz ≤ n * sz := Nat.mul_le_mul_right _ (by omega)
      rw [Nat.add_mul] at this; omega)]
    exact flat_get hsz l i hi j hj
end

/-! ### A struct variable of the call's own -/
/-- The cells C lie in block P, all of them its own. -/
def Var (w : World) (P : Nat) (C : Array Value) (t : TypeId) : Prop := w.heap[P]? = some (.cells C t (0, 0))
theorem Var.cell {w : World} {P : Nat} {C : Array Value} {t : TypeId} (h : Var w P C t) (j : Nat) : w.cell? ⟨P, j, none⟩ = C[j]? := cell_of_row w P j _ _ _ h
theorem Var.lt {w : World} {P : Nat} {C : Array Value} {t : TypeId} (h : Var w P C t) : P < w.heap.size := (Array.getElem?_eq_some_iff.1 h).1
theorem Var.frozen {w : World} {P : Nat} {C : Array Value} {t : TypeId} (h : Var w P C t) (j : Nat) : w.frozen? ⟨P, j, none⟩ = false := by
  have h' : w.heap[P]? = some (.cells C t (0, 0)) := h
  simp [World.frozen?, h']
theorem Var.set {w : World} {P : Nat} {C : Array Value} {t : TypeId} (h : Var w P C t) (j : Nat) (u : Value) : Var (w.setCell ⟨P, j, none⟩ u) P (C.setIfInBounds j u) t := heap_setCell_same w P j C t u h
theorem Var.other {w : World} {P Q : Nat} {C : Array Value} {t : TypeId} (h : Var w P C t) (hne : P ≠ Q) (j : Nat) (u : Value) : Var (w.setCell ⟨Q, j, none⟩ u) P C t := by
  show (w.setCell ⟨Q, j, none⟩ u).heap[P]? = _
  rw [Below.heap_setCell _ _ _ _ hne]
  exact h
theorem Var.below {B : Nat} {w w' : World} {P : Nat} {C : Array Value} {t : TypeId} (h : Var w P C t) (hb : Below B w w') (hP : P < B) : Var w' P C t := by
  show w'.heap[P]? = _
  rw [hb.block P hP]
  exact h
theorem Var.new {w w' : World} {P : Nat} {C : Array Value} {t : TypeId} (h : Var w P C t) (hb : Below w.heap.size w w') : Var w' P C t := h.below hb h.lt
theorem Var.alloc {w : World} {P : Nat} {C : Array Value} {t : TypeId} (h : Var w P C t) (o : Obj) : Var (w.alloc o) P C t := h.new ((Below.refl _ _).alloc (Nat.le_refl _) o)
theorem Var.only {S : Nat → Prop} {w w' : World} {P : Nat} {C : Array Value} {t : TypeId} (h : Var w P C t) (ho : Only S w w') (hP : ¬ S P) : Var w' P C t := by
  show w'.heap[P]? = _
  rw [ho.block P h.lt hP]
  exact h
theorem Var.made (w : World) (C : Array Value) (t : TypeId) : Var (w.alloc (.cells C t)) w.heap.size C t := heap_alloc_new w _
theorem Var.made2 (w : World) (a : Obj) (C : Array Value) (t : TypeId) : Var ((w.alloc a).alloc (.cells C t)) (w.heap.size + 1) C t := by
  have h := Var.made (w.alloc a) C t
  rwa [show (w.alloc a).heap.size = w.heap.size + 1 by simp] at h
theorem Var.made3 (w : World) (a b : Obj) (C : Array Value) (t : TypeId) : Var (((w.alloc a).alloc b).alloc (.cells C t)) (w.heap.size + 1 + 1) C t := by
  have h := Var.made2 (w.alloc a) b C t
  rwa [show (w.alloc a).heap.size = w.heap.size + 1 by simp] at h

theorem own_set {w : World} {base : Nat} {e : TypeId} {size : Nat} {v : Value} {n : Nat} {xs : List Value} (h : w.ownsRow base e size v n xs) {Q : Nat} (hQ : Q < base) (j : Nat) (u : Value) : (w.setCell ⟨Q, j, none⟩ u).ownsRow base e size v n xs :=
  own_only (S := fun k => k = Q) h (Only.setCell (S := fun k => k = Q) (Only.refl _ _) (p := ⟨Q, j, none⟩) rfl u) (fun k hk => by have := (h.lt k hk).1; omega)

theorem below3 (w : World) (a b c : Obj) : Below w.heap.size w (((w.alloc a).alloc b).alloc c) :=
  (((Below.refl _ _).alloc (Nat.le_refl _) a).alloc (by simp) b).alloc (by simp; omega) c
theorem below2 (w : World) (a b : Obj) : Below w.heap.size w ((w.alloc a).alloc b) :=
  ((Below.refl _ _).alloc (Nat.le_refl _) a).alloc (by simp) b
theorem below1 (w : World) (a : Obj) : Below w.heap.size w (w.alloc a) := (Below.refl _ _).alloc (Nat.le_refl _) a
end Go.Proofs.YthfgfhbinggpfaaDoor

/-
  Own text: the laws' helpers over one write (a place and a text): a copy, its size, alike.
-/
namespace Go.Proofs.YthfgfhbinggpfaaDoor
open Go.RowKit

/-- A write: a place and a text. -/
abbrev PutD := Int × ByteArray
def encP (p : PutD) : List Value := [.int .i64 p.1, .string p.2]
def aggP (p : PutD) : Value := .agg #[.int .i64 p.1, .string p.2]
theorem encP_len (p : PutD) : (encP p).length = 2 := rfl

theorem putAt (l : List PutD) (i : Nat) (h : i < l.length) (n : Int) : (l.flatMap encP).set (i * 2) (.int .i64 n) = (l.set i (n, l[i].2)).flatMap encP := by
  have := flat_set encP_len l i h 0 (n, l[i].2) (.int .i64 n) (by omega) rfl
  simpa using this
theorem putData (l : List PutD) (i : Nat) (h : i < l.length) (s : ByteArray) : (l.flatMap encP).set (i * 2 + 1) (.string s) = (l.set i (l[i].1, s)).flatMap encP :=
  flat_set encP_len l i h 1 (l[i].1, s) (.string s) (by omega) rfl
theorem putBoth (l : List PutD) (i : Nat) (h : i < l.length) (n : Int) (s : ByteArray) : ((l.flatMap encP).set (i * 2) (.int .i64 n)).set (i * 2 + 1) (.string s) = (l.set i (n, s)).flatMap encP := by
  rw [putAt l i h, putData _ i (by simpa using h)]
  simp
theorem putCells {l : List PutD} {i : Nat} (h : i < l.length) : (l.flatMap encP)[i * 2]? = some (.int .i64 l[i].1) ∧ (l.flatMap encP)[i * 2 + 1]? = some (.string l[i].2) := by
  have e0 := flat_get encP_len l i h 0 (by omega)
  have e1 := flat_get encP_len l i h 1 (by omega)
  exact ⟨by simpa [encP] using e0, by simpa [encP] using e1⟩

theorem made_flat {α : Type} {enc : α → List Value} {sz : Nat} (hsz : ∀ x, (enc x).length = sz) (z : α) (zc : Array Value) (hz : zc.toList = enc z) (hpos : 0 < sz) (n : Nat) : (madeCells zc (n * sz)).toList = (List.replicate n z).flatMap enc := by
  have hzs : zc.size = sz := by rw [← Array.length_toList, hz, hsz]
  apply List.ext_getElem?
  intro k
  by_cases hk : k < n * sz
  · have hq : k / sz < n := Nat.div_lt_of_lt_mul (by rw [Nat.mul_comm]; exact hk)
    have e := flat_get hsz (List.replicate n z) (k / sz) (by simpa using hq) (k % sz) (Nat.mod_lt _ hpos)
    rw [show k / sz * sz + k % sz = k by rw [Nat.mul_comm]; exact Nat.div_add_mod k sz] at e
    rw [e]
    simp only [List.getElem_replicate]
    rw [← hz]
    simp [madeCells, hzs, hk, Nat.mod_lt _ hpos]
  · rw [List.getElem?_eq_none (by rw [Array.length_toList, size_madeCells]; omega), List.getElem?_eq_none (by rw [flat_len_c hsz, List.length_replicate]; omega)]
/-- The first k of l, then z. -/
def fillF {α : Type} (z : α) (l : List α) (k : Nat) : List α := l.take k ++ List.replicate (l.length - k) z
theorem fillF_set {α : Type} (z : α) (l : List α) (k : Nat) (h : k < l.length) : (fillF z l k).set k l[k] = fillF z l (k + 1) := by
  unfold fillF
  apply List.ext_getElem
  · simp; omega
  · intro i h1 h2
    simp only [List.getElem_set, List.getElem_append, List.length_take, List.getElem_take, List.getElem_replicate]
    by_cases hi : k = i
    · subst hi
      simp
      omega
    · by_cases h3 : i < k
      · simp [hi, show i < min k l.length by omega, show i < min (k + 1) l.length by omega]
      · simp [hi, show ¬ i < min k l.length by omega, show ¬ i < min (k + 1) l.length by omega]
theorem fillF_len {α : Type} (z : α) (l : List α) (k : Nat) (h : k ≤ l.length) : (fillF z l k).length = l.length := by unfold fillF; simp; omega
theorem fillF_all {α : Type} (z : α) (l : List α) : fillF z l l.length = l := by simp [fillF]
theorem fillF_zero {α : Type} (z : α) (l : List α) : fillF z l 0 = List.replicate l.length z := by simp [fillF]

/-- How great writes are. -/
def szP (l : List PutD) : Nat := (l.map fun p => 1 + p.2.size).sum
theorem szP_take {l : List PutD} {k : Nat} (h : k < l.length) : szP (l.take (k + 1)) = szP (l.take k) + 1 + (l[k]).2.size := by
  unfold szP
  rw [List.take_succ_eq_append_getElem h, List.map_append, List.sum_append]
  simp
  omega

end Go.Proofs.YthfgfhbinggpfaaDoor

/-
  Own text, plain: disks as lists: right ones, what is read, written, flushed, what falls.
-/
namespace Go.Proofs.YthfgfhbinggpfaaDoor

def txOk (s : ByteArray) : Bool := decide (s.size ≤ 90)
def putOk (n : Nat) (p : PutD) : Bool := (decide (0 ≤ p.1) && decide (p.1 ≤ (n : Int) - 1)) && decide (p.2.size ≤ 90)
/-- A right disk. -/
def dkOk (d : List ByteArray × List PutD) : Bool := decide (d.1.length ≤ 120) && decide (d.2.length ≤ 400) && d.1.all txOk && d.2.all (putOk d.1.length)
/-- Writes put into sectors, in order. -/
def putIn (s : List ByteArray) (l : List PutD) : List ByteArray := l.foldl (fun s p => s.set p.1.toNat p.2) s
def dkFlush (d : List ByteArray × List PutD) : List ByteArray × List PutD := if dkOk d = true then (putIn d.1 d.2, []) else d
/-- The writes that are kept. -/
def keepL : List PutD → List Bool → List PutD
  | [], _ => []
  | _ :: _, [] => []
  | p :: l, k :: ks => if k then p :: keepL l ks else keepL l ks
def dkFall (d : List ByteArray × List PutD) (ks : List Bool) : List ByteArray × List PutD := if dkOk d = true then (putIn d.1 (keepL d.2 ks), []) else d
/-- The last write at a place. -/
def lastAt (l : List PutD) (at' : Int) : Option ByteArray := (l.reverse.find? fun p => decide (p.1 = at')).map (·.2)
def dkRead (d : List ByteArray × List PutD) (at' : Int) : Option ByteArray :=
  if dkOk d = true ∧ 0 ≤ at' ∧ at' ≤ (d.1.length : Int) - 1 then some ((lastAt d.2 at').getD (d.1.getD at'.toNat ⟨#[]⟩)) else none
def dkWrite (d : List ByteArray × List PutD) (at' : Int) (s : ByteArray) : Option (List ByteArray × List PutD) :=
  if dkOk d = true ∧ dkOk (d.1, d.2 ++ [(at', s)]) = true then some (d.1, d.2 ++ [(at', s)]) else none

theorem dkOk_iff {d : List ByteArray × List PutD} : dkOk d = true ↔ d.1.length ≤ 120 ∧ d.2.length ≤ 400 ∧ (∀ s ∈ d.1, s.size ≤ 90) ∧ ∀ p ∈ d.2, 0 ≤ p.1 ∧ p.1 < (d.1.length : Int) ∧ p.2.size ≤ 90 := by
  simp only [dkOk, putOk, txOk, Bool.and_eq_true, decide_eq_true_eq, List.all_eq_true]
  constructor
  · rintro ⟨⟨⟨h1, h2⟩, h3⟩, h4⟩
    exact ⟨h1, h2, h3, fun p hp => ⟨(h4 p hp).1.1, by have := (h4 p hp).1.2; omega, (h4 p hp).2⟩⟩
  · rintro ⟨h1, h2, h3, h4⟩
    exact ⟨⟨⟨h1, h2⟩, h3⟩, fun p hp => ⟨⟨(h4 p hp).1, by have := (h4 p hp).2.1; omega⟩, (h4 p hp).2.2⟩⟩
theorem putIn_len (s : List ByteArray) (l : List PutD) : (putIn s l).length = s.length := by
  unfold putIn
  induction l generalizing s with
  | nil => rfl
  | cons p l ih => rw [List.foldl_cons, ih]; simp
theorem putIn_small {s : List ByteArray} {l : List PutD} (hs : ∀ x ∈ s, x.size ≤ 90) (hl : ∀ p ∈ l, p.2.size ≤ 90) : ∀ x ∈ putIn s l, x.size ≤ 90 := by
  unfold putIn
  induction l generalizing s with
  | nil => exact hs
  | cons p l ih =>
    rw [List.foldl_cons]
    refine ih ?_ (fun q hq => hl q (by simp [hq]))
    intro x hx
    rcases List.mem_or_eq_of_mem_set hx with h | h
    · exact hs x h
    · rw [h]; exact hl p (by simp)
theorem putIn_app (s : List ByteArray) (l m : List PutD) : putIn s (l ++ m) = putIn (putIn s l) m := by simp [putIn]
theorem keepL_mem {l : List PutD} : ∀ {ks : List Bool} {p : PutD}, p ∈ keepL l ks → p ∈ l := by
  induction l with
  | nil => intro ks p h; simp [keepL] at h
  | cons q l ih =>
    intro ks p h
    cases ks with
    | nil => simp [keepL] at h
    | cons k ks =>
      rw [keepL] at h
      split at h
      · rcases List.mem_cons.1 h with rfl | h
        · simp
        · exact List.mem_cons_of_mem _ (ih h)
      · exact List.mem_cons_of_mem _ (ih h)
theorem flush_ok {d : List ByteArray × List PutD} (h : dkOk d = true) : dkOk (dkFlush d) = true ∧ (dkFlush d).2 = [] := by
  have hd := dkOk_iff.1 h
  unfold dkFlush
  rw [if_pos h]
  refine ⟨dkOk_iff.2 ⟨by rw [putIn_len]; exact hd.1, by simp, ?_, by simp⟩, rfl⟩
  exact putIn_small hd.2.2.1 (fun p hp => (hd.2.2.2 p hp).2.2)
theorem fall_none {s : List ByteArray} (ks : List Bool) : dkFall (s, []) ks = (s, []) := by
  unfold dkFall
  split
  · rfl
  · rfl
theorem flush_none {s : List ByteArray} : dkFlush (s, []) = (s, []) := by
  unfold dkFlush
  split
  · rfl
  · rfl
theorem lastAt_app (l : List PutD) (at' : Int) (s : ByteArray) : lastAt (l ++ [(at', s)]) at' = some s := by simp [lastAt]
theorem read_written {d e : List ByteArray × List PutD} {at' : Int} {s : ByteArray} (h : dkWrite d at' s = some e) : dkRead e at' = some s ∧ dkOk e = true := by
  unfold dkWrite at h
  split at h
  · rename_i hk
    obtain rfl := Option.some.inj h
    have hp := (dkOk_iff.1 hk.2).2.2.2 (at', s) (by simp)
    refine ⟨?_, hk.2⟩
    unfold dkRead
    rw [if_pos ⟨hk.2, hp.1, by have := hp.2.1; simp at this ⊢; omega⟩, lastAt_app]
    rfl
  · cases h
theorem read_flushed {d e : List ByteArray × List PutD} {at' : Int} {s : ByteArray} (h : dkWrite d at' s = some e) : dkRead (dkFlush e) at' = some s := by
  have hr := read_written h
  unfold dkWrite at h
  split at h
  · rename_i hk
    obtain rfl := Option.some.inj h
    have hp := (dkOk_iff.1 hk.2).2.2.2 (at', s) (by simp)
    simp only at hp
    have hf := flush_ok hk.2
    unfold dkRead
    have hlen : (dkFlush (d.1, d.2 ++ [(at', s)])).1.length = d.1.length := by
      unfold dkFlush; rw [if_pos hk.2]; exact putIn_len _ _
    rw [if_pos ⟨hf.1, hp.1, by rw [hlen]; omega⟩, hf.2]
    have e1 : (dkFlush (d.1, d.2 ++ [(at', s)])).1 = (putIn d.1 d.2).set at'.toNat s := by
      unfold dkFlush; rw [if_pos hk.2]
      show putIn d.1 (d.2 ++ [(at', s)]) = _
      rw [putIn_app]
      rfl
    rw [e1]
    have hb : at'.toNat < (putIn d.1 d.2).length := by rw [putIn_len]; omega
    simp [lastAt, List.getD, hb]
  · cases h
end Go.Proofs.YthfgfhbinggpfaaDoor

/-
  Own text, plain: the journal: which lists can be committed, what a head says, what a commit, its events, a recovery and the home blocks are.
-/
namespace Go.Proofs.YthfgfhbinggpfaaDoor
open Go.RowKit

def TxP (n : Int) (l : List PutD) : Prop :=
  1 ≤ n ∧ n ≤ 48 ∧ l ≠ [] ∧ l.all (putOk n.toNat) = true ∧ ∀ i (h : i + 1 < l.length), (l[i]'(Nat.lt_of_succ_lt h)).1 < l[i + 1].1
noncomputable def jtx (n : Int) (l : List PutD) : Bool := @decide (TxP n l) (Classical.propDecidable _)
theorem jtx_yes {n : Int} {l : List PutD} (h : TxP n l) : jtx n l = true := by unfold jtx; exact @decide_eq_true _ (Classical.propDecidable _) h
theorem jtx_no {n : Int} {l : List PutD} (h : ¬ TxP n l) : jtx n l = false := by unfold jtx; exact @decide_eq_false _ (Classical.propDecidable _) h
theorem jtx_iff {n : Int} {l : List PutD} : jtx n l = true ↔ TxP n l :=
  ⟨fun h => Classical.byContradiction fun h' => absurd ((jtx_no h').symm.trans h) (by decide), jtx_yes⟩
theorem putOk_iff {n : Nat} {p : PutD} : putOk n p = true ↔ 0 ≤ p.1 ∧ p.1 ≤ (n : Int) - 1 ∧ p.2.size ≤ 90 := by
  simp [putOk, and_assoc]
theorem TxP.at {n : Int} {l : List PutD} (h : TxP n l) : ∀ p ∈ l, 0 ≤ p.1 ∧ p.1 ≤ n - 1 ∧ p.2.size ≤ 90 := by
  intro p hp
  have := putOk_iff.1 (List.all_eq_true.1 h.2.2.2.1 p hp)
  have h1 := h.1
  exact ⟨this.1, by omega, this.2.2⟩
theorem TxP.lt {n : Int} {l : List PutD} (h : TxP n l) {i j : Nat} (hij : i < j) (hj : j < l.length) : (l[i]'(by omega)).1 < l[j].1 := by
  induction j with
  | zero => omega
  | succ j ih =>
    have h1 := h.2.2.2.2 j hj
    by_cases e : i = j
    · subst e; exact h1
    · exact Int.lt_trans (ih (by omega) (by omega)) h1
theorem TxP.ge {n : Int} {l : List PutD} (h : TxP n l) : ∀ i (hi : i < l.length), (i : Int) ≤ l[i].1
  | 0, hi => (h.at _ (List.getElem_mem hi)).1
  | i + 1, hi => by have := h.ge i (by omega); have := h.2.2.2.2 i hi; omega
theorem TxP.len {n : Int} {l : List PutD} (h : TxP n l) : (l.length : Int) ≤ n := by
  have h0 : 0 < l.length := List.length_pos_iff.2 h.2.2.1
  have h1 := h.ge (l.length - 1) (by omega)
  have h2 := (h.at _ (List.getElem_mem (show l.length - 1 < l.length by omega))).2.1
  omega
theorem TxP.mono {n : Int} {l : List PutD} (h : TxP n l) : TxP 48 l := by
  refine ⟨by omega, by omega, h.2.2.1, List.all_eq_true.2 fun p hp => putOk_iff.2 ?_, h.2.2.2.2⟩
  have := h.at p hp
  have h2 := h.2.1
  exact ⟨this.1, by show p.1 ≤ (48 : Int) - 1; omega, this.2.2⟩

/-! ### Heads -/
def sumB (l : List ByteArray) : List Int := l.flatMap putText
def sumOf (l : List ByteArray) : Nat := crcTo (sumB l) (sumB l).length ^^^ 4294967295
theorem sumB_u8 (l : List ByteArray) : U8 (sumB l) := by
  intro n hn
  obtain ⟨s, _, h⟩ := List.mem_flatMap.1 hn
  exact putText_u8 s n h
theorem sumOf_lt (l : List ByteArray) : sumOf l < 4294967296 := xor_lt (crcTo_lt (sumB_u8 l) _) (by omega)
def four (n : Nat) : List Int := [((n / 16777216 : Nat) : Int), ((n / 65536 % 256 : Nat) : Int), ((n / 256 % 256 : Nat) : Int), ((n % 256 : Nat) : Int)]
def headB (ats : List Int) (sum : Nat) : List Int := 74 :: putNum (ats.length : Int) ++ ats.flatMap putNum ++ four sum
noncomputable def headText (l : List PutD) : ByteArray := if jtx 48 l = true then baOf (headB (l.map (·.1)) (sumOf (l.map (·.2)))) else ⟨#[]⟩
theorem flatNum_u8 (ats : List Int) : U8 (ats.flatMap putNum) := by
  intro n hn
  obtain ⟨s, _, h⟩ := List.mem_flatMap.1 hn
  exact putNum_u8 s n h
theorem four_u8 {n : Nat} (h : n < 4294967296) : U8 (four n) := by
  intro x hx
  simp only [four, List.mem_cons, List.not_mem_nil, or_false] at hx
  omega
theorem headB_u8 {ats : List Int} {sum : Nat} (h : sum < 4294967296) : U8 (headB ats sum) := by
  intro x hx
  unfold headB at hx
  rcases List.mem_append.1 hx with hx | hx
  · rcases List.mem_append.1 hx with hx | hx
    · rcases List.mem_cons.1 hx with rfl | hx
      · omega
      · exact putNum_u8 _ x hx
    · exact flatNum_u8 ats x hx
  · exact four_u8 h x hx
theorem bytesOf_S {l : List Int} (h : U8 l) : bytesOf (baOf l) = l := by
  simp only [baOf, bytesOf, List.map_map]
  conv => rhs; rw [← List.map_id l]
  apply List.map_congr_left
  intro x hx
  have := h x hx
  simp
  omega
/-- The numbers xs stand one behind the other from p on; q is the place behind them. -/
def AtsFrom (b : List Int) : Nat → List Int → Nat → Prop
  | p, [], q => p = q
  | p, x :: xs, q => ∃ n next, Good b (p : Int) n next ∧ x = (n : Int) ∧ AtsFrom b next xs q
theorem AtsFrom.unique {b : List Int} : ∀ {xs ys : List Int} {p q r : Nat}, AtsFrom b p xs q → AtsFrom b p ys r → xs.length = ys.length → xs = ys ∧ q = r
  | [], [], _, _, _, h, h', _ => ⟨rfl, h.symm.trans h'⟩
  | x :: xs, y :: ys, p, q, r, h, h', hl => by
    obtain ⟨n, nx, hg, rfl, hr⟩ := h
    obtain ⟨n', nx', hg', rfl, hr'⟩ := h'
    obtain ⟨rfl, rfl⟩ := hg.unique hg'
    obtain ⟨rfl, rfl⟩ := hr.unique hr' (by simpa using hl)
    exact ⟨rfl, rfl⟩
theorem AtsFrom.snoc {b : List Int} : ∀ {xs : List Int} {p q n next : Nat}, AtsFrom b p xs q → Good b (q : Int) n next → AtsFrom b p (xs ++ [(n : Int)]) next
  | [], p, q, n, next, h, hg => by cases h; exact ⟨n, next, hg, rfl, rfl⟩
  | x :: xs, p, q, n, next, ⟨m, nx, h1, h2, h3⟩, hg => ⟨m, nx, h1, h2, h3.snoc hg⟩
theorem ats_mid (suf : List Int) : ∀ (ats : List Int) (pre : List Int), (∀ x ∈ ats, 0 ≤ x ∧ x ≤ 2147483647) → AtsFrom (pre ++ ats.flatMap putNum ++ suf) pre.length ats (pre.length + (ats.flatMap putNum).length)
  | [], pre, _ => by simp [AtsFrom]
  | x :: ats, pre, h => by
    obtain ⟨n, rfl⟩ : ∃ n : Nat, x = (n : Int) := ⟨x.toNat, by have := h x (by simp); omega⟩
    have hn : n ≤ 2147483647 := by have := h (n : Int) (by simp); omega
    have hg := good_midP pre (ats.flatMap putNum ++ suf) n hn
    have ih := ats_mid suf ats (pre ++ putNum n) (fun y hy => h y (by simp [hy]))
    simp only [List.flatMap_cons, List.append_assoc, List.length_append] at hg ih ⊢
    refine ⟨n, _, hg, rfl, ?_⟩
    rw [← Nat.add_assoc]
    exact ih
def HeadP (b : List Int) (n : Int) (ats : List Int) (sum : Nat) : Prop :=
  ∃ many at' q : Nat, Good b 1 many at' ∧ b.getD 0 0 = 74 ∧ 1 ≤ many ∧ many ≤ 48 ∧ ats.length = many ∧ AtsFrom b at' ats q ∧ b.length = q + 4 ∧ TxP n (ats.map fun x => (x, (⟨#[]⟩ : ByteArray))) ∧
    (sum : Int) = ((b.getD q 0 * 256 + b.getD (q + 1) 0) * 256 + b.getD (q + 2) 0) * 256 + b.getD (q + 3) 0
theorem HeadP.unique {b : List Int} {n : Int} {ats ats' : List Int} {sum sum' : Nat} (h : HeadP b n ats sum) (h' : HeadP b n ats' sum') : ats = ats' ∧ sum = sum' := by
  obtain ⟨m, a, q, h1, _, _, _, h2, h3, _, _, h4⟩ := h
  obtain ⟨m', a', q', h1', _, _, _, h2', h3', _, _, h4'⟩ := h'
  obtain ⟨rfl, rfl⟩ := h1.unique h1'
  obtain ⟨rfl, rfl⟩ := h3.unique h3' (by omega)
  exact ⟨rfl, by omega⟩
open Classical in
noncomputable def headOf (s : ByteArray) (n : Int) : Option (List Int × Nat) :=
  if h : ∃ x : List Int × Nat, HeadP (bytesOf s) n x.1 x.2 then some h.choose else none
theorem headOf_some {s : ByteArray} {n : Int} {ats : List Int} {sum : Nat} (h : HeadP (bytesOf s) n ats sum) : headOf s n = some (ats, sum) := by
  have hx : ∃ x : List Int × Nat, HeadP (bytesOf s) n x.1 x.2 := ⟨(ats, sum), h⟩
  unfold headOf
  rw [dif_pos hx]
  obtain ⟨h1, h2⟩ := hx.choose_spec.unique h
  rw [← h1, ← h2]
theorem headOf_none {s : ByteArray} {n : Int} (h : ∀ ats sum, ¬ HeadP (bytesOf s) n ats sum) : headOf s n = none := by
  unfold headOf
  rw [dif_neg (fun ⟨x, hx⟩ => h _ _ hx)]
theorem headOf_empty (n : Int) : headOf ⟨#[]⟩ n = none := by
  refine headOf_none ?_
  rintro ats sum ⟨m, a, q, h1, h2, _⟩
  simp [bytesOf] at h2
theorem headOf_spec {s : ByteArray} {n : Int} {ats : List Int} {sum : Nat} (h : headOf s n = some (ats, sum)) : HeadP (bytesOf s) n ats sum := by
  unfold headOf at h
  split at h
  · rename_i hx
    have hs := hx.choose_spec
    simp only [Option.some.injEq] at h
    rw [h] at hs
    exact hs
  · cases h
theorem head_read {n : Int} {l : List PutD} (h : TxP n l) : headOf (headText l) n = some (l.map (·.1), sumOf (l.map (·.2))) := by
  apply headOf_some
  have hs := sumOf_lt (l.map (·.2))
  unfold headText
  rw [if_pos (jtx_yes h.mono), bytesOf_S (headB_u8 hs)]
  have h0 : 0 < l.length := List.length_pos_iff.2 h.2.2.1
  have hlen := h.len
  have h48 := h.2.1
  have hml : (l.map (·.1)).length = l.length := by simp
  generalize hsum : sumOf (l.map (·.2)) = sum at *
  have e1 : headB (l.map (·.1)) sum = [74] ++ putNum ((l.length : Nat) : Int) ++ ((l.map (·.1)).flatMap putNum ++ four sum) := by simp [headB]
  have g1 := good_midP [74] ((l.map (·.1)).flatMap putNum ++ four sum) l.length (by omega)
  have e2 : headB (l.map (·.1)) sum = ([74] ++ putNum ((l.length : Nat) : Int)) ++ (l.map (·.1)).flatMap putNum ++ four sum := by simp [headB]
  have g2 := ats_mid (four sum) (l.map (·.1)) ([74] ++ putNum ((l.length : Nat) : Int)) (fun x hx => by
    obtain ⟨p, hp, rfl⟩ := List.mem_map.1 hx
    have := h.at p hp
    omega)
  rw [← e1] at g1
  rw [← e2] at g2
  refine ⟨l.length, _, ([74] : List Int).length + (putNum ((l.length : Nat) : Int)).length + ((l.map (·.1)).flatMap putNum).length, g1, by rw [e1]; rfl, by omega, by omega, hml, ?_, ?_, ?_, ?_⟩
  · rw [List.length_append] at g2
    exact g2
  · rw [e2]; simp [four]; omega
  · refine ⟨h.1, h.2.1, by simp [List.ne_nil_of_length_pos h0], List.all_eq_true.2 ?_, ?_⟩
    · intro p hp
      simp only [List.map_map, List.mem_map] at hp
      obtain ⟨x, hx, rfl⟩ := hp
      have := h.at x hx
      have h1 := h.1
      exact putOk_iff.2 ⟨this.1, by show x.1 ≤ _; omega, by show (0 : Nat) ≤ 90; omega⟩
    · intro i hi
      simp only [List.map_map, List.length_map] at hi
      have := h.2.2.2.2 i (by simpa using hi)
      simpa using this
  · have ee : ∀ j, j < 4 → (headB (l.map (·.1)) sum).getD ((1 + (putNum ((l.length : Nat) : Int)).length) + ((l.map (·.1)).flatMap putNum).length + j) 0 = (four sum).getD j 0 := by
      intro j hj
      rw [e2]
      have := getD_midP (([74] ++ putNum ((l.length : Nat) : Int)) ++ (l.map (·.1)).flatMap putNum) (four sum) [] j (by simpa [four] using hj)
      rw [List.append_nil] at this
      rw [← this]
      congr 1
      simp only [List.length_append, List.length_cons, List.length_nil]
    have hl1 : ([74] : List Int).length = 1 := rfl
    have f0 := ee 0 (by omega)
    have f1 := ee 1 (by omega)
    have f2 := ee 2 (by omega)
    have f3 := ee 3 (by omega)
    simp only [hl1, Nat.add_zero] at f0 f1 f2 f3 ⊢
    rw [f0, f1, f2, f3]
    simp only [four, List.getD_cons_zero, List.getD_cons_succ]
    omega
theorem flatNum_len (ats : List Int) (h : ∀ x ∈ ats, 0 ≤ x ∧ x ≤ 127) : (ats.flatMap putNum).length = ats.length := by
  induction ats with
  | nil => rfl
  | cons x ats ih =>
    have hx := h x (by simp)
    have e : putNum x = [x] := by rw [putNum, if_pos (by omega), vlq_small _ _ (by omega)]; simp; omega
    rw [List.flatMap_cons, List.length_append, ih (fun y hy => h y (by simp [hy])), e]
    simp
    omega
theorem head_size {l : List PutD} : (headText l).size ≤ 90 := by
  unfold headText
  split
  · rename_i h
    have h := jtx_iff.1 h
    have hl := h.len
    have e : (baOf (headB (l.map (·.1)) (sumOf (l.map (·.2))))).size = (headB (l.map (·.1)) (sumOf (l.map (·.2)))).length := by
      rw [← bytesOf_len, bytesOf_S (headB_u8 (sumOf_lt _))]
    have hf := flatNum_len (l.map (·.1)) (fun x hx => by
      obtain ⟨p, hp, rfl⟩ := List.mem_map.1 hx
      have := h.at p hp
      omega)
    have hp := putNum_len ((l.map (·.1)).length : Int)
    rw [e]
    simp only [headB, four, List.length_append, List.length_cons, List.length_nil, hf, List.length_map] at hp ⊢
    omega
  · decide

/-! ### Events, commits, recoveries -/
abbrev EvD := Int × Int × ByteArray
noncomputable def commitE (n : Int) (l : List PutD) : List EvD :=
  if jtx n l = true then
    (List.range l.length).map (fun k => ((0 : Int), ((1 + k : Nat) : Int), (l.getD k (0, ⟨#[]⟩)).2)) ++ [(1, 0, ⟨#[]⟩), (0, 0, headText l), (1, 0, ⟨#[]⟩)] ++
      l.map (fun p => ((0 : Int), n + 1 + p.1, p.2)) ++ [(1, 0, ⟨#[]⟩), (0, 0, ⟨#[]⟩), (1, 0, ⟨#[]⟩)]
  else []
end Go.Proofs.YthfgfhbinggpfaaDoor
