/-
  Own text: heads, as the program reads them; the program's error variable holds what its text lays.
-/
import Derived.Test.YtlidmnehpcodkaaDoorSHeadOfW
import Derived.Test.YtlidmnehpcodkaaDoorGetNumW
import Derived.Test.YtlidmnehpcodkaaDoorITxW
import Derived.Test.YtlidmnehpcodkaaDoorShelfP
namespace Go.Proofs.YtlidmnehpcodkaaDoor
open Go.RowKit

/-- The program's error variable holds what its text lays. -/
structure ErrAt (a : Addr) (w : World) : Prop where
  lt : errG < w.heap.size
  cell : w.cell? ⟨errG, 0, none⟩ = some (.iface 138 (.pointer (some a)))
theorem ErrAt.below {a : Addr} {w w' : World} (h : ErrAt a w) (hb : Below w.heap.size w w') : ErrAt a w' := ⟨Nat.lt_of_lt_of_le h.lt hb.size, (hb.cell h.lt).trans h.cell⟩

theorem Came.below {w w' : World} {x : Option Addr} {cap : Nat} {l : List Int} (h : Came w x cap l) (hb : Below w.heap.size w w') : Came w' x cap l := ⟨h.hsmall, h.hu8, h.hcap, h.hmax, h.hrd.below hb (Nat.le_refl _)⟩

theorem AtsFrom.more {b : List Int} : ∀ {xs : List Int} {a p : Nat}, AtsFrom b a xs p → a + xs.length ≤ p
  | [], a, p, h => by cases h; simp
  | x :: xs, a, p, ⟨n, nx, hg, _, hr⟩ => by
    have := hr.more
    obtain ⟨p', k, hp, _, _, _, _, h3⟩ := hg
    simp only [List.length_cons]
    omega

/-- What is known between two numbers: all is well so far, or there is no head. -/
inductive HA (b : List Int) (many : Nat) : Nat → Bool → List Int → Prop where
  | good (at' p : Nat) (xs : List Int) (hg : Good b 1 many at') (hx : AtsFrom b at' xs p) (hl : xs.length ≤ many) (hp : p ≤ b.length) : HA b many p true xs
  | bad (xs : List Int) (hl : xs.length ≤ b.length + 1) (h : ∀ n ats sum, ¬ HeadP b n ats sum) : HA b many 0 false xs

/-- What headAts tells: the numbers, the place behind them, whether all is well. -/
def HAns (w : World) (b : List Int) (e : Ending) (w' : World) : Prop :=
  ∃ (v : Value) (many p : Nat) (q : Bool) (xs : List Int), e = .returned (.tuple #[v, .int .i64 (p : Int), .bool q]) ∧ w'.ownsRow w.heap.size 3 1 v xs.length (xs.map (Value.int .i64)) ∧ Below w.heap.size w w' ∧ HA b many p q xs ∧ (q = true → xs.length = many)

set_option maxRecDepth 20000 in
set_option maxHeartbeats 2000000 in
theorem implHeadAts (x : Option Addr) (cap : Nat) (b : List Int) (a : Addr) (w : World) (hx : Came w x cap b) (he : ErrAt a w) (hb0 : b.length ≤ 1048576) :
    Calls Tryd.prog 72 #[.slice x b.length cap] w (HAns w b) := by
  obtain ⟨i0, hi, hz0, hz1, hz2⟩ := info_parts Tryd.infoI
  have HGN : Hid (∀ W (p : Int), Below w.heap.size w W → Calls Tryd.prog 108 #[.slice x b.length cap, .int .i64 p] W fun e w' => ((∃ n next, Good b p n next ∧ e = .returned (.tuple #[.int .i64 (n : Nat), .int .i64 (next : Nat), .bool true])) ∨ ((∀ n next, ¬ Good b p n next) ∧ e = .returned (.tuple #[.int .i64 0, .int .i64 0, .bool false]))) ∧ Below W.heap.size W w') :=
    fun W p h => implGetNum x cap b p a W (hx.below h) (he.below h).lt (he.below h).cell
  clear hx he
  go_enter Tryd.func72, Tryd.ntmps72
  go_wp2_with fail
  refine (HGN.out w 1 (Below.refl _ _)).mono ?_
  rintro e w1 ⟨h, hb1⟩
  obtain ⟨many, p1, q1, he, HH⟩ : ∃ (many p1 : Nat) (q1 : Bool), e = .returned (.tuple #[.int .i64 (many : Int), .int .i64 (p1 : Int), .bool q1]) ∧ Hid (HA b many p1 q1 []) := by
    rcases h with ⟨many, at1, hg, rfl⟩ | ⟨hno, rfl⟩
    · exact ⟨many, at1, true, rfl, .good at1 at1 [] hg rfl (Nat.zero_le _) hg.le.1⟩
    · exact ⟨0, 0, false, rfl, .bad [] (Nat.zero_le _) (fun n => no_num hno)⟩
  subst he
  clear h
  have HO1 : Hid (w1.ownsRow w.heap.size 3 1 (.slice none 0 0) ([] : List Int).length (([] : List Int).map (Value.int .i64))) := World.ownsRow_nil _ _ _ _
  have HB1 : Hid (Below w.heap.size w w1) := hb1
  clear hb1
  go_wp2
  go_loopw [6, 7, 8] (fun s o v wr => ∃ (p : Nat) (q : Bool) (xs : List Int), s = .int .i64 (p : Int) ∧ o = .bool q ∧ Hid (HA b many p q xs) ∧ Hid (wr.ownsRow w.heap.size 3 1 v xs.length (xs.map (Value.int .i64))) ∧ Hid (Below w.heap.size w wr)) (fun s o _ _ => match o with | .bool true => b.length + 1 - (intOf s).toNat | _ => 0)
  case atStart => exact ⟨p1, q1, [], rfl, rfl, HH, HO1, HB1⟩
  case round =>
    obtain ⟨p, q, xs, rfl, rfl, HH2, HO, HB⟩ := hrel
    clear HH HO1 HB1
    obtain ⟨yv, yc, hyv, _, _⟩ := own_rd HO.out
    subst hyv
    cases q with
    | false =>
      have ho := HO.out
      have hb := HB.out
      have hh := HH2.out
      clear HO HB HH2
      go_wp2
      go_ret3
      exact ⟨_, many, p, false, xs, rfl, ho, hb, hh, fun h => by cases h⟩
    | true =>
      obtain ⟨at1, hg, hxx, hlm, hpb⟩ : ∃ at1, Good b 1 many at1 ∧ AtsFrom b at1 xs p ∧ xs.length ≤ many ∧ p ≤ b.length := by
        cases HH2.out with
        | good at1 _ _ h1 h2 h3 h4 => exact ⟨at1, h1, h2, h3, h4⟩
      have hmore := hxx.more
      by_cases hlt : xs.length < many
      · have HLT : Hid (xs.length < many) := hlt
        have hlt2 : (xs.length : Int) < (many : Int) := by omega
        have HG1 : Hid (Good b 1 many at1) := hg
        have HX1 : Hid (AtsFrom b at1 xs p) := hxx
        clear hg hxx HH2
        go_wp2_with fail
        refine (HGN.out wr (p : Int) HB.out).mono ?_
        rintro e w2 ⟨h, hb2⟩
        obtain ⟨y, p2, q2, he, HH3⟩ : ∃ (y p2 : Nat) (q2 : Bool), e = .returned (.tuple #[.int .i64 (y : Int), .int .i64 (p2 : Int), .bool q2]) ∧ Hid (HA b many p2 q2 (xs ++ [(y : Int)]) ∧ (q2 = true → p < p2 ∧ p2 ≤ b.length)) := by
          rcases h with ⟨n, next, hg, rfl⟩ | ⟨hno, rfl⟩
          · refine ⟨n, next, true, rfl, .good at1 next _ HG1.out (HX1.out.snoc hg) (by simp; omega) hg.le.1, fun _ => ⟨?_, hg.le.1⟩⟩
            obtain ⟨p', k, hp, _, _, _, _, h3⟩ := hg
            omega
          · exact ⟨0, 0, false, rfl, .bad _ (by simp; omega) (fun n => no_at HG1.out HX1.out HLT.out hno), fun h => by cases h⟩
        subst he
        clear h
        have ho2 := (ownsRow_below HO.out hb2 (Nat.le_refl _)).alloc (.cells #[.int .i64 (y : Int)] 3)
        have HS2 : Hid (Src Tryd.prog 1 49 (.slice (some ⟨w2.heap.size, 0, none⟩) 1 1) 1 [.int .i64 (y : Int)] (w2.alloc (.cells #[.int .i64 (y : Int)] 3))) := src_one Tryd.underlying49 w2 (.int .i64 (y : Int)) rfl
        have hb3 : Below w.heap.size w (w2.alloc (.cells #[.int .i64 (y : Int)] 3)) := (HB.out.trans (hb2.mono HB.out.size)).alloc (Nat.le_trans HB.out.size hb2.size) _
        clear HO HB hb2
        go_wp2_with (at_builtin; refine wpList_append_own_src _ rfl (.tmp 30) (.tmp 32) 49 49 rfl w.heap.size 3 i0 (.int .i64 0) 1 8 Tryd.underlying49 hi hz0 hz1 hz2 rfl _ _ _ rfl ho2 _ 1 [.int .i64 (y : Int)] rfl HS2.out (by unfold maxLen; omega) (by omega) hb3.size ?_)
        intro v5 w5 ho5 hg5
        have HB5 : Hid (Below w.heap.size w w5) := hb3.grown hg5 hb3.size (fun j hj => (ho2.lt j hj).1)
        have HO5 : Hid (w5.ownsRow w.heap.size 3 1 v5 (xs ++ [(y : Int)]).length ((xs ++ [(y : Int)]).map (Value.int .i64))) := by
          show World.ownsRow _ _ _ _ _ _ _
          rw [List.length_append, List.map_append]
          exact ho5
        have HH5 : Hid (HA b many p2 q2 (xs ++ [(y : Int)])) := HH3.out.1
        have HM5 : Hid (q2 = true → p < p2 ∧ p2 ≤ b.length) := HH3.out.2
        clear ho5 hg5 ho2 HS2 hb3 HH3
        go_wp2
        go_roundw
        case rel => exact ⟨p2, q2, _, rfl, rfl, HH5, HO5, HB5⟩
        case measure =>
          have := HM5.out
          cases q2 with
          | false => simp [intOf]; omega
          | true => have := this rfl; simp [intOf]; omega
      · have hlt2 : ¬ (xs.length : Int) < (many : Int) := by omega
        have ho := HO.out
        have hb := HB.out
        have hh := HH2.out
        clear HO HB HH2 hg hxx
        go_wp2
        go_ret3
        exact ⟨_, many, p, true, xs, rfl, ho, hb, hh, fun _ => by omega⟩

def gsum (l : List Int) : Nat := l.foldl (fun s c => s * 256 + c.toNat) 0
theorem gsum_take {l : List Int} {k : Nat} (h : k < l.length) : gsum (l.take (k + 1)) = gsum (l.take k) * 256 + l[k].toNat := by
  unfold gsum
  rw [List.take_succ_eq_append_getElem h, List.foldl_append]
  rfl
theorem gsum_lt {l : List Int} (hu : U8 l) : ∀ k, k ≤ l.length → gsum (l.take k) < 256 ^ k
  | 0, _ => by simp [gsum]
  | k + 1, h => by
    have := gsum_lt hu k (by omega)
    have h2 := hu _ (List.getElem_mem (show k < l.length by omega))
    rw [gsum_take (by omega), Nat.pow_succ]
    omega

set_option maxRecDepth 20000 in
set_option maxHeartbeats 1000000 in
theorem implGetSum (g off cap : Nat) (l : List Int) (w : World) (hl : l.length ≤ 4) (hu : U8 l) (hc : ∀ i, i < l.length → w.cell? ⟨g, off + i, none⟩ = some (.int .u8 (l.getD i 0))) :
    Calls Tryd.prog 75 #[.slice (some ⟨g, off, none⟩) l.length cap] w fun e w' => e = .returned (.int .i64 ((gsum l : Nat) : Int)) ∧ w' = w := by
  have HC : Hid (∀ k (hk : k < l.length), w.cell? ⟨g, off + k, none⟩ = some (.int .u8 l[k])) := by
    intro k hk
    have := hc k hk
    simpa [List.getD, hk] using this
  have HU : Hid (U8 l) := hu
  have HT : Hid (∀ k, k ≤ l.length → gsum (l.take k) < 4294967296) := by
    intro k hk
    have h1 := gsum_lt HU.out k hk
    have h2 : 256 ^ k ≤ 256 ^ 4 := Nat.pow_le_pow_right (by omega) (by omega)
    omega
  clear hc hu
  go_enter Tryd.func75, Tryd.ntmps75
  go_wp2
  go_loopw [3, 8] (fun s i wr => ∃ k : Nat, k ≤ l.length ∧ i = .int .i64 k ∧ s = .int .i64 ((gsum (l.take k) : Nat) : Int) ∧ wr = w) (fun _ i _ => l.length - (intOf i).toNat)
  case atStart => exact ⟨0, Nat.zero_le _, rfl, rfl, rfl⟩
  case round =>
    obtain ⟨k, hk, rfl, rfl, hwr⟩ := hrel
    subst wr
    by_cases hlt : k < l.length
    · have hcx := HC.out k hlt
      have h1 := HT.out (k + 1) hlt
      have h0 := HU.out _ (List.getElem_mem hlt)
      rw [gsum_take hlt] at h1
      have HG : Hid (gsum (l.take (k + 1)) = gsum (l.take k) * 256 + l[k].toNat) := gsum_take hlt
      generalize l[k] = y at *
      generalize gsum (l.take k) = N at *
      have hw1 : IntKind.i64.wrap ((N : Int) * 256) = (N : Int) * 256 := by rw [IntKind.wrap_i64]; omega
      have hw2 : IntKind.i64.wrap ((N : Int) * 256 + y) = (N : Int) * 256 + y := by rw [IntKind.wrap_i64]; omega
      have hw3 : IntKind.i64.wrap y = y := by rw [IntKind.wrap_i64]; omega
      go_wp2
      go_roundw
      case rel => exact ⟨k + 1, by omega, by go_num, by rw [HG.out]; go_num, trivial⟩
      case measure => simp [intOf]; omega
    · obtain rfl : k = l.length := by omega
      rw [List.take_length]
      go_wp2
      go_ret
      exact ⟨rfl, rfl⟩

theorem first_J (s : ByteArray) : Lib.hasPrefix s.data.toList [74] = decide ((bytesOf s).getD 0 0 = 74) := by
  unfold bytesOf
  cases h : s.data.toList with
  | nil => simp [Lib.hasPrefix]
  | cons c cs =>
    by_cases hc : c = 74
    · subst hc
      simp [Lib.hasPrefix]
    · have h2 : ¬ (c.toNat : Int) = 74 := by
        intro h3
        apply hc
        have h4 : c.toNat = (74 : UInt8).toNat := by
          have : (74 : UInt8).toNat = 74 := by decide
          omega
        exact UInt8.toNat_inj.1 h4
      have hc2 : (74 == c) = false := by simpa using fun h => hc h.symm
      simp [Lib.hasPrefix, List.isPrefixOf, hc2, h2]

/-- A text turned into a row of bytes; how much room there is. -/
theorem bytes_came (s : ByteArray) (w : World) (hs : s.size ≤ 1048576) : ∃ cap W, (convert 9 22 (.string s)).run Tryd.prog w = .ok (.slice (some ⟨w.heap.size, 0, none⟩) (bytesOf s).length cap) W ∧ Came W (some ⟨w.heap.size, 0, none⟩) cap (bytesOf s) ∧ Below w.heap.size w W := by
  have hcv := run_bytes_of_string (P := Tryd.prog) w 9 22 5 s Tryd.underlying9 Tryd.underlying22 Tryd.underlying5
  have hge := grownCap_ge w s.size 0 5
  have hle := grownCap_le_maxLen w s.size 0 5 (by unfold maxLen; omega)
  obtain ⟨cap, W, h1, h2, h3⟩ := bytes_row s w
  rw [hcv] at h1
  injection h1 with h1 h4
  injection h1 with h5 h6 h7
  refine ⟨cap, W, ?_, ⟨by rw [bytesOf_len]; omega, bytesOf_u8 s, by rw [bytesOf_len]; omega, by omega, h2⟩, h3⟩
  rw [hcv, h4, bytesOf_len, h7]

theorem four_sum {b : List Int} {p : Nat} (hu : U8 b) (hl : b.length = p + 4) : ((gsum (b.drop p) : Nat) : Int) = ((b.getD p 0 * 256 + b.getD (p + 1) 0) * 256 + b.getD (p + 2) 0) * 256 + b.getD (p + 3) 0 := by
  have e : b.drop p = [b.getD p 0, b.getD (p + 1) 0, b.getD (p + 2) 0, b.getD (p + 3) 0] := by
    apply List.ext_getElem
    · simp [hl]
    · intro i h1 h2
      simp at h2
      rw [List.getElem_drop]
      rcases (show i = 0 ∨ i = 1 ∨ i = 2 ∨ i = 3 by omega) with rfl | rfl | rfl | rfl <;> simp [List.getD, show p < b.length by omega, show p + 1 < b.length by omega, show p + 2 < b.length by omega, show p + 3 < b.length by omega]
  rw [e]
  have h0 := hu.at p
  have h1 := hu.at (p + 1)
  have h2 := hu.at (p + 2)
  have h3 := hu.at (p + 3)
  simp only [gsum, List.foldl_cons, List.foldl_nil]
  omega

set_option maxRecDepth 20000 in
set_option maxHeartbeats 4000000 in
theorem implHeadOf (s : ByteArray) (n : Int) (a : Addr) (w : World) (hs : s.size ≤ 1048576) (he : ErrAt a w) :
    Calls Tryd.prog 27 #[.string s, .int .i64 n] w fun e w' => ∃ v, e = .returned (.tuple #[v, .int .i64 ((hoS s n : Nat) : Int), .bool (hoOk s n)]) ∧ w'.ownsRow w.heap.size 3 1 v (hoA s n).length ((hoA s n).map (Value.int .i64)) ∧ Below w.heap.size w w' := by
  obtain ⟨cap, W, hcv, hcm, hbW⟩ := bytes_came s w hs
  have hbl := bytesOf_len s
  have HNO : Hid ((∀ ats sum, ¬ HeadP (bytesOf s) n ats sum) → hoA s n = [] ∧ hoS s n = 0 ∧ hoOk s n = false) := ho_no
  have HYE : Hid (∀ ats sum, HeadP (bytesOf s) n ats sum → hoA s n = ats ∧ hoS s n = sum ∧ hoOk s n = true) := fun _ _ => ho_yes
  have HHP : Hid (∀ Q W, decide ((bytesOf s).getD 0 0 = 74) = Q → Calls Tryd.prog 73 #[.string s, .string ⟨#[74]⟩] W fun e w' => e = .returned (.bool Q) ∧ w' = W) := by
    rintro Q W rfl
    have := Tryd.strings_HasPrefix s ⟨#[74]⟩ W
    rw [show (⟨#[74]⟩ : ByteArray).data.toList = [74] from rfl, first_J] at this
    exact this
  have hl : (bytesOf s).length ≤ 1048576 := by omega
  have HU : Hid (U8 (bytesOf s)) := bytesOf_u8 s
  clear hbl
  have HAT : Hid (Calls Tryd.prog 72 #[.slice (some ⟨w.heap.size, 0, none⟩) (bytesOf s).length cap] W (HAns W (bytesOf s))) := implHeadAts _ cap (bytesOf s) a W hcm (he.below hbW) hl
  have HC : Hid (∀ W', Below W.heap.size W W' → ∀ i, i < (bytesOf s).length → W'.cell? ⟨w.heap.size, i, none⟩ = some (.int .u8 ((bytesOf s).getD i 0))) := by
    intro W' h i hi
    rcases hcm.hrd.below h (Nat.le_refl _) with h0 | ⟨g, off, he, _, hc⟩
    · rw [h0] at hi; simp at hi
    · cases he
      have := hc i hi
      rwa [Nat.zero_add] at this
  have hcap := hcm.hcap
  have HMX : Hid (cap ≤ maxLen) := hcm.hmax
  have HBW : Hid (Below w.heap.size w W) := hbW
  clear hcm he hbW
  generalize bytesOf s = b at *
  go_enter Tryd.func27, Tryd.ntmps27
  go_wp2_with fail
  refine HAT.out.mono ?_
  rintro e w1 ⟨v1, many, p, q, xs, rfl, ho1, hb1, hh, hqm⟩
  obtain ⟨xv, xc, hxv, _, hxr⟩ := own_rd ho1
  subst hxv
  have HB1 : Hid (Below w.heap.size w w1) := HBW.out.trans (hb1.mono HBW.out.size)
  have HB0 : Hid (Below W.heap.size W w1) := hb1
  have HO1 : Hid (w1.ownsRow W.heap.size 3 1 (.slice xv xs.length xc) xs.length (xs.map (Value.int .i64))) := ho1
  clear hcv HAT hb1 ho1
  have HEN : Hid (hoA s n = [] ∧ hoS s n = 0 ∧ hoOk s n = false → w1.ownsRow w.heap.size 3 1 (.slice none 0 0) (hoA s n).length ((hoA s n).map (Value.int .i64))) := fun h => by rw [h.1]; exact World.ownsRow_nil _ _ _ _
  cases q with
  | false =>
    have hno : ∀ n ats sum, ¬ HeadP b n ats sum := by cases hh with | bad _ _ h => exact h
    obtain ⟨e1, e2, e3⟩ := HNO.out (hno n)
    have HE := HEN.out ⟨e1, e2, e3⟩
    have HE2 : Hid (w1.ownsRow w.heap.size 3 1 (.slice none 0 0) (hoA s n).length ((hoA s n).map (Value.int .i64))) := HE
    have HE3 : Hid (hoS s n = 0 ∧ hoOk s n = false) := ⟨e2, e3⟩
    clear HE HEN hh hno e1 e2 e3 HNO HYE HHP
    go_wp2
    go_ret3
    exact ⟨_, by rw [HE3.out.1, HE3.out.2]; rfl, HE2.out, HB1.out⟩
  | true =>
    obtain ⟨at1, hg, hxx, hlm, hpb⟩ : ∃ at1, Good b 1 many at1 ∧ AtsFrom b at1 xs p ∧ xs.length ≤ many ∧ p ≤ b.length := by
      cases hh with
      | good at1 _ _ h1 h2 h3 h4 => exact ⟨at1, h1, h2, h3, h4⟩
    have hml := hqm rfl
    have hmo := hxx.more
    have HNE : Hid (¬ (b.length = p + 4 ∧ jtx n (bare xs) = true) → hoA s n = [] ∧ hoS s n = 0 ∧ hoOk s n = false) := fun h => HNO.out (no_end hg hxx hml h)
    have HN1 : Hid (b.getD 0 0 ≠ 74 → hoA s n = [] ∧ hoS s n = 0 ∧ hoOk s n = false) := fun h => HNO.out (no_first h)
    have HY1 : Hid (b.getD 0 0 = 74 → b.length = p + 4 → jtx n (bare xs) = true → hoA s n = xs ∧ hoS s n = gsum (b.drop p) ∧ hoOk s n = true) := by
      intro h1 h2 h3
      have ht := jtx_iff.1 h3
      have ht2 := bare_tx.1 ht
      have h4 := ht.len
      have h5 : xs.length ≤ 48 := by have e : (bare xs).length = xs.length := by simp [bare]
                                     omega
      exact HYE.out xs _ ⟨many, at1, p, hg, h1, by have := List.length_pos_iff.2 ht2.2.2.1; omega, by omega, hml, hxx, h2, ht, four_sum HU.out h2⟩
    have hxl : xs.length ≤ b.length := by omega
    clear hh hqm hg hxx hlm HNO HYE hml hmo
    by_cases h74 : b.getD 0 0 = 74
    · have HP := HHP.out true w1 (decide_eq_true h74)
      have HP2 : Hid (Calls Tryd.prog 73 #[.string s, .string ⟨#[74]⟩] w1 fun e w' => e = .returned (.bool true) ∧ w' = w1) := HP
      clear HP HHP HN1
      by_cases hln : b.length = p + 4
      · have hln2 : (b.length : Int) - (p : Int) = 4 := by omega
        have HAK : Hid (∀ Q, jtx n (bare xs) = Q → Calls Tryd.prog 74 #[.int .i64 n, .slice xv xs.length xc] w1 fun e w' => e = .returned (.bool Q) ∧ w' = w1) := by
          rintro Q rfl
          exact implAtsOk xv xc xs n w1 (by omega) hxr
        cases hj : jtx n (bare xs) with
        | false =>
          obtain ⟨e1, e2, e3⟩ := HNE.out (fun h => by rw [hj] at h; cases h.2)
          have HE := HEN.out ⟨e1, e2, e3⟩
          have HE2 : Hid (w1.ownsRow w.heap.size 3 1 (.slice none 0 0) (hoA s n).length ((hoA s n).map (Value.int .i64))) := HE
          have HK := HAK.out false hj
          have HK2 : Hid (Calls Tryd.prog 74 #[.int .i64 n, .slice xv xs.length xc] w1 fun e w' => e = .returned (.bool false) ∧ w' = w1) := HK
          have HE3 : Hid (hoS s n = 0 ∧ hoOk s n = false) := ⟨e2, e3⟩
          clear HE HEN HK HAK e1 e2 e3 HNE HY1 hj hxr hln
          go_wp2_with (first
            | (go_at_call 73; refine HP2.out.mono ?_; rintro e w2 ⟨rfl, hw2⟩; subst w2)
            | (go_at_call 74; refine HK2.out.mono ?_; rintro e w2 ⟨rfl, hw2⟩; subst w2))
          go_ret3
          exact ⟨_, by rw [HE3.out.1, HE3.out.2]; rfl, HE2.out, HB1.out⟩
        | true =>
          obtain ⟨e1, e2, e3⟩ := HY1.out h74 hln hj
          have HK := HAK.out true hj
          have HK2 : Hid (Calls Tryd.prog 74 #[.int .i64 n, .slice xv xs.length xc] w1 fun e w' => e = .returned (.bool true) ∧ w' = w1) := HK
          have HGS : Hid (Calls Tryd.prog 75 #[.slice (some ⟨w.heap.size, p, none⟩) 4 (cap - p)] w1 fun e w' => e = .returned (.int .i64 ((gsum (b.drop p) : Nat) : Int)) ∧ w' = w1) := by
            have := implGetSum w.heap.size p (cap - p) (b.drop p) w1 (by simp; omega) (fun x hx => HU.out x (List.mem_of_mem_drop hx)) (fun i hi => by
              simp at hi
              rw [HC.out w1 HB0.out (p + i) (by omega)]
              simp [List.getD, List.getElem?_drop])
            rwa [show (b.drop p).length = 4 by simp; omega] at this
          have HE2 : Hid (w1.ownsRow w.heap.size 3 1 (.slice xv xs.length xc) (hoA s n).length ((hoA s n).map (Value.int .i64))) := by show World.ownsRow _ _ _ _ _ _ _; rw [e1]; exact ownsRow_base HO1.out HBW.out.size
          have HE3 : Hid (hoS s n = gsum (b.drop p) ∧ hoOk s n = true) := ⟨e2, e3⟩
          have hp0 : (0 : Int) ≤ (p : Int) := by omega
          have hp1 : (p : Int) ≤ (b.length : Int) := by omega
          have hp4 : b.length - p = 4 := by omega
          clear HEN HK HAK e1 e2 e3 HNE HY1 hj hxr HC HU HO1 hln
          generalize gsum (b.drop p) = sm at *
          go_wp2_with (first
            | (go_at_call 73; refine HP2.out.mono ?_; rintro e w2 ⟨rfl, hw2⟩; subst w2)
            | (go_at_call 74; refine HK2.out.mono ?_; rintro e w2 ⟨rfl, hw2⟩; subst w2)
            | (go_at_call 75; refine HGS.out.mono ?_; rintro e w2 ⟨rfl, hw2⟩; subst w2))
          go_ret3
          exact ⟨_, by rw [HE3.out.1, HE3.out.2]; rfl, HE2.out, HB1.out⟩
      · have hln2 : ¬ (b.length : Int) - (p : Int) = 4 := by omega
        obtain ⟨e1, e2, e3⟩ := HNE.out (fun h => hln h.1)
        have HE := HEN.out ⟨e1, e2, e3⟩
        have HE2 : Hid (w1.ownsRow w.heap.size 3 1 (.slice none 0 0) (hoA s n).length ((hoA s n).map (Value.int .i64))) := HE
        have HE3 : Hid (hoS s n = 0 ∧ hoOk s n = false) := ⟨e2, e3⟩
        have hln3 : ((b.length : Int) - (p : Int) == 4) = false := by simpa using hln2
        have hln4 : ((b.length : Int) - (p : Int) != 4) = true := by simpa using hln2
        clear HE HEN e1 e2 e3 HNE HY1 hxr
        go_wp2_with (go_at_call 73; refine HP2.out.mono ?_; rintro e w2 ⟨rfl, hw2⟩; subst w2)
        go_ret3
        exact ⟨_, by rw [HE3.out.1, HE3.out.2]; rfl, HE2.out, HB1.out⟩
    · obtain ⟨e1, e2, e3⟩ := HN1.out h74
      have HP := HHP.out false w1 (decide_eq_false h74)
      have HP2 : Hid (Calls Tryd.prog 73 #[.string s, .string ⟨#[74]⟩] w1 fun e w' => e = .returned (.bool false) ∧ w' = w1) := HP
      have HE := HEN.out ⟨e1, e2, e3⟩
      have HE2 : Hid (w1.ownsRow w.heap.size 3 1 (.slice none 0 0) (hoA s n).length ((hoA s n).map (Value.int .i64))) := HE
      have HE3 : Hid (hoS s n = 0 ∧ hoOk s n = false) := ⟨e2, e3⟩
      clear HE HEN e1 e2 e3 HNE HN1 HY1 hxr HP HHP
      go_wp2_with (go_at_call 73; refine HP2.out.mono ?_; rintro e w2 ⟨rfl, hw2⟩; subst w2)
      go_ret3
      exact ⟨_, by rw [HE3.out.1, HE3.out.2]; rfl, HE2.out, HB1.out⟩
end Go.Proofs.YtlidmnehpcodkaaDoor
