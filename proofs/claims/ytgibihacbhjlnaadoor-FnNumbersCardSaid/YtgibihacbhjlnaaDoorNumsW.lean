/-
  Own text: small contracts that FnNumbers' walk wants.
-/
import Derived.Test.YtgibihacbhjlnaaDoorNumsMath
import Derived.Test.YtgibihacbhjlnaaDoorPickW
import Derived.Test.YtgibihacbhjlnaaDoorGetTextW
import Derived.Test.YtgibihacbhjlnaaDoorCrcW
namespace Go.Proofs.YtgibihacbhjlnaaDoor
open Go.RowKit

theorem bigC (x : Option Addr) (len cap : Nat) (w : World) : Calls Tryd.prog 8 #[.slice x len cap] w fun e w' => e = .returned (.bool (decide ((1048576 : Int) < (len : Int)))) ∧ w' = w := by
  go_enter Tryd.func8, Tryd.ntmps8
  go_wp2
  go_ret
  exact ⟨rfl, rfl⟩

/-- A row of the call's own, as what is appended. -/
theorem own_src {w : World} {base n : Nat} {v : Value} {l : List Int} (h : w.ownsRow base 5 1 v n (l.map (Value.int .u8))) : Src Tryd.prog 1 22 v n (l.map (Value.int .u8)) w := by
  have hl : l.length = n := by have := h.1; simpa using this
  rcases h.2 with ⟨rfl, h0⟩ | ⟨g, cap, cur, rfl, _⟩
  · subst h0
    obtain rfl : l = [] := List.eq_nil_of_length_eq_zero hl
    exact Src.ofNil w Tryd.underlying22 0
  · exact Src.ofSlice w Tryd.underlying22 ⟨g, 0, none⟩ n cap _ (by simp [hl]) (h.cells (g := g) rfl) (fun u hu => by obtain ⟨_, _, rfl⟩ := List.mem_map.1 hu; rfl)

/-- A row of the call's own, as what GetNum and GetText are handed. -/
theorem own_came {w : World} {base n : Nat} {v : Value} {l : List Int} (hu : U8 l) (hl : l.length ≤ 1048581) (h : w.ownsRow base 5 1 v n (l.map (Value.int .u8))) :
    ∃ x cap, v = .slice x l.length cap ∧ Came w x cap l := by
  have hn : l.length = n := by have := h.1; simpa using this
  rcases h.2 with ⟨rfl, h0⟩ | ⟨g, cap, cur, rfl, hb, hg, hnc, hcm, _⟩
  · subst h0
    obtain rfl : l = [] := List.eq_nil_of_length_eq_zero hn
    exact ⟨none, 0, rfl, ⟨hl, hu, Nat.le_refl _, Nat.zero_le _, .inl rfl⟩⟩
  · subst hn
    exact ⟨some ⟨g, 0, none⟩, cap, rfl, ⟨hl, hu, hnc, hcm, Rd.own h⟩⟩

theorem Came.below {w w' : World} {B : Nat} {x : Option Addr} {cap : Nat} {l : List Int} (h : Came w x cap l) (hb : Below B w w') (hB : w.heap.size ≤ B) : Came w' x cap l :=
  ⟨h.hsmall, h.hu8, h.hcap, h.hmax, h.hrd.below hb hB⟩

/-- The bytes that FnNumbers writes. -/
def bL (n : Int) (s : ByteArray) : List Int := [7] ++ putNum n ++ putText s
theorem bL_u8 (n : Int) (s : ByteArray) : U8 (bL n s) := by
  intro x hx
  simp only [bL, List.mem_append, List.mem_singleton] at hx
  rcases hx with (rfl | h) | h
  · omega
  · exact putNum_u8 n x h
  · exact putText_u8 s x h
theorem putNum_pos (N : Nat) (h : N ≤ 2147483647) : 0 < (putNum (N : Int)).length := by
  rw [putNum, if_pos (by omega)]
  simp only [Int.toNat_natCast]
  unfold vlq
  split <;> simp
theorem goodT_bL (n : Int) (s : ByteArray) (hs : s.size ≤ 1048576) : GoodT (bL n s) ((1 + (putNum n).length : Nat) : Int) s (bL n s).length := by
  have h := goodT_mid ([7] ++ putNum n) [] s hs
  simp only [List.append_nil] at h
  have e1 : ([7] ++ putNum n : List Int).length = 1 + (putNum n).length := by simp; omega
  have e2 : ([7] ++ putNum n : List Int).length + (putText s).length = (bL n s).length := by simp [bL]; omega
  rw [e2, e1] at h
  exact h
theorem goodT_bL0 (n : Int) (s : ByteArray) (hs : s.size ≤ 1048576) (h0 : putNum n = []) : GoodT (bL n s) 1 s (bL n s).length := by
  have h := goodT_bL n s hs
  rw [h0] at h
  exact h

theorem turn_val (d : Int) (r : Nat) (_h0 : 0 ≤ d) (_h1 : d < 256) :
    0 ≤ IntKind.u8.wrap (d + IntKind.u8.wrap (IntKind.i64.wrap (1 + (r : Int).tmod 255))) ∧ IntKind.u8.wrap (d + IntKind.u8.wrap (IntKind.i64.wrap (1 + (r : Int).tmod 255))) < 256 ∧ IntKind.u8.wrap (d + IntKind.u8.wrap (IntKind.i64.wrap (1 + (r : Int).tmod 255))) ≠ d := by
  have e : (r : Int).tmod 255 = (r : Int) % 255 := Int.tmod_eq_emod_of_nonneg (by omega)
  rw [e, IntKind.wrap_u8, IntKind.wrap_u8, IntKind.wrap_i64]
  omega
theorem rd_keep {w w' : World} {B : Nat} {x : Option Addr} {l : List Int} (h : Rd .u8 w x l) (hx : ∀ b off, x = some ⟨b, off, none⟩ → b < B) (hb : Below B w w') : Rd .u8 w' x l := by
  rcases h with h | ⟨b, off, ha, hlt, hc⟩
  · exact .inl h
  · exact .inr ⟨b, off, ha, by have := hb.size; omega, fun i hi => (hb.cell (by exact hx b off ha)).trans (hc i hi)⟩
end Go.Proofs.YtgibihacbhjlnaaDoor
