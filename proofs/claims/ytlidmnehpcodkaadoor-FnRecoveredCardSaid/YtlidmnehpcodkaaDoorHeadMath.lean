/-
  Own text, plain: what HeadOf tells, and when there is no head.
-/
import Derived.Test.YtlidmnehpcodkaaDoorBunC
namespace Go.Proofs.YtlidmnehpcodkaaDoor
open Go.RowKit

noncomputable def hoA (s : ByteArray) (n : Int) : List Int := ((headOf s n).map (·.1)).getD []
noncomputable def hoS (s : ByteArray) (n : Int) : Nat := ((headOf s n).map (·.2)).getD 0
noncomputable def hoOk (s : ByteArray) (n : Int) : Bool := (headOf s n).isSome
theorem ho_yes {s : ByteArray} {n : Int} {ats : List Int} {sum : Nat} (h : HeadP (bytesOf s) n ats sum) : hoA s n = ats ∧ hoS s n = sum ∧ hoOk s n = true := by
  unfold hoA hoS hoOk
  rw [headOf_some h]
  exact ⟨rfl, rfl, rfl⟩
theorem ho_no {s : ByteArray} {n : Int} (h : ∀ ats sum, ¬ HeadP (bytesOf s) n ats sum) : hoA s n = [] ∧ hoS s n = 0 ∧ hoOk s n = false := by
  unfold hoA hoS hoOk
  rw [headOf_none h]
  exact ⟨rfl, rfl, rfl⟩
theorem AtsFrom.next {b : List Int} : ∀ {xs ys : List Int} {a p q : Nat}, AtsFrom b a xs p → AtsFrom b a ys q → xs.length < ys.length → ∃ n next, Good b (p : Int) n next
  | [], y :: ys, a, p, q, h, ⟨n, nx, hg, _⟩, _ => by cases h; exact ⟨n, nx, hg⟩
  | x :: xs, y :: ys, a, p, q, ⟨n, nx, hg, _, hr⟩, ⟨n', nx', hg', _, hr'⟩, hl => by
    obtain ⟨rfl, rfl⟩ := hg.unique hg'
    exact hr.next hr' (by simpa using hl)
theorem no_num {b : List Int} {n : Int} (h : ∀ m at', ¬ Good b 1 m at') : ∀ ats sum, ¬ HeadP b n ats sum := by
  rintro ats sum ⟨m, a, q, hg, _⟩
  exact h m a hg
theorem no_first {b : List Int} {n : Int} (h : b.getD 0 0 ≠ 74) : ∀ ats sum, ¬ HeadP b n ats sum := by
  rintro ats sum ⟨m, a, q, _, h1, _⟩
  exact h h1
theorem no_many {b : List Int} {n : Int} {many at' : Nat} (hg : Good b 1 many at') (h : ¬ (1 ≤ many ∧ many ≤ 48)) : ∀ ats sum, ¬ HeadP b n ats sum := by
  rintro ats sum ⟨m, a, q, hg', _, h1, h2, _⟩
  obtain ⟨rfl, rfl⟩ := hg.unique hg'
  exact h ⟨h1, h2⟩
theorem no_at {b : List Int} {n : Int} {many at' p : Nat} {xs : List Int} (hg : Good b 1 many at') (hx : AtsFrom b at' xs p) (hl : xs.length < many) (h : ∀ m x, ¬ Good b (p : Int) m x) : ∀ ats sum, ¬ HeadP b n ats sum := by
  rintro ats sum ⟨m, a, q, hg', _, _, _, h1, h2, _⟩
  obtain ⟨rfl, rfl⟩ := hg.unique hg'
  obtain ⟨y, z, hy⟩ := hx.next h2 (by omega)
  exact h y z hy
theorem no_end {b : List Int} {n : Int} {many at' p : Nat} {xs : List Int} (hg : Good b 1 many at') (hx : AtsFrom b at' xs p) (hl : xs.length = many) (h : ¬ (b.length = p + 4 ∧ jtx n (xs.map fun x => (x, (⟨#[]⟩ : ByteArray))) = true)) : ∀ ats sum, ¬ HeadP b n ats sum := by
  rintro ats sum ⟨m, a, q, hg', _, _, _, h1, h2, h3, h4, _⟩
  obtain ⟨rfl, rfl⟩ := hg.unique hg'
  obtain ⟨rfl, rfl⟩ := hx.unique h2 (by omega)
  exact h ⟨h3, jtx_yes h4⟩
theorem AtsFrom.le {b : List Int} : ∀ {xs : List Int} {a p : Nat}, AtsFrom b a xs p → a ≤ b.length → p ≤ b.length
  | [], a, p, h, ha => by cases h; exact ha
  | x :: xs, a, p, ⟨n, nx, hg, _, hr⟩, ha => by
    obtain ⟨_, k, _, ⟨_, h1, _, _⟩, _, _, _, h3⟩ := hg
    exact hr.le (by omega)
theorem Good.le {l : List Int} {at' : Int} {n next : Nat} (h : Good l at' n next) : next ≤ l.length ∧ n ≤ 2147483647 ∧ at' < (l.length : Int) ∧ 0 ≤ at' := by
  obtain ⟨p, k, hp, ⟨_, h1, _, _⟩, _, _, h2, h3⟩ := h
  exact ⟨by omega, h2, by omega, by omega⟩
theorem hoA_len (s : ByteArray) (n : Int) : (hoA s n).length ≤ 48 := by
  unfold hoA
  cases h : headOf s n with
  | none => simp
  | some p =>
    obtain ⟨ats, sum⟩ := p
    obtain ⟨m, a, q, _, _, _, h2, h3, _⟩ := headOf_spec h
    show ats.length ≤ 48
    omega
end Go.Proofs.YtlidmnehpcodkaaDoor
