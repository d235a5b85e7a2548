/-
  Own text: a part of a slice of bytes, as a text.
-/
import Derived.Test.YtogpgocldgdeaaaDoorAtW
namespace Go.Proofs.YtogpgocldgdeaaaDoor
open Go.RowKit

/-- Where the part of a slice begins that is cut out from place lo on. -/
def subAddr (b off lo cap : Nat) : Addr := if cap = lo then ⟨b, off, none⟩ else ⟨b, off + lo, none⟩
theorem slice_run (b off len cap lo n : Nat) (h : lo + n ≤ cap) (W : World) :
    (Instr.slice 22 (.slice (some ⟨b, off, none⟩) len cap) (some (.int .i64 (lo : Int))) (some (.int .i64 ((lo : Int) + (n : Int)))) none).run Tryd.prog W = .ok (.slice (some (subAddr b off lo cap)) n (cap - lo)) W := by
  have hs : (sizeOf (Tryd.prog.elem 22)).run Tryd.prog W = .ok 1 W := by kernel_rfl
  have hu : Tryd.prog.underlying 22 = some (.slice (Tryd.prog.elem 22)) := by kernel_rfl
  rw [run_slice_lh W 22 (some ⟨b, off, none⟩) len cap hu .i64 .i64 (lo : Int) ((lo : Int) + (n : Int)) (by omega) (by omega) (by omega), hs]
  simp only [Result.andThen, sliced, subAddr]
  have e1 : ((lo : Int) + (n : Int)).toNat - (lo : Int).toNat = n := by omega
  have e2 : (lo : Int).toNat = lo := by omega
  rw [e1, e2]
  by_cases hc : cap = lo
  · simp [hc]
  · simp [hc, Addr.add_lit]

/-- The text that stands from place lo on, n bytes long. -/
def subT (l : List Int) (lo n : Nat) : ByteArray := bytesS ((l.drop lo).take n)
theorem conv_sub {b off cap lo n : Nat} {l : List Int} {W : World} (hu : U8 l) (hl : lo + n ≤ l.length) (hcap : l.length ≤ cap) (hc : ∀ i, i < l.length → W.cell? ⟨b, off + i, none⟩ = some (.int .u8 (l.getD i 0))) :
    (convert 22 9 (.slice (some (subAddr b off lo cap)) n (cap - lo))).run Tryd.prog W = .ok (.string (subT l lo n)) W := by
  have hus : U8 ((l.drop lo).take n) := fun x hx => hu x (List.mem_of_mem_drop (List.mem_of_mem_take hx))
  have hlen : ((l.drop lo).take n).length = n := by simp; omega
  by_cases h0 : n = 0
  · subst h0
    unfold subAddr
    have e : (l.drop lo).take 0 = [] := rfl
    split
    · have := conv_rd (w := W) (b := b) (off := off) (cap := cap - lo) (l := []) (fun x hx => by simp at hx) (fun i hi => by simp at hi)
      simpa [subT] using this
    · have := conv_rd (w := W) (b := b) (off := off + lo) (cap := cap - lo) (l := []) (fun x hx => by simp at hx) (fun i hi => by simp at hi)
      simpa [subT] using this
  · have e : subAddr b off lo cap = ⟨b, off + lo, none⟩ := by unfold subAddr; rw [if_neg (by omega)]
    rw [e]
    have := conv_rd (w := W) (b := b) (off := off + lo) (cap := cap - lo) (l := (l.drop lo).take n) hus (fun i hi => by
      rw [hlen] at hi
      rw [Nat.add_assoc, hc (lo + i) (by omega)]
      congr 2
      simp [List.getD, hi])
    rw [hlen] at this
    exact this

/-- There is a text at this place: s, and 'fin' is the place behind it. -/
def GoodT (l : List Int) (at' : Int) (s : ByteArray) (fin : Nat) : Prop :=
  ∃ n next, Good l at' n next ∧ next + n ≤ l.length ∧ s = subT l next n ∧ fin = next + n
theorem GoodT.unique {l : List Int} {at' : Int} {s s' : ByteArray} {e e' : Nat} (h : GoodT l at' s e) (h' : GoodT l at' s' e') : s = s' ∧ e = e' := by
  obtain ⟨n, x, h1, _, h2, h3⟩ := h
  obtain ⟨n', x', h1', _, h2', h3'⟩ := h'
  obtain ⟨rfl, rfl⟩ := h1.unique h1'
  exact ⟨by rw [h2, h2'], by rw [h3, h3']⟩
theorem Good.next_le {l : List Int} {at' : Int} {n next : Nat} (h : Good l at' n next) : next ≤ l.length ∧ n ≤ 2147483647 := by
  obtain ⟨p, k, _, ⟨_, h1, _, _⟩, _, _, h2, h3⟩ := h
  exact ⟨by omega, h2⟩
theorem notGoodT {l : List Int} {at' : Int} (h : ∀ n next, ¬ Good l at' n next) : ∀ s e, ¬ GoodT l at' s e := by
  rintro s e ⟨n, x, h1, _⟩
  exact h n x h1
theorem longGoodT {l : List Int} {at' : Int} {n next : Nat} (h : Good l at' n next) (hlong : l.length < next + n) : ∀ s e, ¬ GoodT l at' s e := by
  rintro s e ⟨n', x', h1, h2, _⟩
  obtain ⟨rfl, rfl⟩ := h.unique h1
  omega
end Go.Proofs.YtogpgocldgdeaaaDoor
