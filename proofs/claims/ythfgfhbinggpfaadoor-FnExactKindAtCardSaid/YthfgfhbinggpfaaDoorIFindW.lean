/-
  Own text: an entry is found by its name, by the program.
-/
import Derived.Test.YthfgfhbinggpfaaDoorBunZN
namespace Go.Proofs.YthfgfhbinggpfaaDoor
open Go.RowKit

def isN (s : ByteArray) (e : EntD) : Bool := decide (e.1 = s)
theorem findIdx_isN (l : List EntD) (s : ByteArray) : l.findIdx (isN s) = l.findIdx (fun x => decide (x.1 = s)) := rfl

set_option maxRecDepth 20000 in
theorem implFind (a : Option Addr) (c : Nat) (l : List EntD) (s : ByteArray) (w : World) (hl : l.length ≤ 4194304) (hr : RdF encN 2 w a l) :
    Calls Tryd.prog 61 #[.slice a l.length c, .string s] w fun e w' => e = .returned (.int .i64 (idxF l (isN s))) ∧ Below w.heap.size w w' := by
  have hb := below1 w (.cells #[.string s] 9)
  have hp : (w.alloc (.cells #[.string s] 9)).cell? ⟨w.heap.size, 0, none⟩ = some (.string s) := (Var.made w #[.string s] 9).cell 0
  have hlt : w.heap.size < (w.alloc (.cells #[.string s] 9)).heap.size := by simp
  have HC : Hid (∀ t n W, Below (w.alloc (.cells #[.string s] 9)).heap.size (w.alloc (.cells #[.string s] 9)) W → Calls Tryd.prog 83 #[.agg #[.string t, .int .i64 n], .pointer (some ⟨w.heap.size, 0, none⟩)] W fun e w' => e = .returned (.bool (isN s (t, n))) ∧ Below W.heap.size W w') :=
    fun t n W h => findC w.heap.size s t n W (by have := h.size; omega) ((h.cell hlt).trans hp)
  have HR : Hid (RdF encN 2 (w.alloc (.cells #[.string s] 9)) a l) := hr.below hb (Nat.le_refl _)
  clear hp hlt hr
  go_enter Tryd.func61, Tryd.ntmps61
  go_wp2_with fail
  refine (indexFind _ (isN s) a c l _ hl HR.out HC).mono ?_
  rintro e w2 ⟨rfl, hb2⟩
  have hb3 := hb.trans (hb2.mono hb.size)
  go_wp2
  go_ret
  exact ⟨rfl, hb3⟩

set_option maxRecDepth 20000 in
theorem implDirFind (a : Option Addr) (c : Nat) (l : List EntD) (s : ByteArray) (w : World) (hl : l.length ≤ 4194304) (hr : RdF encN 2 w a l) :
    Calls Tryd.prog 37 #[.slice a l.length c, .string s] w fun e w' => e = .returned (.int .i64 (enFind l s)) ∧ Below w.heap.size w w' := by
  have HCS : Hid (∀ k (hk : k < l.length), ∃ b off, a = some ⟨b, off, none⟩ ∧ b < w.heap.size ∧ ∀ j, j < 2 → w.cell? ⟨b, off + k * 2 + j, none⟩ = (encN l[k])[j]?) := fun k hk => hr.at k hk
  by_cases h : l.findIdx (isN s) < l.length
  · have hf : enFind l s = (l[l.findIdx (isN s)]).2 := by unfold enFind; rw [dif_pos (by exact h)]; rfl
    have hi : idxF l (isN s) = ((l.findIdx (isN s) : Nat) : Int) := by unfold idxF; rw [if_pos h]
    have HI := implFind a c l s w hl hr
    rw [hi] at HI
    rw [hf]
    obtain ⟨b, off, rfl, hblt, hcell⟩ := HCS.out _ h
    have hc1 : w.cell? ⟨b, off + l.findIdx (isN s) * 2 + 1, none⟩ = some (.int .i64 (l[l.findIdx (isN s)]).2) := hcell 1 (by omega)
    clear hcell HCS hi hf hr
    generalize (l[l.findIdx (isN s)]).2 = n at *
    generalize l.findIdx (isN s) = k at *
    have HH : Hid (Calls Tryd.prog 61 #[.slice (some ⟨b, off, none⟩) l.length c, .string s] w fun e w' => e = .returned (.int .i64 (k : Nat)) ∧ Below w.heap.size w w') := HI
    clear HI
    go_enter Tryd.func37, Tryd.ntmps37
    go_wp2_with fail
    refine (HH.out).mono ?_
    rintro e w2 ⟨rfl, hb2⟩
    have hc2 := (hb2.cell (by exact hblt)).trans hc1
    go_wp2
    go_ret
    exact ⟨rfl, hb2⟩
  · have hf : enFind l s = -1 := by unfold enFind; rw [dif_neg (by exact h)]
    have hi : idxF l (isN s) = -1 := by unfold idxF; rw [if_neg h]
    have HI := implFind a c l s w hl hr
    rw [hi] at HI
    rw [hf]
    have HH : Hid (Calls Tryd.prog 61 #[.slice a l.length c, .string s] w fun e w' => e = .returned (.int .i64 (-1)) ∧ Below w.heap.size w w') := HI
    clear HI hr hf hi h HCS
    go_enter Tryd.func37, Tryd.ntmps37
    go_wp2_with fail
    refine (HH.out).mono ?_
    rintro e w2 ⟨rfl, hb2⟩
    go_wp2
    go_ret
    exact ⟨rfl, hb2⟩
end Go.Proofs.YthfgfhbinggpfaaDoor
