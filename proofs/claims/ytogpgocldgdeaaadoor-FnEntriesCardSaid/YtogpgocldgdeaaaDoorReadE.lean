/-
  Own text: which entries a text tells.
-/
import Derived.Test.YtogpgocldgdeaaaDoorSEokW
import Derived.Test.YtogpgocldgdeaaaDoorBunN
import Derived.Laws.IdiomStrings
namespace Go.Proofs.YtogpgocldgdeaaaDoor
open Go.RowKit

theorem bytes_rowE (s : ByteArray) (w : World) (hs : s.size ≤ 1048576) : ∃ cap W, (convert 9 22 (.string s)).run Tryd.prog w = .ok (.slice (some ⟨w.heap.size, 0, none⟩) (bytesOf s).length cap) W ∧ Rd .u8 W (some ⟨w.heap.size, 0, none⟩) (bytesOf s) ∧ Below w.heap.size w W ∧ w.heap.size < W.heap.size ∧ (bytesOf s).length ≤ cap ∧ cap ≤ maxLen := by
  have hcv := run_bytes_of_string (P := Tryd.prog) w 9 22 5 s Tryd.underlying9 Tryd.underlying22 Tryd.underlying5
  have hge := grownCap_ge w s.size 0 5
  have hle := grownCap_le_maxLen w s.size 0 5 (by unfold maxLen; omega)
  generalize hcap : grownCap w s.size 0 5 = cap at hcv hge hle
  generalize hW : w.drew.alloc (.cells (bytesRow s cap) 5 ((bytesRow s cap).size, (bytesRow s cap).size + 1)) = W at hcv
  have e1 : W.heap[w.heap.size]? = some (.cells (bytesRow s cap) 5 ((bytesRow s cap).size, (bytesRow s cap).size + 1)) := by rw [← hW]; exact heap_alloc_new w.drew _
  refine ⟨cap, W, by rw [bytesOf_len]; exact hcv, .inr ⟨w.heap.size, 0, rfl, (Array.getElem?_eq_some_iff.1 e1).1, fun i hi => ?_⟩, by rw [← hW]; exact (Below.refl _ _).drew.alloc (Nat.le_refl _) _, (Array.getElem?_eq_some_iff.1 e1).1, by rw [bytesOf_len]; exact hge, hle⟩
  rw [bytesOf_len] at hi
  have hj : i < s.data.size := hi
  rw [Nat.zero_add, cell_of_row W w.heap.size i _ _ _ e1, bytesRow_at s cap i hj]
  simp [bytesOf, List.getD, Array.getElem?_eq_getElem hj]

/-- From this place on to its end the text tells these entries. -/
inductive ReadsE (l : List Int) : Nat → List EntD → Prop
  | nil {p : Nat} : l.length ≤ p → ReadsE l p []
  | cons {p q r n : Nat} {s : ByteArray} {es : List EntD} : p < l.length → GoodT l p s q → Good l q n r → ReadsE l r es → ReadsE l p ((s, (n : Int)) :: es)
theorem ReadsE.unique {l : List Int} {p : Nat} {es es' : List EntD} (h : ReadsE l p es) : ReadsE l p es' → es = es' := by
  induction h generalizing es' with
  | nil h =>
    intro h'
    cases h' with
    | nil _ => rfl
    | cons h1 _ _ _ => omega
  | cons h1 h2 h3 _ ih =>
    intro h'
    cases h' with
    | nil h => omega
    | cons _ g2 g3 g4 =>
      obtain ⟨rfl, rfl⟩ := h2.unique g2
      obtain ⟨rfl, rfl⟩ := h3.unique g3
      rw [ih g4]
/-- Up to this place the text has told these entries. -/
structure Acc (l : List Int) (acc : List EntD) (p : Nat) : Prop where
  fwd : ∀ es, ReadsE l p es → ReadsE l 0 (acc ++ es)
  bwd : ∀ es', ReadsE l 0 es' → ∃ es, es' = acc ++ es ∧ ReadsE l p es
  siz : szEn acc ≤ p
  all : ∀ e ∈ acc, e.1.size ≤ l.length
  le : p ≤ l.length
theorem Acc.start (l : List Int) : Acc l [] 0 := ⟨fun _ h => h, fun es h => ⟨es, rfl, h⟩, Nat.le_refl _, by simp, Nat.zero_le _⟩
theorem subT_size (l : List Int) (a n : Nat) (h : a + n ≤ l.length) : (subT l a n).size = n := by
  unfold subT bytesS
  simp [ByteArray.size]
  omega
theorem goodT_next {l : List Int} {p q : Nat} {s : ByteArray} (h : GoodT l p s q) : p + 1 + s.size ≤ q ∧ q ≤ l.length := by
  obtain ⟨n, next, ⟨p', k, h1, _, _, _, _, h6⟩, h2, rfl, rfl⟩ := h
  rw [subT_size l next n h2]
  omega
theorem good_nextE {l : List Int} {p n q : Nat} (h : Good l p n q) : p + 1 ≤ q ∧ q ≤ l.length := by
  have h2 := h.next_le.1
  obtain ⟨p', k, h1, _, _, _, _, h6⟩ := h
  omega
theorem szEn_snoc (l : List EntD) (e : EntD) : szEn (l ++ [e]) = szEn l + 1 + e.1.size := by
  unfold szEn
  rw [List.map_append, List.sum_append]
  simp
  omega
theorem Acc.step {l : List Int} {acc : List EntD} {p q r n : Nat} {s : ByteArray} (h : Acc l acc p) (hp : p < l.length) (hT : GoodT l p s q) (hN : Good l q n r) : Acc l (acc ++ [(s, (n : Int))]) r := by
  have h1 := goodT_next hT
  have h2 := good_nextE hN
  refine ⟨fun es he => ?_, fun es' he' => ?_, ?_, ?_, h2.2⟩
  · rw [List.append_assoc]
    exact h.fwd _ (.cons hp hT hN he)
  · obtain ⟨es, rfl, he⟩ := h.bwd es' he'
    cases he with
    | nil h => omega
    | cons _ g2 g3 g4 =>
      obtain ⟨rfl, rfl⟩ := hT.unique g2
      obtain ⟨rfl, rfl⟩ := hN.unique g3
      exact ⟨_, by rw [List.append_assoc]; rfl, g4⟩
  · rw [szEn_snoc]
    have := h.siz
    show szEn acc + 1 + s.size ≤ r
    omega
  · intro e he
    rcases List.mem_append.1 he with h3 | h3
    · exact h.all e h3
    · obtain rfl : e = (s, (n : Int)) := by simpa using h3
      show s.size ≤ _
      omega
theorem Acc.noText {l : List Int} {acc : List EntD} {p : Nat} (h : Acc l acc p) (hp : p < l.length) (hT : ∀ s q, ¬ GoodT l p s q) : ∀ es, ¬ ReadsE l 0 es := by
  intro es' he'
  obtain ⟨es, rfl, he⟩ := h.bwd es' he'
  cases he with
  | nil h => omega
  | cons _ g2 _ _ => exact hT _ _ g2
theorem Acc.noNum {l : List Int} {acc : List EntD} {p q : Nat} {s : ByteArray} (h : Acc l acc p) (hp : p < l.length) (hT : GoodT l p s q) (hN : ∀ n r, ¬ Good l q n r) : ∀ es, ¬ ReadsE l 0 es := by
  intro es' he'
  obtain ⟨es, rfl, he⟩ := h.bwd es' he'
  cases he with
  | nil h => omega
  | cons _ g2 g3 _ =>
    obtain ⟨rfl, rfl⟩ := hT.unique g2
    exact hN _ _ g3
theorem Acc.done {l : List Int} {acc : List EntD} {p : Nat} (h : Acc l acc p) (hp : ¬ p < l.length) : ReadsE l 0 acc := by
  have := h.fwd [] (.nil (by omega))
  rw [List.append_nil] at this
  exact this
theorem Acc.sm {l : List Int} {acc : List EntD} {p : Nat} (h : Acc l acc p) (hl : l.length ≤ 1048576) : SmE acc := ⟨by have := h.siz; have := h.le; omega, fun e he => by have := h.all e he; omega⟩
/-- What a text tells as a directory. -/
def DirP (s : ByteArray) (es : List EntD) : Prop := ReadsE (bytesOf s) 0 es ∧ enOk es = true
noncomputable def dirL (s : ByteArray) : List EntD := @dite _ (∃ es, DirP s es) (Classical.propDecidable _) (fun h => Classical.choose h) (fun _ => [])
noncomputable def dirOk (s : ByteArray) : Bool := @decide (∃ es, DirP s es) (Classical.propDecidable _)
theorem dir_yes {s : ByteArray} {es : List EntD} (h : ReadsE (bytesOf s) 0 es) (ho : enOk es = true) : dirL s = es ∧ dirOk s = true := by
  have hx : ∃ es, DirP s es := ⟨es, h, ho⟩
  refine ⟨?_, by unfold dirOk; exact @decide_eq_true _ (Classical.propDecidable _) hx⟩
  unfold dirL
  rw [dif_pos hx]
  exact (Classical.choose_spec hx).1.unique h
theorem dir_none {s : ByteArray} (h : ¬ ∃ es, DirP s es) : dirL s = [] ∧ dirOk s = false := by
  refine ⟨?_, by unfold dirOk; exact @decide_eq_false _ (Classical.propDecidable _) h⟩
  unfold dirL
  rw [dif_neg h]
theorem dir_no {s : ByteArray} (h : ∀ es, ¬ ReadsE (bytesOf s) 0 es) : dirL s = [] ∧ dirOk s = false := dir_none fun ⟨es, h1, _⟩ => h es h1
theorem dir_bad {s : ByteArray} {es : List EntD} (h : ReadsE (bytesOf s) 0 es) (ho : enOk es = false) : dirL s = [] ∧ dirOk s = false := dir_none fun ⟨es', h1, h2⟩ => by
  rw [h1.unique h, ho] at h2
  cases h2
end Go.Proofs.YtogpgocldgdeaaaDoor
