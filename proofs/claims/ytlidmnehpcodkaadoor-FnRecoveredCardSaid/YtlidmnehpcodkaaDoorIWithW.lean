/-
  Own text: a disk with one write more, as the program makes it beside the old one.
-/
import Derived.Test.YtlidmnehpcodkaaDoorIFallW
import Derived.Deep.RegionLawGrows
namespace Go.Proofs.YtlidmnehpcodkaaDoor
open Go.RowKit

theorem rd_flatP {w : World} {b : Addr} {l : List PutD} (h : RdF encP 2 w (some b) l) : ∀ j u, (l.flatMap encP)[j]? = some u → w.cell? (b.add j) = some u := by
  intro j u hj
  rcases h with rfl | ⟨g, off, h, hlt, hc⟩
  · simp at hj
  · cases h
    have hjl : j < l.length * 2 := by have := (List.getElem?_eq_some_iff.1 hj).1; rw [flat_len_c encP_len] at this; exact this
    have e := flat_get encP_len l (j / 2) (by omega) (j % 2) (by omega)
    rw [show j / 2 * 2 + j % 2 = j by omega, hj] at e
    have := hc (j / 2) (by omega) (j % 2) (by omega)
    rw [Go.WideShapes.add_plain, show off + j = off + j / 2 * 2 + j % 2 by omega, this, ← e]
theorem Below.ofGrown {w w' : World} (h : w.grownBy w' none) : Below w.heap.size w w' := (Below.refl _ _).grown h (Nat.le_refl _) (fun k hk => by cases hk)

set_option maxRecDepth 20000 in
set_option maxHeartbeats 2000000 in
theorem implWith (P : Nat) (a b : Option Addr) (ca cb : Nat) (d : DiskD) (n : Int) (s : ByteArray) (w : World) (hl : d.2.length ≤ 4194303)
    (hc0 : w.cell? ⟨P, 0, none⟩ = some (.slice a d.1.length ca)) (hc1 : w.cell? ⟨P, 1, none⟩ = some (.slice b d.2.length cb)) (hcap : d.2.length ≤ cb) (hnil : b = none → d.2.length = 0) (r2 : RdF encP 2 w b d.2) :
    Calls Tryd.prog 101 #[.pointer (some ⟨P, 0, none⟩), .agg #[.int .i64 n, .string s]] w fun e w' => ∃ Q b' cb', e = .returned (.pointer (some ⟨Q, 0, none⟩)) ∧ Var w' Q #[.slice a d.1.length ca, .slice b' (d.2.length + 1) cb'] 27 ∧ RdF encP 2 w' b' (d.2 ++ [(n, s)]) ∧ w.heap.size ≤ Q ∧ Below w.heap.size w w' := by
  obtain ⟨i1, gi, gz0, gz1, gz2⟩ := info_parts Tryd.infoPut
  have HC : Hid (∀ W, Below w.heap.size w W → W.cell? ⟨P, 0, none⟩ = some (.slice a d.1.length ca) ∧ W.cell? ⟨P, 1, none⟩ = some (.slice b d.2.length cb)) := fun W h => ⟨(h.cell (World.block_lt_of_cell? _ _ hc0)).trans hc0, (h.cell (World.block_lt_of_cell? _ _ hc1)).trans hc1⟩
  have HR : Hid (∀ W, Below w.heap.size w W → ∀ x, b = some x → ∀ j u, (d.2.flatMap encP)[j]? = some u → W.cell? (x.add j) = some u) := fun W h x hx => rd_flatP (by rw [← hx]; exact r2.below h (Nat.le_refl _))
  have HN : Hid (b = none → d.2.length = 0 ∧ d.2.length = 0) := fun h => ⟨hnil h, hnil h⟩
  have HFL : Hid ((d.2.flatMap encP).length = d.2.length * 2) := flat_len_c encP_len _
  have HFA : Hid ((d.2 ++ [(n, s)]).flatMap encP = d.2.flatMap encP ++ [.int .i64 n, .string s]) := by show _ = _; rw [List.flatMap_append]; simp [encP]
  have HLA : Hid ((d.2 ++ [(n, s)]).length = d.2.length + 1) := by show _ = _; simp
  have hx0 := (HC.out _ (below1 w (.cells #[.int .i64 n, .string s] 39))).1
  have hx1 := (HC.out _ (below1 w (.cells #[.int .i64 n, .string s] 39))).2
  have hbx : Var (w.alloc (.cells #[.int .i64 n, .string s] 39)) w.heap.size #[.int .i64 n, .string s] 39 := Var.made w _ _
  have hp0 : (w.alloc (.cells #[.int .i64 n, .string s] 39)).cell? ⟨w.heap.size, 0, none⟩ = some (.int .i64 n) := hbx.cell 0
  have hp1 : (w.alloc (.cells #[.int .i64 n, .string s] 39)).cell? ⟨w.heap.size, 1, none⟩ = some (.string s) := hbx.cell 1
  clear r2 hc0 hc1 hnil
  go_enter Tryd.func101, Tryd.ntmps101
  go_wp2
  generalize hW : w.alloc (.cells #[.int .i64 n, .string s] 39) = W0 at *
  have hb0 : Below w.heap.size w W0 := by rw [← hW]; exact below1 _ _
  have HB0 : Hid (Below w.heap.size w W0) := hb0
  have HL0 : Hid (w.heap.size + 1 = W0.heap.size) := by show _ = _; rw [← hW]; simp
  have hn0 : (0 : Int) ≤ (d.2.length : Int) := by omega
  have hn1 : (d.2.length : Int) ≤ (cb : Int) := by omega
  obtain ⟨hu0, hu1⟩ := HC.out _ (HB0.out.alloc HB0.out.size (.cells #[.int .i64 n, .string s] 39))
  have hm : Var (W0.alloc (.cells #[.int .i64 n, .string s] 39)) W0.heap.size #[.int .i64 n, .string s] 39 := Var.made W0 _ _
  have HM : Hid (∀ j u, [Value.int .i64 n, .string s][j]? = some u → (W0.alloc (.cells #[.int .i64 n, .string s] 39)).cell? ((⟨W0.heap.size, 0, none⟩ : Addr).add j) = some u) := by
    intro j u hj
    rw [Go.WideShapes.add_plain, Nat.zero_add, hm.cell j]
    simpa using hj
  clear hb0 hbx hm hW
  go_region_law (first
    | (refine step_append_grows (by rfl) (.tmp 21) (.tmp 23) 25 (by rfl) 39 i1 (.agg #[.int .i64 0, .string ⟨#[]⟩]) 2 24 Tryd.underlying25 gi gz0 gz1 gz2 rfl (by decide) b d.2.length d.2.length (d.2.flatMap encP) (by simp [Act.eval, Act.put]) HN.out HFL.out (HR.out _ (by exact (HB0.out.alloc HB0.out.size _).drew)) ⟨W0.heap.size, 0, none⟩ 1 1 [.int .i64 n, .string s] (by simp [Act.eval, Act.put]) rfl (by exact HM.out) (by intro u hu; simp at hu; rcases hu with rfl | rfl <;> rfl) (by omega) (by unfold maxLen; omega) (by omega) ?_
       intro v' w1 ho1 hg1
       have ho1' : w1.ownsRow (W0.heap.size + 1) 39 2 v' (d.2.length + 1) ((d.2 ++ [(n, s)]).flatMap encP) := by rw [HFA.out]; have := ho1; simp at this; exact this
       obtain ⟨b1, c1, rfl, _, hr1⟩ := own_rdF encP_len ho1' HLA.out
       have hb1 : Below w.heap.size w w1 := (HB0.out.alloc HB0.out.size (.cells #[.int .i64 n, .string s] 39)).drew.trans ((Below.ofGrown hg1).mono (by have := HB0.out.size; simp; omega))
       have HR1 : Hid (RdF encP 2 w1 b1 (d.2 ++ [(n, s)])) := hr1
       have HB1 : Hid (Below w.heap.size w w1) := hb1
       have hy0 := (HC.out _ hb1).1
       clear hb1 hr1 ho1 ho1' hg1))
  all_goals
    have hV9 := Var.made w1 #[.slice a d.1.length ca, .slice b1 (d.2.length + 1) c1] 27
    have hb9 : Below w.heap.size w (w1.alloc (.cells #[.slice a d.1.length ca, .slice b1 (d.2.length + 1) c1] 27)) := HB1.out.alloc HB1.out.size _
    have hr9 := HR1.out.below (below1 w1 (.cells #[.slice a d.1.length ca, .slice b1 (d.2.length + 1) c1] 27)) (Nat.le_refl _)
    have hs9 := HB1.out.size
    go_wp2
    go_ret
    exact ⟨_, b1, c1, rfl, hV9, hr9, hs9, hb9⟩
end Go.Proofs.YtlidmnehpcodkaaDoor
