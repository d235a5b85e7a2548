/-
  Own text: a new disk, as the program makes it.
-/
import Derived.Test.YtddjgfkklgjagaaSNewW
namespace Go.Proofs.Ytddjgfkklgjagaa
open Go.RowKit

set_option maxRecDepth 20000 in
set_option maxHeartbeats 400000 in
theorem implDiskNew (n : Int) (w : World) :
    Calls Try.prog 28 #[.int .i64 n] w fun e w' => ∃ v', e = .returned (.tuple #[v', .bool (newOk n)]) ∧ OwnD w' w.heap.size v' (newD' n) ∧ Below w.heap.size w w' := by
  obtain ⟨i0, hi, hz0, hz1, hz2⟩ := info_parts Try.infoTxt
  cases hn : newOk n with
  | false =>
    have HN : Hid (newD' n = ([], [])) := new_no hn
    have hn2 : n < 1 ∨ 120 < n := by
      have : ¬ (1 ≤ n ∧ n ≤ 120) := by simpa [newOk] using hn
      omega
    clear hn
    rcases hn2 with hn2 | hn2
    all_goals
      go_enter Try.func28, Try.ntmps28
      go_wp2
      refine bodyPost_ret (results_row_tmp rfl _ _ w.heap.size 27 #[.slice none 0 0, .slice none 0 0] _ rfl (Var.made w _ _) Try.underlying27 rfl Try.sizeDisk) rfl ?_
      exact ⟨_, rfl, by rw [HN.out]; exact ⟨_, _, rfl, World.ownsRow_nil _ _ _ _, World.ownsRow_nil _ _ _ _⟩, below1 _ _⟩
  | true =>
    have HN : Hid (newD' n = (List.replicate n.toNat ⟨#[]⟩, [])) := new_yes hn
    have hn2 : 1 ≤ n ∧ n ≤ 120 := by simpa [newOk] using hn
    obtain ⟨m, rfl⟩ : ∃ m : Nat, n = m := ⟨n.toNat, by omega⟩
    obtain ⟨hn1, hn3⟩ := hn2
    clear hn
    rw [Int.toNat_natCast] at HN
    go_enter Try.func28, Try.ntmps28
    go_wp2_with (at_make; refine wpList_make_full _ rfl _ _ 24 rfl w.heap.size 9 i0 (.string ⟨#[]⟩) 1 Try.underlying24 hi hz0 hz1 _ _ _ _ m rfl rfl rfl rfl (by rw [hz2]; omega) (by unfold maxLen; omega) (by simp) ?_)
    intro w2 hown hgrow
    have hR2 : Var w2 w.heap.size #[.slice none 0 0, .slice none 0 0] 27 := (Var.made w _ _).only (Only.of_grown hgrow) (by simp)
    have hb2 : Below w.heap.size w w2 := (below1 w _).grown hgrow (by simp) (fun k hk => by simp at hk)
    have hown' : w2.ownsRow w.heap.size 9 1 (.slice (some ⟨w.heap.size + 1, 0, none⟩) m m) m ((List.replicate m ⟨#[]⟩).map Value.string) := by
      rw [← made_txt]
      exact hown
    have hO2 : OwnD w2 w.heap.size (.agg #[.slice (some ⟨w.heap.size + 1, 0, none⟩) m m, .slice none 0 0]) (List.replicate m ⟨#[]⟩, []) := by
      refine ⟨_, _, rfl, ?_, World.ownsRow_nil _ _ _ _⟩
      rw [List.length_replicate]
      exact hown'
    have HO3 : Hid (OwnD ((w2.setCell ⟨w.heap.size, 0, none⟩ (.slice (some ⟨w.heap.size + 1, 0, none⟩) m m)).setCell ⟨w.heap.size, 1, none⟩ (.slice none 0 0)) w.heap.size (.agg #[.slice (some ⟨w.heap.size + 1, 0, none⟩) m m, .slice none 0 0]) (List.replicate m ⟨#[]⟩, [])) := (hO2.setVar hR2 0 _).setVar (hR2.set 0 _) 1 _
    have HR3 : Hid (Var ((w2.setCell ⟨w.heap.size, 0, none⟩ (.slice (some ⟨w.heap.size + 1, 0, none⟩) m m)).setCell ⟨w.heap.size, 1, none⟩ (.slice none 0 0)) w.heap.size #[.slice (some ⟨w.heap.size + 1, 0, none⟩) m m, .slice none 0 0] 27) := hR2.two _ _
    have hb3 : Below w.heap.size w ((w2.setCell ⟨w.heap.size, 0, none⟩ (.slice (some ⟨w.heap.size + 1, 0, none⟩) m m)).setCell ⟨w.heap.size, 1, none⟩ (.slice none 0 0)) := (hb2.setCell (p := ⟨w.heap.size, 0, none⟩) (Nat.le_refl _) _).setCell (p := ⟨w.heap.size, 1, none⟩) (Nat.le_refl _) _
    have hq0 := hR2.cell 0
    have hq1 := (hR2.set 0 (.slice (some ⟨w.heap.size + 1, 0, none⟩) m m)).cell 1
    have hk0 := hR2.frozen 0
    have hk1 := hR2.frozen 1
    simp at hq0 hq1
    clear hR2 hb2 hown hgrow hown' hO2
    go_wp2
    refine bodyPost_ret (results_row_tmp rfl _ _ w.heap.size 27 #[.slice (some ⟨w.heap.size + 1, 0, none⟩) m m, .slice none 0 0] _ rfl HR3.out Try.underlying27 rfl Try.sizeDisk) rfl ?_
    exact ⟨_, rfl, by rw [HN.out]; exact HO3.out, hb3⟩
end Go.Proofs.Ytddjgfkklgjagaa
