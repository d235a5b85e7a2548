/-
  Own text: a copy of a row of entries, as the program makes it.
-/
import Derived.Test.YtogpgocldgdeaaaSAddB
import Derived.Test.YtogpgocldgdeaaaIEntW
import Derived.Test.YtogpgocldgdeaaaAppAt
namespace Go.Proofs.Ytogpgocldgdeaaa
open Go.RowKit

theorem Try.sizeE1 : (Try.prog.info? 41).map (·.size) = some 2 := by kernel_rfl
theorem Try.methFresh (s : ByteArray) (n : Int) : ∀ w, (method 41 41 (.agg #[.string s, .int .i64 n]) "loop.example/g00483/impl.fresh").run Try.prog w = .ok (67, .agg #[.string s, .int .i64 n]) w := fun _ => by kernel_rfl

set_option maxRecDepth 20000 in
set_option maxHeartbeats 1000000 in
theorem entFreshW (s : ByteArray) (n : Int) (w : World) (hs : s.size ≤ 281474976710656) :
    Calls Try.prog 67 #[.agg #[.string s, .int .i64 n]] w fun e w' => e = .returned (.agg #[.string s, .int .i64 n]) ∧ Below w.heap.size w w' := by
  have HC : Hid (∀ W, Below (w.heap.size + 2) ((w.alloc (.cells #[.string s, .int .i64 n] 41)).alloc (.cells #[.string ⟨#[]⟩, .int .i64 0] 41)) W → Calls Try.prog 69 #[.string s] W fun e w' => e = .returned (.string s) ∧ Below (w.heap.size + 2) ((w.alloc (.cells #[.string s, .int .i64 n] 41)).alloc (.cells #[.string ⟨#[]⟩, .int .i64 0] 41)) w' ∧ Var w' (w.heap.size + 1) #[.string ⟨#[]⟩, .int .i64 0] 41 ∧ w'.cell? ⟨w.heap.size, 1, none⟩ = some (.int .i64 n) ∧ w'.cell? ⟨w.heap.size + 1, 0, none⟩ = some (.string ⟨#[]⟩) ∧ w'.cell? ⟨w.heap.size + 1, 1, none⟩ = some (.int .i64 0) ∧ w'.frozen? ⟨w.heap.size + 1, 0, none⟩ = false ∧ w'.frozen? ⟨w.heap.size + 1, 1, none⟩ = false) := by
    intro W h
    refine (cloneT s W hs).mono ?_
    rintro e w' ⟨rfl, hb⟩
    have hz : w.heap.size + 2 ≤ W.heap.size := by have := h.size; simp at this; omega
    have h2 := h.trans (hb.mono hz)
    have hv := (((Var.made w #[.string s, .int .i64 n] 41).alloc (.cells #[.string ⟨#[]⟩, .int .i64 0] 41)).below h2 (by omega)).cell 1
    have hr := (Var.made2 w (.cells #[.string s, .int .i64 n] 41) #[.string ⟨#[]⟩, .int .i64 0] 41).below h2 (by omega)
    exact ⟨rfl, h2, hr, hv, hr.cell 0, hr.cell 1, hr.frozen 0, hr.frozen 1⟩
  have HB0 : Hid (Below (w.heap.size + 2) ((w.alloc (.cells #[.string s, .int .i64 n] 41)).alloc (.cells #[.string ⟨#[]⟩, .int .i64 0] 41)) ((w.alloc (.cells #[.string s, .int .i64 n] 41)).alloc (.cells #[.string ⟨#[]⟩, .int .i64 0] 41)).drew) := (Below.refl _ _).drew
  have HBE : Hid (∀ W, Below (w.heap.size + 2) ((w.alloc (.cells #[.string s, .int .i64 n] 41)).alloc (.cells #[.string ⟨#[]⟩, .int .i64 0] 41)) W → Below w.heap.size w W) := fun W h => (below2 w _ _).trans (h.mono (by omega))
  go_enter Try.func67, Try.ntmps67
  go_wp2
  go_region_with (go_at_call 69; refine (HC.out _ HB0.out).mono ?_; rintro e w2 ⟨rfl, hb2, hV, d0, d1, d2, d3, d4⟩)
  all_goals
    have hb4 := ((HBE.out _ hb2).setCell (p := ⟨w.heap.size + 1, 0, none⟩) (Nat.le_succ _) (.string s)).setCell (p := ⟨w.heap.size + 1, 1, none⟩) (Nat.le_succ _) (.int .i64 n)
    have hV2 := (hV.set 0 (.string s)).set 1 (.int .i64 n)
    simp only [List.setIfInBounds_toArray, List.set_cons_zero, List.set_cons_succ] at hV2
    go_wp2
    refine bodyPost_ret (results_cell_row rfl _ _ (w.heap.size + 1) 41 #[.string s, .int .i64 n] (0, 0) _ rfl hV2 Try.underlying41 rfl Try.sizeE1) rfl ?_
    exact ⟨rfl, hb4⟩

theorem srcEnRow (w : World) (s : ByteArray) (n : Int) : Src Try.prog 2 44 (.slice (some ⟨w.heap.size, 0, none⟩) 1 1) 1 [.string s, .int .i64 n] (w.alloc (.cells #[.string s, .int .i64 n] 41)) := by
  refine Src.ofSlice _ Try.underlying44 ⟨w.heap.size, 0, none⟩ 1 1 [.string s, .int .i64 n] rfl (fun j u hj => ?_) (fun u hu => ?_)
  · rw [Go.WideShapes.add_plain, Nat.zero_add, (Var.made w #[.string s, .int .i64 n] 41).cell j]
    rw [← hj]
    simp
  · simp at hu
    rcases hu with rfl | rfl <;> rfl
/-- Entries that are short enough to be copied. -/
def ShE (l : List EntD) : Prop := l.length ≤ 4194304 ∧ ∀ e ∈ l, e.1.size ≤ 1048576
theorem SmE.sh {l : List EntD} (h : SmE l) : ShE l := ⟨by have := szEn_len l; have := h.1; omega, h.2⟩

set_option maxRecDepth 20000 in
set_option maxHeartbeats 2000000 in
theorem freshEn (a : Option Addr) (c : Nat) (l : List EntD) (w : World) (hl : ShE l) (hr : RdF encN 2 w a l) :
    Calls Try.prog 38 #[.slice a l.length c] w fun e w' => ∃ v, e = .returned v ∧ w'.ownsRow w.heap.size 41 2 v l.length (l.flatMap encN) ∧ Below w.heap.size w w' := by
  obtain ⟨i0, hi, hz0, hz1, hz2⟩ := info_parts Try.infoEnt
  have hll := hl.1
  have HSZ : Hid (∀ e ∈ l, e.1.size ≤ 1048576) := hl.2
  have HCS : Hid (∀ k (hk : k < l.length), ∃ b off, a = some ⟨b, off, none⟩ ∧ b < w.heap.size ∧ ∀ j, j < 2 → w.cell? ⟨b, off + k * 2 + j, none⟩ = (encN l[k])[j]?) := fun k hk => hr.at k hk
  have HO0 : Hid (w.ownsRow w.heap.size 41 2 (.slice none 0 0) (l.take 0).length ((l.take 0).flatMap encN)) := World.ownsRow_nil _ _ _ _
  have hb0 : Below w.heap.size w w := Below.refl _ _
  clear hr hl
  go_enter Try.func38, Try.ntmps38
  go_wp2
  go_loopw [3, 8] (fun v i wr => ∃ (k : Nat) (v' : Value), v' = v ∧ k ≤ l.length ∧ i = .int .i64 k ∧ Hid (wr.ownsRow w.heap.size 41 2 v' (l.take k).length ((l.take k).flatMap encN)) ∧ Below w.heap.size w wr) (fun _ i _ => l.length - (intOf i).toNat)
  case atStart => exact ⟨0, _, rfl, Nat.zero_le _, rfl, HO0, hb0⟩
  case round =>
    clear HO0 hb0
    obtain ⟨k, v', rfl, hk, rfl, HO, hB⟩ := hrel
    by_cases hlt : k < l.length
    · obtain ⟨b, off, rfl, hblt, hcell⟩ := HCS.out k hlt
      have hc0 : wr.cell? ⟨b, off + k * 2, none⟩ = some (.string l[k].1) := (hB.cell hblt).trans (hcell 0 (by omega))
      have hc1 : wr.cell? ⟨b, off + k * 2 + 1, none⟩ = some (.int .i64 l[k].2) := (hB.cell hblt).trans (hcell 1 (by omega))
      have hes := HSZ.out _ (List.getElem_mem hlt)
      have HTK : Hid ((l.take (k + 1)).length = k + 1 ∧ (l.take (k + 1)).flatMap encN = (l.take k).flatMap encN ++ [.string l[k].1, .int .i64 l[k].2]) := by
        refine ⟨by rw [List.length_take]; omega, ?_⟩
        rw [List.take_succ_eq_append_getElem hlt, List.flatMap_append]
        simp [encN]
      have HLK : (l.take k).length = k := by rw [List.length_take]; omega
      rw [HLK] at HO
      clear hcell HLK
      generalize (l[k]).1 = s at *
      generalize (l[k]).2 = n at *
      generalize (l.take k).flatMap encN = X at *
      obtain ⟨av, cv, rfl⟩ : ∃ av cv, v' = .slice av k cv := by
        rcases HO.out.2 with ⟨rfl, h0⟩ | ⟨g, cap, cur, rfl, _⟩
        · exact ⟨none, 0, by rw [h0]⟩
        · exact ⟨_, _, rfl⟩
      have hm := Try.methFresh s n
      go_wp2_with fail
      refine (entFreshW s n _ (by omega)).mono ?_
      rintro e w1 ⟨rfl, hb1⟩
      have hB0 : Below w.heap.size w (wr.alloc (.cells #[.string s, .int .i64 n] 41)) := hB.alloc hB.size _
      have hB1 := hB0.trans (hb1.mono hB0.size)
      have hB2 : Below w.heap.size w (w1.alloc (.cells #[.string s, .int .i64 n] 41)) := hB1.alloc hB1.size _
      have HO1 : Hid ((w1.alloc (.cells #[.string s, .int .i64 n] 41)).ownsRow w.heap.size 41 2 (.slice av k cv) k X) := ownsRow_below (ownsRow_below (ownsRow_below HO.out (below1 wr _) (Nat.le_refl _)) hb1 (Nat.le_refl _)) (below1 w1 _) (Nat.le_refl _)
      have HS1 : Hid (Src Try.prog 2 44 (.slice (some ⟨w1.heap.size, 0, none⟩) 1 1) 1 [.string s, .int .i64 n] (w1.alloc (.cells #[.string s, .int .i64 n] 41))) := srcEnRow w1 s n
      clear HO hb1 hB0 hB1 hc0 hc1 hB
      go_wp2_with (at_builtin; refine wpList_append_own_src _ rfl (.tmp 12) (.tmp 16) 44 44 rfl w.heap.size 41 i0 _ 2 24 Try.underlying44 hi hz0 hz1 hz2 rfl _ _ _ rfl HO1.out _ 1 [.string s, .int .i64 n] rfl HS1.out (by unfold maxLen; omega) (by omega) hB2.size ?_)
      intro v2 w2 ho2 hg2
      have hB3 : Below w.heap.size w w2 := hB2.grown hg2 hB2.size (fun q hq => (HO1.out.lt q hq).1)
      have HO2 : Hid (w2.ownsRow w.heap.size 41 2 v2 (l.take (k + 1)).length ((l.take (k + 1)).flatMap encN)) := by
        show World.ownsRow _ _ _ _ _ _ _
        rw [HTK.out.1, HTK.out.2]
        exact ho2
      clear ho2 hg2 HO1 HS1 hB2
      go_wp2
      go_roundw
      case rel => exact ⟨k + 1, _, rfl, by omega, by go_num, HO2, hB3⟩
      case measure => simp [intOf]; omega
    · obtain rfl : k = l.length := by omega
      have hO := HO.out
      rw [List.take_length] at hO
      have HO3 : Hid (wr.ownsRow w.heap.size 41 2 v' l.length (l.flatMap encN)) := hO
      clear hO HO
      go_wp2
      go_ret
      exact ⟨_, rfl, HO3.out, hB⟩
end Go.Proofs.Ytogpgocldgdeaaa
