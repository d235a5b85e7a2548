/-
  Own text: slices.Delete of one entry of a row of the call's own (written by delgen.py).
-/
import Derived.Test.YtogpgocldgdeaaaSlRun
namespace Go.Proofs.Ytogpgocldgdeaaa
open Go.RowKit Go.Lib

theorem Try.zeroEn : ∀ W : World, (zeroValue 41).run Try.prog W = .ok (.agg #[.string ⟨#[]⟩, .int .i64 0]) W := fun W => by
  obtain ⟨i, hi, hz0, hz1, hz2⟩ := info_parts Try.infoEnt
  simp [zeroValue, typeInfo, hi, hz0]

theorem oneZ : ∀ v ∈ (Builtin.zeroCells (Value.agg #[.string ⟨#[]⟩, .int .i64 0]).cells 1).toList, v.oneCell' = true := by
  intro v hv
  simp [Builtin.zeroCells, Value.cells] at hv
  obtain ⟨j, hj, rfl⟩ := hv
  have h2 : j < 2 := hj
  match j, h2 with
  | 0, _ => rfl
  | 1, _ => rfl

set_option maxRecDepth 20000 in
set_option maxHeartbeats 4000000 in
theorem delEn (base i : Nat) (v : Value) (l : List EntD) (w : World) (hi : i < l.length) (hl : l.length ≤ 4194304) (ho : w.ownsRow base 41 2 v l.length (l.flatMap encN)) :
    Calls Try.prog 47 #[v, .int .i64 (i : Nat), .int .i64 ((i : Int) + 1)] w fun e w' => ∃ v', e = .returned v' ∧ w'.ownsRow base 41 2 v' (l.length - 1) ((l.eraseIdx i).flatMap encN) ∧ Only (blk v) w w' := by
  obtain ⟨i0, hi0, hz0, hz1, hz2⟩ := info_parts Try.infoEnt
  rcases ho.2 with ⟨rfl, h0⟩ | ⟨g, cap, cur, rfl, hbg, hg, hnc, hcm, hcs, htake⟩
  · omega
  have hV : Var w g cur 41 := hg
  have hcm2 : cap ≤ 9223372036854775807 := by unfold maxLen at hcm; omega
  obtain ⟨a', c', hLo, ha', hnn⟩ := cutLoE g cap l.length (i + 1) (by omega) hnc
  have hLo2 : ∀ W : World, (Instr.slice 44 (.slice (some ⟨g, 0, none⟩) l.length cap) (some (.int .i64 ((i : Int) + 1))) none none).run Try.prog W = .ok (.slice a' (l.length - (i + 1)) c') W := hLo
  have hA := cutHiR (some ⟨g, 0, none⟩) cap l.length i (by omega)
  have hdl : (l.drop (i + 1)).length = l.length - (i + 1) := List.length_drop
  obtain ⟨D, hD⟩ : ∃ D, (l.drop (i + 1)).flatMap encN = D := ⟨_, rfl⟩
  have hDl : D.length = (l.length - (i + 1)) * 2 := by rw [← hD, flat_len_c encN_len, hdl]
  have hD1 : ∀ u ∈ D, u.oneCell' = true := by rw [← hD]; exact oneEn _
  have hSrc : Src Try.prog 2 44 (.slice a' (l.length - (i + 1)) c') (l.length - (i + 1)) D w.drew := by
    rcases ha' with h0 | h0
    · obtain rfl : D = [] := List.eq_nil_of_length_eq_zero (by rw [hDl, h0])
      obtain ⟨x, rfl⟩ : ∃ x, a' = some x := by cases a' with
        | none => exact absurd rfl hnn
        | some x => exact ⟨x, rfl⟩
      exact Src.ofSlice w.drew Try.underlying44 x _ c' [] (by simpa using hDl) (fun j u h => by simp at h) (fun u hu => by simp at hu)
    · subst h0
      refine Src.ofSlice w.drew Try.underlying44 ⟨g, (i + 1) * 2, none⟩ _ c' D hDl (fun j u hj => ?_) hD1
      rw [← hD] at hj
      exact cellsFrom hV htake (i + 1) j u hj
  obtain ⟨C1, hC1⟩ : ∃ C, (cur.toList.take (i * 2) ++ D ++ cur.toList.drop (i * 2 + D.length)).toArray = C := ⟨_, rfl⟩
  have hVd : Var w.drew g cur 41 := hV
  have hr1 : ∀ ty, (Builtin.append_ #[44, 44] ty #[.slice (some ⟨g, 0, none⟩) i cap, .slice a' (l.length - (i + 1)) c']).run Try.prog w.drew = .ok (.slice (some ⟨g, 0, none⟩) (l.length - 1) cap) (w.drew.setRow g C1) := fun ty => by
    have h := run_append_roomV (P := Try.prog) w.drew 44 44 ty 41 i0 2 Try.underlying44 hi0 hz1 g i cap cur hVd hcs (.slice a' (l.length - (i + 1)) c') (l.length - (i + 1)) D hSrc (by omega)
    rw [show i + (l.length - (i + 1)) = l.length - 1 by omega, hC1] at h
    exact h
  have HR1 : Hid (∀ ty, (Builtin.append_ #[44, 44] ty #[.slice (some ⟨g, 0, none⟩) i cap, .slice a' (l.length - (i + 1)) c']).run Try.prog w.drew = .ok (.slice (some ⟨g, 0, none⟩) (l.length - 1) cap) (w.drew.setRow g C1)) := hr1
  have hV1 := hVd.row C1
  have hO1 := only_row w.drew g C1
  have hcl : cur.toList.length = cap * 2 := by rw [Array.length_toList]; exact hcs
  have hC1s : C1.size = cap * 2 := by
    rw [← hC1]
    simp only [List.size_toArray, List.length_append, List.length_take, List.length_drop, hDl, hcl]
    omega
  have hC1t : C1.toList.take ((l.length - 1) * 2) = (l.eraseIdx i).flatMap encN := by
    rw [← hC1]
    have e1 : cur.toList.take (i * 2) = (l.take i).flatMap encN := by
      rw [← flat_take, ← htake, List.take_take, Nat.min_eq_left (by omega)]
    have e2 : (l.length - 1) * 2 = (cur.toList.take (i * 2) ++ D).length := by
      rw [List.length_append, List.length_take, hDl, hcl]; omega
    show List.take _ (cur.toList.take (i * 2) ++ D ++ _) = _
    rw [e2, List.take_left, e1, ← hD, ← List.flatMap_append, ← List.eraseIdx_eq_take_drop_succ]
  have hcut := cutMidR g cap (l.length - 1) (l.length - 1) l.length (by omega) hnc (by omega)
  rw [show l.length - (l.length - 1) = 1 by omega] at hcut
  obtain ⟨W1, hW1⟩ : ∃ W, w.drew.setRow g C1 = W := ⟨_, rfl⟩
  rw [hW1] at HR1 hV1 hO1
  obtain ⟨C2, hC2⟩ : ∃ C, (C1.toList.take ((l.length - 1) * 2) ++ (Builtin.zeroCells (Value.agg #[.string ⟨#[]⟩, .int .i64 0]).cells 1).toList ++ C1.toList.drop ((l.length - 1) * 2 + 1 * 2)).toArray = C := ⟨_, rfl⟩
  have hclr : ∀ ty, (Builtin.clear_ #[44] ty #[.slice (some ⟨g, (l.length - 1) * 2, none⟩) 1 (cap - (l.length - 1))]).run Try.prog W1 = .ok (.tuple #[]) (W1.setRow g C2) := fun ty => by
    have h := run_clearV (P := Try.prog) W1 44 41 41 ty (.agg #[.string ⟨#[]⟩, .int .i64 0]) 2 Try.underlying44 Try.zeroEn rfl g ((l.length - 1) * 2) 1 (cap - (l.length - 1)) (by omega) C1 oneZ hV1 (by omega)
    rw [hC2] at h
    exact h
  have HCL : Hid (∀ ty, (Builtin.clear_ #[44] ty #[.slice (some ⟨g, (l.length - 1) * 2, none⟩) 1 (cap - (l.length - 1))]).run Try.prog W1 = .ok (.tuple #[]) (W1.setRow g C2)) := hclr
  have hzl : (Builtin.zeroCells (Value.agg #[.string ⟨#[]⟩, .int .i64 0]).cells 1).toList.length = 2 := by rw [Array.length_toList, size_zeroCells]; rfl
  have hFin : (W1.setRow g C2).ownsRow base 41 2 (.slice (some ⟨g, 0, none⟩) (l.length - 1) cap) (l.length - 1) ((l.eraseIdx i).flatMap encN) := by
    refine ⟨by rw [flat_len_c encN_len, List.length_eraseIdx_of_lt hi], .inr ⟨g, cap, C2, rfl, hbg, hV1.row C2, by omega, hcm, ?_, ?_⟩⟩
    · rw [← hC2]
      simp only [List.size_toArray, List.length_append, List.length_take, List.length_drop, Array.length_toList, hC1s, hzl]
      omega
    · rw [← hC2]
      show List.take _ (List.take _ _ ++ _ ++ _) = _
      have e3 : (l.length - 1) * 2 = (C1.toList.take ((l.length - 1) * 2)).length := by rw [List.length_take, Array.length_toList (xs := C1), hC1s]; omega
      rw [List.append_assoc, ← hC1t]
      conv => lhs; arg 1; rw [e3]
      rw [List.take_left]
  have hOnl : Only (blk (.slice (some ⟨g, 0, none⟩) l.length cap)) w (W1.setRow g C2) := by
    have h1 : Only (fun j => j = g) w w.drew := ⟨rfl, rfl, rfl, Nat.le_refl _, fun _ _ _ => rfl⟩
    exact ((h1.trans hO1).trans (only_row W1 g C2)).mono fun k _ hk => by subst hk; rfl
  have HF : Hid ((W1.setRow g C2).ownsRow base 41 2 (.slice (some ⟨g, 0, none⟩) (l.length - 1) cap) (l.length - 1) ((l.eraseIdx i).flatMap encN) ∧ Only (blk (.slice (some ⟨g, 0, none⟩) l.length cap)) w (W1.setRow g C2)) := ⟨hFin, hOnl⟩
  have hne : ¬ (i : Int) = (i : Int) + 1 := by omega
  have hb1 : (i : Int) + 1 ≤ (l.length : Int) := by omega
  have hb2 : (l.length : Int) ≤ (cap : Int) := by omega
  clear hFin hOnl hclr hr1 hC2 hC1 hC1t hC1s hcl hV1 hO1 hVd hV hD hDl hD1 hSrc hdl ha' hnn hLo htake hcs hg hbg hcm ho hi0 hz0 hz1 hz2 hW1 hzl
  go_enter Try.func47, Try.ntmps47
  go_upto_region 5 with fail
  refine wp_region_noPanic ?_
  refine wp_region_held_drew (S := fun _ => True) (by kernel_rfl) trivial (fun hT => ?_)
  clear hT
  refine held_take (i := 0) (v := .slice (some ⟨g, 0, none⟩) l.length cap) rfl rfl (by kernel_rfl) (by kernel_rfl) (by kernel_rfl) (by kernel_rfl) (fun W hS => by go_simp) trivial ?_
  simp only [Act.put, List.setIfInBounds_toArray, List.set_cons_zero, List.set_cons_succ]
  refine held_take (i := 1) (v := .int .i64 (i : Nat)) rfl rfl (by kernel_rfl) (by kernel_rfl) (by kernel_rfl) (by kernel_rfl) (fun W hS => by go_simp) trivial ?_
  simp only [Act.put, List.setIfInBounds_toArray, List.set_cons_zero, List.set_cons_succ]
  refine held_take (i := 2) (v := .slice (some ⟨g, 0, none⟩) i cap) rfl rfl (by kernel_rfl) (by kernel_rfl) (by kernel_rfl) (by kernel_rfl) (fun W hS => by go_simp) trivial ?_
  simp only [Act.put, List.setIfInBounds_toArray, List.set_cons_zero, List.set_cons_succ]
  refine held_take (i := 3) (v := .slice (some ⟨g, 0, none⟩) l.length cap) rfl rfl (by kernel_rfl) (by kernel_rfl) (by kernel_rfl) (by kernel_rfl) (fun W hS => by go_simp) trivial ?_
  simp only [Act.put, List.setIfInBounds_toArray, List.set_cons_zero, List.set_cons_succ]
  refine held_take (i := 4) (v := .int .i64 ((i : Int) + 1)) rfl rfl (by kernel_rfl) (by kernel_rfl) (by kernel_rfl) (by kernel_rfl) (fun W hS => by go_simp) trivial ?_
  simp only [Act.put, List.setIfInBounds_toArray, List.set_cons_zero, List.set_cons_succ]
  refine held_take (i := 5) (v := .slice a' (l.length - (i + 1)) c') rfl rfl (by kernel_rfl) (by kernel_rfl) (by kernel_rfl) (by kernel_rfl) (fun W hS => by go_simp) trivial ?_
  simp only [Act.put, List.setIfInBounds_toArray, List.set_cons_zero, List.set_cons_succ]
  refine wpAnyH_ready (rs := [6]) (by kernel_rfl) (by simp) (AllReadyH.cons rfl (fun K hK => ?_) AllReadyH.nil)
  refine step_append_runI rfl (.tmp 22) (.tmp 25) 44 44 rfl (.slice (some ⟨g, 0, none⟩) i cap) (.slice a' (l.length - (i + 1)) c') (HR1.out _) (by simp [Act.eval]) (by simp [Act.eval]) ?_
  refine hK.out _ _ trivial (fun hT => ?_)
  clear hK K hT
  try simp only [Act.put, List.setIfInBounds_toArray]
  refine held_take (i := 7) (v := .slice (some ⟨g, 0, none⟩) (l.length - 1) cap) rfl rfl (by kernel_rfl) (by kernel_rfl) (by kernel_rfl) (by kernel_rfl) (fun W hS => by go_simp) trivial ?_
  simp only [Act.put]
  refine wpAnyH_done (by kernel_rfl) ?_ _
  simp only [NoPanic]
  have hclr := HCL.out
  go_wp2
  go_ret
  exact ⟨_, rfl, HF.out.1, HF.out.2⟩
end Go.Proofs.Ytogpgocldgdeaaa
