/-
  Own text: what falls and what is kept, as the program puts it into the sectors.
-/
import Derived.Test.YtlidmnehpcodkaaDoorIFreshW
namespace Go.Proofs.YtlidmnehpcodkaaDoor
open Go.RowKit

theorem Var.drew {w : World} {P : Nat} {C : Array Value} {t : TypeId} (h : Var w P C t) : Var w.drew P C t := h
theorem keepL_stop {l : List PutD} {ks : List Bool} {k : Nat} (h' : ks.length ≤ k) : keepL (l.take (k + 1)) ks = keepL (l.take k) ks := by
  rw [keepL_short l ks (k + 1) (.inr (by omega)), keepL_short l ks k (.inr h')]

set_option maxRecDepth 20000 in
set_option maxHeartbeats 2000000 in
theorem implSettle (C lo : Nat) (a b : Option Addr) (ca cb : Nat) (d : DiskD) (q : Option Addr) (qc : Nat) (ks : List Bool) (w : World) (hok : dkOk d = true) (hC : C < lo)
    (hV : Var w C #[.slice a d.1.length ca, .slice b d.2.length cb] 27) (o1 : w.ownsRow lo 9 1 (.slice a d.1.length ca) d.1.length (d.1.map Value.string)) (o2 : w.ownsRow lo 39 2 (.slice b d.2.length cb) d.2.length (d.2.flatMap encP))
    (hK : ∀ W, Below C w W → RdF encB 1 W q ks) :
    Calls Tryd.prog 47 #[.pointer (some ⟨C, 0, none⟩), .slice q ks.length qc] w fun e w' => (∃ r, e = .returned r) ∧ Var w' C #[.slice a d.1.length ca, .slice none 0 0] 27 ∧ w'.ownsRow lo 9 1 (.slice a d.1.length ca) d.1.length ((putIn d.1 (keepL d.2 ks)).map Value.string) ∧ Below C w w' := by
  have hl := dkOk_iff.1 hok
  obtain ⟨hl1, hl2, _, _⟩ := hl
  have HAT : Hid (∀ k (hk : k < d.2.length), 0 ≤ d.2[k].1 ∧ d.2[k].1 < (d.1.length : Int)) := by
    intro k hk
    have := (dkOk_iff.1 hok).2.2.2 _ (List.getElem_mem hk)
    exact ⟨this.1, this.2.1⟩
  have HK : Hid (∀ W, Below C w W → RdF encB 1 W q ks) := hK
  have HO1 : Hid (w.ownsRow lo 9 1 (.slice a d.1.length ca) d.1.length (d.1.map Value.string)) := o1
  have HO2 : Hid (w.ownsRow lo 39 2 (.slice b d.2.length cb) d.2.length (d.2.flatMap encP)) := o2
  have HV : Hid (Var w C #[.slice a d.1.length ca, .slice b d.2.length cb] 27) := hV
  have hy1 : w.cell? ⟨C, 1, none⟩ = some (.slice b d.2.length cb) := hV.cell 1
  have hCl : C < w.heap.size := hV.lt
  clear hK o1 o2 hok hV
  go_enter Tryd.func47, Tryd.ntmps47
  go_wp2
  go_loopw [11] (fun i wr => ∃ k : Nat, k ≤ d.2.length ∧ i = .int .i64 k ∧ Hid (Var wr C #[.slice a d.1.length ca, .slice b d.2.length cb] 27) ∧ Hid (wr.ownsRow lo 9 1 (.slice a d.1.length ca) d.1.length ((putIn d.1 (keepL (d.2.take k) ks)).map Value.string)) ∧ Hid (wr.ownsRow lo 39 2 (.slice b d.2.length cb) d.2.length (d.2.flatMap encP)) ∧ Hid (Below C w wr)) (fun i _ => d.2.length - (intOf i).toNat)
  case atStart => exact ⟨0, Nat.zero_le _, rfl, HV, by show World.ownsRow _ _ _ _ _ _ _; rw [List.take_zero]; exact HO1.out, HO2, Below.refl _ _⟩
  case round =>
    obtain ⟨k, hk, rfl, HVr, HOr, HPr, HBr⟩ := hrel
    clear hy1 HV HO1 HO2
    by_cases hlt : k < d.2.length
    · obtain ⟨b0, c0, he0, _, hrp⟩ := own_rdF encP_len HPr.out rfl
      obtain ⟨x, off, hx, hblt, hcc⟩ := hrp.at k hlt
      cases he0
      subst hx
      have hd0 : wr.cell? ⟨x, off + k * 2, none⟩ = some (.int .i64 d.2[k].1) := hcc 0 (by omega)
      have hd1 : wr.cell? ⟨x, off + k * 2 + 1, none⟩ = some (.string d.2[k].2) := hcc 1 (by omega)
      obtain ⟨hat0, hat1⟩ := HAT.out k hlt
      have HKT : Hid (∀ h' : k < ks.length, keepL (d.2.take (k + 1)) ks = keepL (d.2.take k) ks ++ (if ks[k] then [d.2[k]] else [])) := fun h' => keepL_take d.2 ks k hlt h'
      have HKS : Hid (ks.length ≤ k → keepL (d.2.take (k + 1)) ks = keepL (d.2.take k) ks) := fun h' => keepL_stop h'
      have HPI : Hid (putIn (putIn d.1 (keepL (d.2.take k) ks)) [d.2[k]] = (putIn d.1 (keepL (d.2.take k) ks)).set d.2[k].1.toNat d.2[k].2) := rfl
      have hplen : (putIn d.1 (keepL (d.2.take k) ks)).length = d.1.length := putIn_len _ _
      have HW0V : Hid (∀ o, Var (wr.alloc o) C #[.slice a d.1.length ca, .slice (some ⟨x, off, none⟩) d.2.length cb] 27) := fun o => HVr.out.alloc o
      have HW0O : Hid (∀ o, (wr.alloc o).ownsRow lo 9 1 (.slice a d.1.length ca) d.1.length ((putIn d.1 (keepL (d.2.take k) ks)).map Value.string)) := fun o => HOr.out.alloc o
      have HW0P : Hid (∀ o, (wr.alloc o).ownsRow lo 39 2 (.slice (some ⟨x, off, none⟩) d.2.length cb) d.2.length (d.2.flatMap encP)) := fun o => HPr.out.alloc o
      have hCr : C ≤ wr.heap.size := Nat.le_of_lt HVr.out.lt
      have HW0B : Hid (∀ o, Below C w (wr.alloc o)) := fun o => HBr.out.alloc hCr o
      have HZ : Hid (∀ o (h : k < ks.length), ∃ z zo, q = some ⟨z, zo, none⟩ ∧ (wr.alloc o).cell? ⟨z, zo + k, none⟩ = some (.bool ks[k])) := by
        intro o h
        obtain ⟨z, zo, h1, _, hzc⟩ := (HK.out _ (HW0B.out o)).at k h
        have := hzc 0 (by omega)
        rw [Nat.mul_one, Nat.add_zero] at this
        exact ⟨z, zo, h1, this⟩
      clear hcc hrp HVr HOr HPr HBr
      by_cases hkk : k < ks.length
      · obtain ⟨z, zo, rfl, hz0⟩ := HZ.out (.cells #[.int .i64 d.2[k].1, .string d.2[k].2] 39) hkk
        have HKT' : Hid (keepL (d.2.take (k + 1)) ks = keepL (d.2.take k) ks ++ (if ks[k] then [d.2[k]] else [])) := HKT.out hkk
        clear HKT HKS HZ
        generalize hB : ks[k] = B at *
        cases B with
        | false =>
          have HE : Hid (keepL (d.2.take (k + 1)) ks = keepL (d.2.take k) ks) := by show _ = _; rw [HKT'.out]; simp
          clear hB HKT' HPI
          generalize d.2[k].1 = yn at *
          generalize d.2[k].2 = ys at *
          go_wp2
          go_roundw
          case rel => exact ⟨k + 1, by omega, by go_num, HW0V.out _, by show World.ownsRow _ _ _ _ _ _ _; rw [HE.out]; exact HW0O.out _, HW0P.out _, HW0B.out _⟩
          case measure => simp [intOf]; omega
        | true =>
          have HE : Hid (putIn d.1 (keepL (d.2.take (k + 1)) ks) = (putIn d.1 (keepL (d.2.take k) ks)).set d.2[k].1.toNat d.2[k].2) := by show _ = _; rw [HKT'.out, ← HPI.out, if_pos rfl, putIn_app]
          clear hB HKT' HPI
          generalize d.2[k].1 = yn at *
          generalize d.2[k].2 = ys at *
          have hform := (HW0O.out (.cells #[.int .i64 yn, .string ys] 39)).2
          rcases hform with ⟨hv, hn0⟩ | ⟨g, cap, cur, hv, hgb, _⟩
          · exfalso; omega
          · simp only [Value.slice.injEq] at hv
            obtain ⟨rfl, _, rfl⟩ := hv
            have hp0 : (wr.alloc (.cells #[.int .i64 yn, .string ys] 39)).cell? ⟨wr.heap.size, 0, none⟩ = some (.int .i64 yn) := (Var.made wr _ _).cell 0
            have hp1 : (wr.alloc (.cells #[.int .i64 yn, .string ys] 39)).cell? ⟨wr.heap.size, 1, none⟩ = some (.string ys) := (Var.made wr _ _).cell 1
            go_wp2
            have HV1 := HW0V.out (.cells #[.int .i64 yn, .string ys] 39)
            have HO1 := HW0O.out (.cells #[.int .i64 yn, .string ys] 39)
            have HP1 := HW0P.out (.cells #[.int .i64 yn, .string ys] 39)
            have HB1 := HW0B.out (.cells #[.int .i64 yn, .string ys] 39)
            have hcg := HO1.cellAt yn.toNat (by omega)
            have hfg := HO1.frozenAt yn.toNat
            have hst := (HO1.stored yn.toNat (.string ys)).1
            rw [← List.map_set, ← HE.out] at hst
            have hy0 : (wr.alloc (.cells #[.int .i64 yn, .string ys] 39)).cell? ⟨C, 0, none⟩ = some (.slice (some ⟨g, 0, none⟩) d.1.length ca) := HV1.cell 0
            have HV2 : Hid (Var ((wr.alloc (.cells #[.int .i64 yn, .string ys] 39)).setCell ⟨g, yn.toNat, none⟩ (.string ys)) C #[.slice (some ⟨g, 0, none⟩) d.1.length ca, .slice (some ⟨x, off, none⟩) d.2.length cb] 27) := HV1.other (by omega) _ _
            have HO2 : Hid (((wr.alloc (.cells #[.int .i64 yn, .string ys] 39)).setCell ⟨g, yn.toNat, none⟩ (.string ys)).ownsRow lo 9 1 (.slice (some ⟨g, 0, none⟩) d.1.length ca) d.1.length ((putIn d.1 (keepL (d.2.take (k + 1)) ks)).map Value.string)) := hst
            have HP2 : Hid (((wr.alloc (.cells #[.int .i64 yn, .string ys] 39)).setCell ⟨g, yn.toNat, none⟩ (.string ys)).ownsRow lo 39 2 (.slice (some ⟨x, off, none⟩) d.2.length cb) d.2.length (d.2.flatMap encP)) := own_only (S := fun j => j = g) HP1 (Only.setCell (S := fun j => j = g) (Only.refl _ _) (p := ⟨g, yn.toNat, none⟩) rfl _) (fun j hj h => own_apart HP1 HO1 (by decide) j hj (by rw [h]; rfl))
            have HB2 : Hid (Below C w ((wr.alloc (.cells #[.int .i64 yn, .string ys] 39)).setCell ⟨g, yn.toNat, none⟩ (.string ys))) := HB1.setCell (p := ⟨g, yn.toNat, none⟩) (by show _ ≤ g; omega) _
            obtain ⟨old, hcg2⟩ : ∃ o, (wr.alloc (.cells #[.int .i64 yn, .string ys] 39)).cell? ⟨g, yn.toNat, none⟩ = some o := by
              rw [hcg]
              exact ⟨_, List.getElem?_eq_getElem (by simp [hplen]; omega)⟩
            clear hcg hst HV1 HO1 HP1 HB1 HW0V HW0O HW0P HW0B HE
            generalize wr.alloc (.cells #[.int .i64 yn, .string ys] 39) = W0 at *
            go_region
            all_goals
              go_wp2
              go_roundw
              case rel => exact ⟨k + 1, by omega, by go_num, HV2.out.drew, HO2.out.drew, HP2.out.drew, HB2.out.drew⟩
              case measure => simp [intOf]; omega
      · have HE : Hid (keepL (d.2.take (k + 1)) ks = keepL (d.2.take k) ks) := HKS.out (by omega)
        have hkk' : (ks.length : Int) ≤ (k : Int) := by omega
        clear HKT HKS HZ HPI
        generalize d.2[k].1 = yn at *
        generalize d.2[k].2 = ys at *
        go_wp2
        go_roundw
        case rel => exact ⟨k + 1, by omega, by go_num, HW0V.out _, by show World.ownsRow _ _ _ _ _ _ _; rw [HE.out]; exact HW0O.out _, HW0P.out _, HW0B.out _⟩
        case measure => simp [intOf]; omega
    · obtain rfl : k = d.2.length := by omega
      have hf1 := HVr.out.frozen 1
      have hy1 : wr.cell? ⟨C, 1, none⟩ = some (.slice b d.2.length cb) := HVr.out.cell 1
      have hV9 := HVr.out.set 1 (.slice none 0 0)
      have hO9 := own_set HOr.out hC 1 (.slice none 0 0)
      have hB9 := HBr.out.setCell (p := ⟨C, 1, none⟩) (Nat.le_refl _) (.slice none 0 0)
      rw [List.take_length] at hO9
      go_wp2
      go_end0
      exact ⟨⟨_, rfl⟩, hV9, hO9, hB9⟩
end Go.Proofs.YtlidmnehpcodkaaDoor
