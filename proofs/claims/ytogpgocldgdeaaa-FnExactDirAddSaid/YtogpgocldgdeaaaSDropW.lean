/-
  Own text: an entry is dropped, by the other program (written by dropgen.py).
-/
import Derived.Test.YtogpgocldgdeaaaSAddB
import Derived.Test.YtogpgocldgdeaaaAppAt
namespace Go.Proofs.Ytogpgocldgdeaaa
open Go.RowKit

theorem enDropped_at {l : List EntD} {s : ByteArray} {k : Nat} (hk : k < l.length) (h0 : (l[k]).1 = s) (h : ∀ j (hj : j < l.length), j < k → (l[j]).1 ≠ s) : enDropped l s = l.take k ++ l.drop (k + 1) ∧ enHas l s = true := by
  have e := enIdx_at hk h0 h
  unfold enDropped enHas
  rw [e, if_pos hk]
  exact ⟨List.eraseIdx_eq_take_drop_succ _ _, decide_eq_true hk⟩
theorem enDropped_none {l : List EntD} {s : ByteArray} (h : ∀ j (hj : j < l.length), (l[j]).1 ≠ s) : enDropped l s = l ∧ enHas l s = false := by
  have e := enIdx_none h
  unfold enDropped enHas
  rw [if_neg e]
  exact ⟨rfl, decide_eq_false e⟩

set_option maxRecDepth 20000 in
set_option maxHeartbeats 4000000 in
theorem specDirDrop (a : Option Addr) (c : Nat) (l : List EntD) (s : ByteArray) (w : World) (hl : l.length ≤ 4194304) (hc : l.length ≤ c) (hr : RdF encN 2 w a l) :
    Calls Try.prog 21 #[.slice a l.length c, .string s] w fun e w' => ∃ v, e = .returned (.tuple #[v, .bool (enHas l s)]) ∧ OwnEn w' w.heap.size w'.heap.size v (enDropped l s) ∧ Below w.heap.size w w' := by
  obtain ⟨i0, hi, hz0, hz1, hz2⟩ := info_parts Try.infoEnt
  have HCS : Hid (∀ k (hk : k < l.length), ∃ b off, a = some ⟨b, off, none⟩ ∧ b < w.heap.size ∧ ∀ j, j < 2 → w.cell? ⟨b, off + k * 2 + j, none⟩ = (encN l[k])[j]?) := fun k hk => hr.at k hk
  have HRD : Hid (∀ W, Below w.heap.size w W → RdF encN 2 W a l) := fun W h => hr.below h (Nat.le_refl _)
  have HAT : Hid (∀ k (hk : k < l.length), (l[k]).1 = s → (∀ j (hj : j < l.length), j < k → (l[j]).1 ≠ s) → enDropped l s = l.take k ++ l.drop (k + 1) ∧ enHas l s = true) := fun k hk h0 h => enDropped_at hk h0 h
  have HNO : Hid ((∀ j (hj : j < l.length), (l[j]).1 ≠ s) → enDropped l s = l ∧ enHas l s = false) := fun h => enDropped_none h
  clear hr
  go_enter Try.func21, Try.ntmps21
  go_wp2
  go_loop [6] (fun i => ∃ k : Nat, k ≤ l.length ∧ i = .int .i64 k ∧ Hid (∀ j (hj : j < l.length), j < k → (l[j]).1 ≠ s)) (fun i => l.length - (intOf i).toNat)
  case atStart => exact ⟨0, Nat.zero_le _, rfl, fun j _ h => by omega⟩
  case round =>
    obtain ⟨k, hk, rfl, HL⟩ := hrel
    by_cases hlt : k < l.length
    · obtain ⟨b, off, rfl, hblt, hcell⟩ := HCS.out k hlt
      have hc0 : w.cell? ⟨b, off + k * 2, none⟩ = some (.string l[k].1) := hcell 0 (by omega)
      by_cases h0 : (l[k]).1 = s
      · have hes : ((l[k]).1.toList == s.toList) = true := by rw [strEq]; exact decide_eq_true h0
        obtain ⟨hD, hH⟩ := HAT.out k hlt h0 HL.out
        have hA := cutHi (some ⟨b, off, none⟩) c l.length k (by omega)
        obtain ⟨a', c', hLo, ha'⟩ := cutLo (some ⟨b, off, none⟩) c l.length (k + 1) (by omega) hc
        have HRD2 := HRD.out
        have htl : (l.take k).length = k := by rw [List.length_take]; omega
        have hdl : (l.drop (k + 1)).length = l.length - (k + 1) := List.length_drop
        have HC1 : Hid (∀ W, Below w.heap.size w W → Calls Try.prog 36 #[.slice (some ⟨b, off, none⟩) k c] W fun e w' => ∃ v, e = .returned v ∧ w'.ownsRow w.heap.size 41 2 v k ((l.take k).flatMap encN) ∧ Below w.heap.size w w') := fun W h => by
          have := copyEn (some ⟨b, off, none⟩) c (l.take k) W (by omega) (rdF_take (HRD2 W h) k)
          rw [htl] at this
          refine this.mono ?_
          rintro e w' ⟨v, rfl, h1, h2⟩
          exact ⟨v, rfl, ownsRow_base h1 h.size, h.trans (h2.mono h.size)⟩
        have HSB : Hid (∀ W, Below w.heap.size w W → Src Try.prog 2 25 (.slice a' (l.length - (k + 1)) c') (l.length - (k + 1)) ((l.drop (k + 1)).flatMap encN) W) := fun W h => by
          have := srcEn c' (rdF_drop (HRD2 W h) (k + 1) ha')
          rw [hdl] at this
          exact this
        have hlen : (enDropped l s).length = l.length - 1 := by rw [hD, List.length_append, htl, hdl]; omega
        have HAN : Hid (∀ W v, W.ownsRow w.heap.size 41 2 v (l.length - 1) ((l.take k).flatMap encN ++ (l.drop (k + 1)).flatMap encN) → OwnEn W w.heap.size W.heap.size v (enDropped l s)) := fun W v h => OwnEn.of (by rw [hlen, hD, List.flatMap_append]; exact h)
        have HH : Hid (enHas l s = true) := hH
        have hLo2 : ∀ W : World, (Instr.slice 25 (.slice (some ⟨b, off, none⟩) l.length c) (some (.int .i64 ((k : Int) + 1))) none none).run Try.prog W = .ok (.slice a' (l.length - (k + 1)) c') W := hLo
        obtain ⟨X1, hX1⟩ : ∃ X, (l.take k).flatMap encN = X := ⟨_, rfl⟩
        obtain ⟨X2, hX2⟩ : ∃ X, (l.drop (k + 1)).flatMap encN = X := ⟨_, rfl⟩
        rw [hX1] at HC1 HAN
        rw [hX2] at HSB HAN
        have hb0 : Below w.heap.size w w.drew := (Below.refl _ _).drew
        have hkW : IntKind.i64.wrap ((k : Int) + 1) = (k : Int) + 1 := by rw [IntKind.wrap_i64]; omega
        clear hcell h0 HL hD hH HAT HNO HCS HRD HRD2 ha' htl hdl hlen hX1 hX2 hLo
        generalize (l[k]).1 = t at *
        go_upto_region 5 with fail
        clear hc0 hes
        refine wp_region_noPanic ?_
        refine wp_region_held_drew (S := fun _ => True) (by kernel_rfl) trivial (fun hT => ?_)
        clear hT
        refine held_take (i := 0) (v := .slice (some ⟨b, off, none⟩) l.length c) rfl rfl (by kernel_rfl) (by kernel_rfl) (by kernel_rfl) (by kernel_rfl) (fun W hS => by go_simp) trivial ?_
        simp only [Act.put, List.setIfInBounds_toArray, List.set_cons_zero, List.set_cons_succ]
        refine held_take (i := 1) (v := .int .i64 (k : Nat)) rfl rfl (by kernel_rfl) (by kernel_rfl) (by kernel_rfl) (by kernel_rfl) (fun W hS => by go_simp) trivial ?_
        simp only [Act.put, List.setIfInBounds_toArray, List.set_cons_zero, List.set_cons_succ]
        refine held_take (i := 2) (v := .slice (some ⟨b, off, none⟩) k c) rfl rfl (by kernel_rfl) (by kernel_rfl) (by kernel_rfl) (by kernel_rfl) (fun W hS => by go_simp) trivial ?_
        simp only [Act.put, List.setIfInBounds_toArray, List.set_cons_zero, List.set_cons_succ]
        refine held_take (i := 4) (v := .slice (some ⟨b, off, none⟩) l.length c) rfl rfl (by kernel_rfl) (by kernel_rfl) (by kernel_rfl) (by kernel_rfl) (fun W hS => by go_simp) trivial ?_
        simp only [Act.put, List.setIfInBounds_toArray, List.set_cons_zero, List.set_cons_succ]
        refine held_take (i := 5) (v := .int .i64 (k : Nat)) rfl rfl (by kernel_rfl) (by kernel_rfl) (by kernel_rfl) (by kernel_rfl) (fun W hS => by go_simp) trivial ?_
        simp only [Act.put, List.setIfInBounds_toArray, List.set_cons_zero, List.set_cons_succ]
        refine held_take (i := 6) (v := .int .i64 ((k : Int) + 1)) rfl rfl (by kernel_rfl) (by kernel_rfl) (by kernel_rfl) (by kernel_rfl) (fun W hS => by go_simp) trivial ?_
        simp only [Act.put, List.setIfInBounds_toArray, List.set_cons_zero, List.set_cons_succ]
        refine held_take (i := 7) (v := .slice a' (l.length - (k + 1)) c') rfl rfl (by kernel_rfl) (by kernel_rfl) (by kernel_rfl) (by kernel_rfl) (fun W hS => by go_simp) trivial ?_
        simp only [Act.put, List.setIfInBounds_toArray, List.set_cons_zero, List.set_cons_succ]
        refine wpAnyH_ready (rs := [3]) (by kernel_rfl) (by simp) (AllReadyH.cons rfl (fun K hK => ?_) AllReadyH.nil)
        go_simp
        refine (HC1.out _ hb0).mono ?_
        rintro e w1 ⟨v1, rfl, ho1, hb1⟩
        refine hK.out _ _ trivial (fun hT => ?_)
        clear hK K hT
        try simp only [Act.put, List.setIfInBounds_toArray, List.set_cons_zero, List.set_cons_succ]
        have HS1 : Hid (Src Try.prog 2 25 (.slice a' (l.length - (k + 1)) c') (l.length - (k + 1)) X2 w1) := HSB.out w1 hb1
        have HO1 : Hid (w1.ownsRow w.heap.size 41 2 v1 k X1) := ho1
        clear ho1
        refine wpAnyH_ready (rs := [8]) (by kernel_rfl) (by simp) (AllReadyH.cons rfl (fun K hK => ?_) AllReadyH.nil)
        refine step_own_srcN w1 rfl (.tmp 23) (.tmp 27) 25 25 rfl w.heap.size 41 i0 _ 2 24 Try.underlying25 hi hz0 hz1 hz2 rfl v1 k X1 (.slice a' (l.length - (k + 1)) c') (l.length - (k + 1)) X2 (by unfold maxLen; omega) (by omega) (by simp [Act.eval]) (by simp [Act.eval]) HO1.out HS1.out hb1.size ?_
        intro v2 w2 ho2 hg2
        have hb2 : Below w.heap.size w w2 := hb1.grown hg2 hb1.size (fun k hk => (HO1.out.lt k hk).1)
        refine hK.out _ _ trivial (fun hT => ?_)
        clear hK K hT
        try simp only [Act.put, List.setIfInBounds_toArray]
        have HO2 : Hid (w2.ownsRow w.heap.size 41 2 v2 (l.length - 1) (X1 ++ X2)) := by
          show World.ownsRow _ _ _ _ _ _ _
          have e : k + (l.length - (k + 1)) = l.length - 1 := by omega
          rw [e] at ho2
          exact ho2
        clear ho2 hg2 HO1 HS1 hb1
        refine held_take (i := 9) (v := v2) rfl rfl (by kernel_rfl) (by kernel_rfl) (by kernel_rfl) (by kernel_rfl) (fun W hS => by go_simp) trivial ?_
        simp only [Act.put]
        refine held_take (i := 10) (v := .bool true) rfl rfl (by kernel_rfl) (by kernel_rfl) (by kernel_rfl) (by kernel_rfl) (fun W hS => by go_simp) trivial ?_
        simp only [Act.put]
        refine wpAnyH_done (by kernel_rfl) ?_ _
        simp only [NoPanic]
        go_wp2
        go_returns
        exact ⟨v2, by rw [HH.out]; rfl, HAN.out _ _ HO2.out, hb2⟩
      · have HL2 : Hid (∀ j (hj : j < l.length), j < k + 1 → (l[j]).1 ≠ s) := fun j hj hjk => by
          by_cases e : j = k
          · subst e; exact h0
          · exact HL.out j hj (by omega)
        have hes : ((l[k]).1.toList == s.toList) = false := by rw [strEq]; exact decide_eq_false h0
        clear hcell h0 HL
        generalize (l[k]).1 = t at *
        go_wp2
        go_round
        case rel => exact ⟨k + 1, by omega, by go_num, HL2⟩
        case measure => simp [intOf]; omega
    · obtain rfl : k = l.length := by omega
      obtain ⟨hD, hH⟩ := HNO.out fun j hj => HL.out j hj hj
      have HD : Hid (enDropped l s = l) := hD
      have HH : Hid (enHas l s = false) := hH
      have HR2 : Hid (RdF encN 2 w a l) := HRD.out w (Below.refl _ _)
      clear hD hH HAT HNO HCS HRD HL
      go_wp2_with fail
      refine (copyEn a c l _ (by omega) HR2.out).mono ?_
      rintro e w1 ⟨v1, rfl, ho1, hb1⟩
      go_wp2
      go_returns
      exact ⟨v1, by rw [HH.out]; rfl, by rw [HD.out]; exact OwnEn.of ho1, hb1⟩
end Go.Proofs.Ytogpgocldgdeaaa
