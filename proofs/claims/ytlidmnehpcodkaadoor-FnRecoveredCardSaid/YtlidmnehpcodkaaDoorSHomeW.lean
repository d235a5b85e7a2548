/-
  Own text: whether a disk is one for n home blocks; the home blocks, as the other program reads them.
-/
import Derived.Test.YtlidmnehpcodkaaDoorBunJ
import Derived.Test.YtlidmnehpcodkaaDoorBunC
namespace Go.Proofs.YtlidmnehpcodkaaDoor
open Go.RowKit

set_option maxRecDepth 20000 in
set_option maxHeartbeats 1000000 in
theorem specJok (v : Value) (d : DiskD) (n : Int) (w : World) (hl : d.1.length ≤ 4194304 ∧ d.2.length ≤ 4194304) (hr : RdD w v d) :
    Calls Tryd.prog 49 #[v, .int .i64 n] w fun e w' => e = .returned (.bool (okJ d n)) ∧ Below w.heap.size w w' := by
  have hrd := hr
  obtain ⟨a, ca, b, cb, rfl, _, _⟩ := hr
  have HJ : Hid (okJ d n = (dkOk d && (decide (1 ≤ n) && decide (n ≤ 48)) && decide ((d.1.length : Int) = 2 * n + 1))) := rfl
  have HDO : Hid (∀ R, dkOk d = R → Calls Tryd.prog 24 #[.agg #[.slice a d.1.length ca, .slice b d.2.length cb]] (w.alloc (.cells #[.slice a d.1.length ca, .slice b d.2.length cb] 27)) fun e w' => e = .returned (.bool R) ∧ Below (w.heap.size + 1) (w.alloc (.cells #[.slice a d.1.length ca, .slice b d.2.length cb] 27)) w') := by
    rintro R rfl
    have h := specDiskOk _ d (w.alloc (.cells #[.slice a d.1.length ca, .slice b d.2.length cb] 27)) hl (hrd.below (below1 _ _) (Nat.le_refl _))
    rwa [show (w.alloc (.cells #[.slice a d.1.length ca, .slice b d.2.length cb] 27)).heap.size = w.heap.size + 1 by simp] at h
  have HIN : Hid (∀ Q, (decide (1 ≤ n) && decide (n ≤ 48)) = Q → ∀ W, Calls Tryd.prog 76 #[.int .i64 n, .int .i64 1, .int .i64 48] W fun e w' => e = .returned (.bool Q) ∧ w' = W) := by
    rintro Q rfl W
    exact inW n 1 48 W
  have hV : Var (w.alloc (.cells #[.slice a d.1.length ca, .slice b d.2.length cb] 27)) w.heap.size #[.slice a d.1.length ca, .slice b d.2.length cb] 27 := Var.made w _ _
  have HV : Hid (Var (w.alloc (.cells #[.slice a d.1.length ca, .slice b d.2.length cb] 27)) w.heap.size #[.slice a d.1.length ca, .slice b d.2.length cb] 27) := hV
  clear hrd hV
  cases hok : dkOk d with
  | false =>
    have HF : Hid (okJ d n = false) := by show _ = _; rw [HJ.out, hok]; rfl
    have H1 := HDO.out false hok
    have HD2 : Hid (Calls Tryd.prog 24 #[.agg #[.slice a d.1.length ca, .slice b d.2.length cb]] (w.alloc (.cells #[.slice a d.1.length ca, .slice b d.2.length cb] 27)) fun e w' => e = .returned (.bool false) ∧ Below (w.heap.size + 1) (w.alloc (.cells #[.slice a d.1.length ca, .slice b d.2.length cb] 27)) w') := H1
    clear H1 HDO hok HJ
    go_enter Tryd.func49, Tryd.ntmps49
    go_wp2_with fail
    refine HD2.out.mono ?_
    rintro e w1 ⟨rfl, hb1⟩
    have hb2 : Below w.heap.size w w1 := (below1 w _).trans (hb1.mono (by omega))
    go_wp2
    go_ret
    exact ⟨by rw [HF.out]; rfl, hb2⟩
  | true =>
    have H1 := HDO.out true hok
    have HD2 : Hid (Calls Tryd.prog 24 #[.agg #[.slice a d.1.length ca, .slice b d.2.length cb]] (w.alloc (.cells #[.slice a d.1.length ca, .slice b d.2.length cb] 27)) fun e w' => e = .returned (.bool true) ∧ Below (w.heap.size + 1) (w.alloc (.cells #[.slice a d.1.length ca, .slice b d.2.length cb] 27)) w') := H1
    clear H1 HDO
    cases hin : (decide (1 ≤ n) && decide (n ≤ 48)) with
    | false =>
      have HF : Hid (okJ d n = false) := by show _ = _; rw [HJ.out, hok, hin]; rfl
      have HI := HIN.out false hin
      have HI2 : Hid (∀ W, Calls Tryd.prog 76 #[.int .i64 n, .int .i64 1, .int .i64 48] W fun e w' => e = .returned (.bool false) ∧ w' = W) := HI
      clear HI HIN hin hok HJ
      go_enter Tryd.func49, Tryd.ntmps49
      go_wp2_with fail
      refine HD2.out.mono ?_
      rintro e w1 ⟨rfl, hb1⟩
      have hb2 : Below w.heap.size w w1 := (below1 w _).trans (hb1.mono (by omega))
      go_wp2_with (go_at_call 76; refine (HI2.out _).mono ?_; rintro e w2 ⟨rfl, hw2⟩; subst w2)
      go_ret
      exact ⟨by rw [HF.out]; rfl, hb2⟩
    | true =>
      have hn1 : 1 ≤ n := by simp at hin; omega
      have hn2 : n ≤ 48 := by simp at hin; omega
      have HF : Hid (okJ d n = decide ((d.1.length : Int) = 2 * n + 1)) := by show _ = _; rw [HJ.out, hok, hin]; rfl
      have HI := HIN.out true hin
      have HI2 : Hid (∀ W, Calls Tryd.prog 76 #[.int .i64 n, .int .i64 1, .int .i64 48] W fun e w' => e = .returned (.bool true) ∧ w' = W) := HI
      clear HI HIN hin hok HJ
      have hl1 := hl.1
      go_enter Tryd.func49, Tryd.ntmps49
      go_wp2_with fail
      refine HD2.out.mono ?_
      rintro e w1 ⟨rfl, hb1⟩
      have hb2 : Below w.heap.size w w1 := (below1 w _).trans (hb1.mono (by omega))
      have y0 : w1.cell? ⟨w.heap.size, 0, none⟩ = some (.slice a d.1.length ca) := (HV.out.below hb1 (by omega)).cell 0
      go_wp2_with (go_at_call 76; refine (HI2.out _).mono ?_; rintro e w2 ⟨rfl, hw2⟩; subst w2)
      go_ret
      exact ⟨by rw [HF.out]; rfl, hb2⟩

set_option maxRecDepth 20000 in
set_option maxHeartbeats 1000000 in
theorem specHomeOf (v : Value) (d : DiskD) (n : Int) (w : World) (hl : d.1.length ≤ 4194304 ∧ d.2.length ≤ 4194304) (hr : RdD w v d) :
    Calls Tryd.prog 13 #[v, .int .i64 n] w fun e w' => ∃ v', e = .returned v' ∧ w'.ownsRow w.heap.size 9 1 v' (homeD d n).length ((homeD d n).map Value.string) ∧ Below w.heap.size w w' := by
  obtain ⟨i1, gi, gz0, gz1, gz2⟩ := info_parts Tryd.infoTxt
  have HRD : Hid (∀ W, Below w.heap.size w W → RdD W v d) := fun W h => hr.below h (Nat.le_refl _)
  obtain ⟨a, ca, b, cb, rfl, _, _⟩ := hr
  have HOK : Hid (∀ R, okJ d n = R → ∀ W, Below w.heap.size w W → Calls Tryd.prog 49 #[.agg #[.slice a d.1.length ca, .slice b d.2.length cb], .int .i64 n] W fun e w' => e = .returned (.bool R) ∧ Below W.heap.size W w') := by
    rintro R rfl W h
    exact specJok _ d n W hl (HRD.out W h)
  have HSR : Hid (∀ k W, Below w.heap.size w W → Calls Tryd.prog 50 #[.agg #[.slice a d.1.length ca, .slice b d.2.length cb], .int .i64 (n + 1 + (k : Int))] W fun e w' => e = .returned (.tuple #[.string (rdTx d (n + 1 + (k : Int))), .bool (rdOk d (n + 1 + (k : Int)))]) ∧ Below W.heap.size W w') :=
    fun k W h => specSectorRead _ d (n + 1 + (k : Int)) W hl (HRD.out W h)
  have hV : Var ((w.alloc (.cells #[.slice a d.1.length ca, .slice b d.2.length cb] 27)).alloc (.cells #[] 9)) w.heap.size #[.slice a d.1.length ca, .slice b d.2.length cb] 27 := (Var.made w _ _).alloc _
  have HV : Hid (Var ((w.alloc (.cells #[.slice a d.1.length ca, .slice b d.2.length cb] 27)).alloc (.cells #[] 9)) w.heap.size #[.slice a d.1.length ca, .slice b d.2.length cb] 27) := hV
  have hM : ((w.alloc (.cells #[.slice a d.1.length ca, .slice b d.2.length cb] 27)).alloc (.cells #[] 9)).ownsRow (w.heap.size + 1) 9 1 (.slice (some ⟨w.heap.size + 1, 0, none⟩) 0 0) 0 [] := by
    have := World.ownsRow_made (e := 9) (size := 1) (w.alloc (.cells #[.slice a d.1.length ca, .slice b d.2.length cb] 27)) #[] 0 (base := w.heap.size + 1) (by simp) (Nat.zero_le _) rfl
    rwa [show (w.alloc (.cells #[.slice a d.1.length ca, .slice b d.2.length cb] 27)).heap.size = w.heap.size + 1 by simp] at this
  have HM : Hid (((w.alloc (.cells #[.slice a d.1.length ca, .slice b d.2.length cb] 27)).alloc (.cells #[] 9)).ownsRow (w.heap.size + 1) 9 1 (.slice (some ⟨w.heap.size + 1, 0, none⟩) 0 0) 0 []) := hM
  clear hV hM HRD
  have y0 := HV.out.cell 0
  have y1 := HV.out.cell 1
  simp at y0 y1
  go_enter Tryd.func13, Tryd.ntmps13
  go_wp2_with fail
  cases hok : okJ d n with
  | false =>
    have HF : Hid (homeD d n = []) := homeD_no hok
    refine (HOK.out false hok _ (below2 _ _ _)).mono ?_
    rintro e w1 ⟨rfl, hb1⟩
    have ho1 := ownsRow_base (ownsRow_below HM.out hb1 (Nat.le_refl _)) (Nat.le_succ w.heap.size)
    have hb2 : Below w.heap.size w w1 := (below2 w _ _).trans (hb1.mono (by simp; omega))
    clear y0 y1
    go_wp2
    go_ret
    exact ⟨_, rfl, by rw [HF.out]; exact ho1, hb2⟩
  | true =>
    obtain ⟨_, hn1, hn2, _⟩ := okJ_iff.1 hok
    refine (HOK.out true hok _ (below2 _ _ _)).mono ?_
    rintro e w1 ⟨rfl, hb1⟩
    have HV1 : Hid (Var w1 w.heap.size #[.slice a d.1.length ca, .slice b d.2.length cb] 27) := HV.out.new hb1
    have HO1 : Hid (w1.ownsRow (w.heap.size + 1) 9 1 (.slice (some ⟨w.heap.size + 1, 0, none⟩) 0 0) 0 []) := ownsRow_below HM.out hb1 (Nat.le_refl _)
    have HB1 : Hid (Below w.heap.size w w1) := (below2 w _ _).trans (hb1.mono (by simp; omega))
    have HF : Hid (homeD d n = (List.range n.toNat).map fun (k : Nat) => rdTx d (n + 1 + (k : Int))) := by show _ = _; unfold homeD rdTx; rw [if_pos hok]
    obtain ⟨N, rfl⟩ : ∃ N : Nat, n = (N : Int) := ⟨n.toNat, by omega⟩
    have HF2 : Hid (homeD d (N : Int) = (List.range N).map fun (k : Nat) => rdTx d ((N : Int) + 1 + (k : Int))) := by have := HF.out; rwa [show (N : Int).toNat = N by omega] at this
    clear HV HM HOK hb1 y0 y1 hok HF
    go_wp2
    go_loopw [5, 6] (fun v i wr => ∃ k : Nat, k ≤ N ∧ i = .int .i64 k ∧ Hid (wr.ownsRow (w.heap.size + 1) 9 1 v k (((List.range k).map fun (k : Nat) => rdTx d ((N : Int) + 1 + (k : Int))).map Value.string)) ∧ Hid (Var wr w.heap.size #[.slice a d.1.length ca, .slice b d.2.length cb] 27) ∧ Hid (Below w.heap.size w wr)) (fun _ i _ => N - (intOf i).toNat)
    case atStart => exact ⟨0, Nat.zero_le _, rfl, HO1, HV1, HB1⟩
    case round =>
      obtain ⟨k, hk, rfl, HO, HV, HB⟩ := hrel
      clear HO1 HV1 HB1
      have y0 := HV.out.cell 0
      have y1 := HV.out.cell 1
      simp at y0 y1
      by_cases hlt : k < N
      · have hk2 : (k : Int) < (N : Int) := by omega
        have HNX : Hid (((List.range (k + 1)).map fun (k : Nat) => rdTx d ((N : Int) + 1 + (k : Int))).map Value.string = ((List.range k).map fun (k : Nat) => rdTx d ((N : Int) + 1 + (k : Int))).map Value.string ++ [.string (rdTx d ((N : Int) + 1 + (k : Int)))]) := by show _ = _; rw [List.range_succ, List.map_append, List.map_append]; rfl
        have HC := HSR.out k wr HB.out
        have HC2 : Hid (Calls Tryd.prog 50 #[.agg #[.slice a d.1.length ca, .slice b d.2.length cb], .int .i64 ((N : Int) + 1 + (k : Int))] wr fun e w' => e = .returned (.tuple #[.string (rdTx d ((N : Int) + 1 + (k : Int))), .bool (rdOk d ((N : Int) + 1 + (k : Int)))]) ∧ Below wr.heap.size wr w') := HC
        clear HC
        generalize rdTx d ((N : Int) + 1 + (k : Int)) = ys at *
        generalize rdOk d ((N : Int) + 1 + (k : Int)) = yb at *
        have HEQ : Hid (∀ (W : World) (v : Value), W.ownsRow (w.heap.size + 1) 9 1 v (k + 1) (((List.range k).map fun (k : Nat) => rdTx d ((N : Int) + 1 + (k : Int))).map Value.string ++ [.string ys]) → W.ownsRow (w.heap.size + 1) 9 1 v (k + 1) (((List.range (k + 1)).map fun (k : Nat) => rdTx d ((N : Int) + 1 + (k : Int))).map Value.string)) := by
          intro W v h
          rw [HNX.out]; exact h
        clear HNX
        generalize ((List.range k).map fun (k : Nat) => rdTx d ((N : Int) + 1 + (k : Int))).map Value.string = X at *
        go_wp2_with fail
        refine HC2.out.mono ?_
        rintro e w3 ⟨rfl, hb3⟩
        have ho3 := (ownsRow_below HO.out hb3 (Nat.le_refl _)).alloc (.cells #[.string ys] 9)
        have HV3 : Hid (Var (w3.alloc (.cells #[.string ys] 9)) w.heap.size #[.slice a d.1.length ca, .slice b d.2.length cb] 27) := (HV.out.new hb3).alloc _
        have hb4 : Below w.heap.size w (w3.alloc (.cells #[.string ys] 9)) := (HB.out.trans (hb3.mono HB.out.size)).alloc (Nat.le_trans HB.out.size hb3.size) _
        have HS3 : Hid (Src Tryd.prog 1 24 (.slice (some ⟨w3.heap.size, 0, none⟩) 1 1) 1 [.string ys] (w3.alloc (.cells #[.string ys] 9))) := src_one Tryd.underlying24 w3 (.string ys) rfl
        have hsz : w.heap.size + 1 ≤ (w3.alloc (.cells #[.string ys] 9)).heap.size := by have := HV3.out.lt; omega
        clear y0 y1 HO HV HB hb3
        go_wp2_with (at_builtin; refine wpList_append_own_src _ rfl (.tmp 29) (.tmp 31) 24 24 rfl (w.heap.size + 1) 9 i1 (.string ⟨#[]⟩) 1 16 Tryd.underlying24 gi gz0 gz1 gz2 rfl _ _ _ rfl ho3 _ 1 [.string ys] rfl HS3.out (by unfold maxLen; omega) (by omega) hsz ?_)
        intro v5 w5 ho5 hg5
        have HB5 : Hid (Below w.heap.size w w5) := hb4.grown hg5 hb4.size (fun j hj => by have := (ho3.lt j hj).1; omega)
        have HV5 : Hid (Var w5 w.heap.size #[.slice a d.1.length ca, .slice b d.2.length cb] 27) := HV3.out.only (Only.of_grown hg5) (fun hj => by have := (ho3.lt _ hj).1; omega)
        have HO5 : Hid _ := HEQ.out w5 v5 ho5
        clear ho5 hg5 ho3 HV3 hb4 HS3 HEQ hsz
        go_wp2
        go_roundw
        case rel => exact ⟨k + 1, by omega, by go_num, HO5, HV5, HB5⟩
        case measure => simp [intOf]; omega
      · obtain rfl : k = N := by omega
        have hO := HO.out
        rw [← HF2.out] at hO
        have hln : (homeD d (k : Int)).length = k := by rw [HF2.out]; simp
        have HO9 : Hid (wr.ownsRow w.heap.size 9 1 u5 (homeD d (k : Int)).length ((homeD d (k : Int)).map Value.string)) := by show World.ownsRow _ _ _ _ _ _ _; rw [hln]; exact ownsRow_base hO (by omega)
        have hb := HB.out
        clear hO hln HO
        go_wp2
        go_ret
        exact ⟨_, rfl, HO9.out, hb⟩
end Go.Proofs.YtlidmnehpcodkaaDoor
