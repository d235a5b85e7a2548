/-
  Own text: a fresh copy of a disk, as the program makes it: every row and every text anew.
-/
import Derived.Test.YtlidmnehpcodkaaDoorIOkW
import Derived.Test.YtlidmnehpcodkaaDoorCloneW
import Derived.Test.YtlidmnehpcodkaaDoorBunA
import Derived.Deep.RegionLaw
namespace Go.Proofs.YtlidmnehpcodkaaDoor
open Go.RowKit

/-- One text, made by itself, as a row. -/
theorem rd_oneTx {W : World} {P : Nat} {s : ByteArray} {t : TypeId} (h : Var W P #[.string s] t) : RdS W (some ⟨P, 0, none⟩) [s] := by
  refine .inr ⟨P, 0, rfl, h.lt, fun i hi => ?_⟩
  simp at hi
  subst hi
  rw [show 0 + 0 = 0 by omega, h.cell 0]
  rfl

set_option maxRecDepth 20000 in
set_option maxHeartbeats 2000000 in
theorem implFresh (P : Nat) (a b : Option Addr) (ca cb : Nat) (d : DiskD) (w : World) (hl : d.1.length ≤ 4194304 ∧ d.2.length ≤ 4194304) (hs : SmD d)
    (hc0 : w.cell? ⟨P, 0, none⟩ = some (.slice a d.1.length ca)) (hc1 : w.cell? ⟨P, 1, none⟩ = some (.slice b d.2.length cb)) (r1 : RdS w a d.1) (r2 : RdF encP 2 w b d.2) :
    Calls Tryd.prog 45 #[.pointer (some ⟨P, 0, none⟩)] w fun e w' => ∃ v1 v2, e = .returned (.pointer (some ⟨w.heap.size, 0, none⟩)) ∧ Var w' w.heap.size #[v1, v2] 27 ∧ OwnD w' (w.heap.size + 1) (.agg #[v1, v2]) d ∧ Below w.heap.size w w' := by
  obtain ⟨hl1, hl2⟩ := hl
  obtain ⟨i0, hi, hz0, hz1, hz2⟩ := info_parts Tryd.infoTxt
  obtain ⟨i1, gi, gz0, gz1, gz2⟩ := info_parts Tryd.infoPut
  have HCS : Hid (∀ k (hk : k < d.1.length), ∃ x off, a = some ⟨x, off, none⟩ ∧ x < w.heap.size ∧ w.cell? ⟨x, off + k, none⟩ = some (.string d.1[k])) := fun k hk => r1.cellT k hk
  have HPS : Hid (∀ k (hk : k < d.2.length), ∃ x off, b = some ⟨x, off, none⟩ ∧ x < w.heap.size ∧ w.cell? ⟨x, off + k * 2, none⟩ = some (.int .i64 d.2[k].1) ∧ w.cell? ⟨x, off + k * 2 + 1, none⟩ = some (.string d.2[k].2)) := by
    intro k hk
    obtain ⟨x, off, h1, h2, h3⟩ := r2.at k hk
    exact ⟨x, off, h1, h2, h3 0 (by omega), h3 1 (by omega)⟩
  have HS1 : Hid (∀ k (hk : k < d.1.length), d.1[k].size ≤ 281474976710656) := fun k hk => hs.1 _ (List.getElem_mem hk)
  have HS2 : Hid (∀ k (hk : k < d.2.length), d.2[k].2.size ≤ 281474976710656) := fun k hk => hs.2 _ (List.getElem_mem hk)
  have HC1 : Hid (∀ W, Below w.heap.size w W → W.cell? ⟨P, 1, none⟩ = some (.slice b d.2.length cb)) := fun W h => (h.cell (World.block_lt_of_cell? _ _ hc1)).trans hc1
  have hPn : P ≠ w.heap.size := Nat.ne_of_lt (World.block_lt_of_cell? _ _ hc1)
  clear r1 r2 hs hc1
  have hc0a : (w.alloc (.cells #[.slice none 0 0, .slice none 0 0] 27)).cell? ⟨P, 0, none⟩ = some (.slice a d.1.length ca) := ((below1 w _).cell (World.block_lt_of_cell? _ _ hc0)).trans hc0
  have hV0 : Var (w.alloc (.cells #[.slice none 0 0, .slice none 0 0] 27)) w.heap.size #[.slice none 0 0, .slice none 0 0] 27 := Var.made w _ _
  clear hc0
  go_enter Tryd.func45, Tryd.ntmps45
  go_wp2
  go_loopw [15] (fun i wr => ∃ k : Nat, k ≤ d.1.length ∧ i = .int .i64 k ∧ ∃ v, Var wr w.heap.size #[v, .slice none 0 0] 27 ∧ wr.ownsRow (w.heap.size + 1) 9 1 v k ((d.1.take k).map Value.string) ∧ Below w.heap.size w wr) (fun i _ => d.1.length - (intOf i).toNat)
  case atStart => exact ⟨0, Nat.zero_le _, rfl, _, hV0, by rw [List.take_zero]; exact World.ownsRow_nil _ _ _ _, below1 _ _⟩
  case round =>
    obtain ⟨k, hk, rfl, v, hV, hO, hb⟩ := hrel
    clear hc0a hV0
    by_cases hlt : k < d.1.length
    · obtain ⟨x, off, rfl, hblt, hcx⟩ := HCS.out k hlt
      have hcr : wr.cell? ⟨x, off + k, none⟩ = some (.string d.1[k]) := (hb.cell hblt).trans hcx
      have hsz := HS1.out k hlt
      have HTK : Hid ((d.1.take (k + 1)).map Value.string = (d.1.take k).map Value.string ++ [.string d.1[k]]) := by show _ = _; rw [List.take_succ_eq_append_getElem hlt, List.map_append]; rfl
      clear hcx
      generalize d.1[k] = y at *
      have hy0 := hV.cell 0
      have HV : Hid (Var wr w.heap.size #[v, .slice none 0 0] 27) := hV
      have HO : Hid (wr.ownsRow (w.heap.size + 1) 9 1 v k ((d.1.take k).map Value.string)) := hO
      have HB : Hid (Below w.heap.size w wr) := hb
      have hwl : w.heap.size + 1 ≤ wr.heap.size := hV.lt
      simp at hy0
      clear hV hO hb
      go_wp2
      go_region_law (first
        | (refine step_own_src _ (by rfl) (.tmp 23) (.tmp 26) 24 24 (by rfl) (w.heap.size + 1) 9 i0 (.string ⟨#[]⟩) 1 16 Tryd.underlying24 hi hz0 hz1 hz2 rfl v k ((d.1.take k).map Value.string) (.slice (some ⟨w1.heap.size, 0, none⟩) 1 1) 1 [.string y] (by unfold maxLen; omega) (by omega) (by simp [Act.eval]) (by simp [Act.eval]) hoA hsA hlA ?_
           intro v2 w2 hO2 hg2
           obtain ⟨a2, c2, hv2⟩ : ∃ a2 c2, v2 = .slice a2 (k + 1) c2 := by
             rcases hO2.2 with ⟨_, h0⟩ | ⟨g, cap, cur, h0, _⟩
             · exact absurd h0 (by omega)
             · exact ⟨_, _, h0⟩
           subst hv2
           have HO2 : Hid (w2.ownsRow (w.heap.size + 1) 9 1 (.slice a2 (k + 1) c2) (k + 1) ((d.1.take (k + 1)).map Value.string)) := by
             show World.ownsRow _ _ _ _ _ _ _
             rw [HTK.out]; exact hO2
           have hb2 : Below (w.heap.size + 1) (w1.alloc (.cells #[.string y] 9)) w2 := (Below.refl _ _).grown hg2 hlA (fun j hj => (hoA.lt j hj).1)
           have hV2 : Var w2 w.heap.size #[v, .slice none 0 0] 27 := (HV1.out.alloc _).below hb2 (by omega)
           have HV2 : Hid (Var w2 w.heap.size #[v, .slice none 0 0] 27) := hV2
           have HB2 : Hid (Below w.heap.size w w2) := (HB1.out.alloc HB1.out.size _).trans (hb2.mono (by omega))
           have hy2 : w2.cell? ⟨w.heap.size, 0, none⟩ = some v := hV2.cell 0
           have hf2 : w2.frozen? ⟨w.heap.size, 0, none⟩ = false := hV2.frozen 0
           clear hO2 hg2 hb2 hV2 hoA hsA hlA HB1 HV1 hyA hyB)
        | (go_simp
           go_at_call 51
           refine (cloneT y _ hsz).mono ?_
           rintro e w1 ⟨rfl, hb1'⟩
           have hb1 : Below wr.heap.size wr w1 := (Below.refl _ wr).drew.trans hb1'
           clear hb1'
           have hV1 : Var w1 w.heap.size #[v, .slice none 0 0] 27 := HV.out.new hb1
           have HV1 : Hid (Var w1 w.heap.size #[v, .slice none 0 0] 27) := hV1
           have HB1 : Hid (Below w.heap.size w w1) := HB.out.trans (hb1.mono HB.out.size)
           have hyA : w1.cell? ⟨w.heap.size, 0, none⟩ = some v := hV1.cell 0
           have hyB : (w1.alloc (.cells #[.string y] 9)).cell? ⟨w.heap.size, 0, none⟩ = some v := (hV1.alloc _).cell 0
           have hoA : (w1.alloc (.cells #[.string y] 9)).ownsRow (w.heap.size + 1) 9 1 v k ((d.1.take k).map Value.string) := (ownsRow_below HO.out hb1 (Nat.le_refl _)).alloc _
           have hsA : Src Tryd.prog 1 24 (.slice (some ⟨w1.heap.size, 0, none⟩) 1 1) 1 [.string y] (w1.alloc (.cells #[.string y] 9)) := src_txt (l := [y]) 1 (rd_oneTx (Var.made w1 _ _))
           have hlA : w.heap.size + 1 ≤ (w1.alloc (.cells #[.string y] 9)).heap.size := by have := hb1.size; simp; omega
           clear hb1 hV1))
      all_goals
        have hV3 := HV2.out.set 0 (.slice a2 (k + 1) c2)
        have hO3 := own_set HO2.out (Q := w.heap.size) (by omega) 0 (.slice a2 (k + 1) c2)
        have hb3 := HB2.out.setCell (p := ⟨w.heap.size, 0, none⟩) (Nat.le_refl _) (.slice a2 (k + 1) c2)
        clear hy2 hf2 HV2 HO2 HB2
        go_wp2
        go_roundw
        case rel => exact ⟨k + 1, by omega, by go_num, _, hV3, hO3, hb3⟩
        case measure => simp [intOf]; omega
    · obtain rfl : k = d.1.length := by omega
      have HOS : Hid (wr.ownsRow (w.heap.size + 1) 9 1 v d.1.length (d.1.map Value.string)) := by
        have := hO; rw [List.take_length] at this; exact this
      have hcp := HC1.out _ hb
      have HV0 : Hid (Var wr w.heap.size #[v, .slice none 0 0] 27) := hV
      have HB0 : Hid (Below w.heap.size w wr) := hb
      clear hO hV hb HCS HS1
      generalize wr = w9 at *
      go_wp2
      go_loopw [36] (fun i wr => ∃ k : Nat, k ≤ d.2.length ∧ i = .int .i64 k ∧ ∃ u, Var wr w.heap.size #[v, u] 27 ∧ wr.ownsRow (w.heap.size + 1) 9 1 v d.1.length (d.1.map Value.string) ∧ wr.ownsRow (w.heap.size + 1) 39 2 u k ((d.2.take k).flatMap encP) ∧ Below w.heap.size w wr) (fun i _ => d.2.length - (intOf i).toNat)
      case atStart => exact ⟨0, Nat.zero_le _, rfl, _, HV0.out, HOS.out, by rw [List.take_zero]; exact World.ownsRow_nil _ _ _ _, HB0.out⟩
      case round =>
        obtain ⟨k, hk, rfl, u, hV, hO1, hO, hb⟩ := hrel
        clear hcp HV0 HOS HB0
        by_cases hlt2 : k < d.2.length
        · obtain ⟨x, off, rfl, hblt, hcx0, hcx1⟩ := HPS.out k hlt2
          have hcr0 : wr.cell? ⟨x, off + k * 2, none⟩ = some (.int .i64 d.2[k].1) := (hb.cell hblt).trans hcx0
          have hcr1 : wr.cell? ⟨x, off + k * 2 + 1, none⟩ = some (.string d.2[k].2) := (hb.cell hblt).trans hcx1
          have hsz := HS2.out k hlt2
          have HTK : Hid ((d.2.take (k + 1)).flatMap encP = (d.2.take k).flatMap encP ++ [.int .i64 d.2[k].1, .string d.2[k].2]) := by show _ = _; rw [List.take_succ_eq_append_getElem hlt2, List.flatMap_append]; simp [encP]
          clear hcx0 hcx1
          generalize d.2[k].1 = yn at *
          generalize d.2[k].2 = ys at *
          have hVa := hV.alloc (.cells #[.int .i64 yn, .string ys] 39)
          have hVp : Var (wr.alloc (.cells #[.int .i64 yn, .string ys] 39)) wr.heap.size #[.int .i64 yn, .string ys] 39 := Var.made wr _ _
          have hwl : w.heap.size + 1 ≤ wr.heap.size := hV.lt
          have HUB : Hid (∀ j, u.ownBlock = some j → j < wr.heap.size) := fun j hj => (hO.lt j hj).2
          have HV : Hid (Var (wr.alloc (.cells #[.int .i64 yn, .string ys] 39)) w.heap.size #[v, u] 27) := hVa
          have HVp : Hid (Var (wr.alloc (.cells #[.int .i64 yn, .string ys] 39)) wr.heap.size #[.int .i64 yn, .string ys] 39) := hVp
          have HO : Hid ((wr.alloc (.cells #[.int .i64 yn, .string ys] 39)).ownsRow (w.heap.size + 1) 39 2 u k ((d.2.take k).flatMap encP)) := hO.alloc _
          have HO1 : Hid ((wr.alloc (.cells #[.int .i64 yn, .string ys] 39)).ownsRow (w.heap.size + 1) 9 1 v d.1.length (d.1.map Value.string)) := hO1.alloc _
          have HB : Hid (Below w.heap.size w (wr.alloc (.cells #[.int .i64 yn, .string ys] 39))) := hb.alloc hb.size _
          clear hV hO hO1 hb hVa hVp
          go_wp2
          generalize hW : wr.alloc (.cells #[.int .i64 yn, .string ys] 39) = W0 at *
          have hy1 : W0.cell? ⟨w.heap.size, 1, none⟩ = some u := HV.out.cell 1
          have hp0 : W0.cell? ⟨wr.heap.size, 0, none⟩ = some (.int .i64 yn) := HVp.out.cell 0
          have hp1 : W0.cell? ⟨wr.heap.size, 1, none⟩ = some (.string ys) := HVp.out.cell 1
          go_region_law (first
            | (refine step_own_src _ (by rfl) (.tmp 44) (.tmp 51) 25 25 (by rfl) (w.heap.size + 1) 39 i1 (.agg #[.int .i64 0, .string ⟨#[]⟩]) 2 24 Tryd.underlying25 gi gz0 gz1 gz2 rfl u k ((d.2.take k).flatMap encP) (.slice (some ⟨w1.heap.size, 0, none⟩) 1 1) 1 [.int .i64 yn, .string ys] (by unfold maxLen; omega) (by omega) (by simp [Act.eval]) (by simp [Act.eval]) hoA hsA hlA ?_
               intro v2 w2 hO2 hg2
               obtain ⟨a2, c2, hv2⟩ : ∃ a2 c2, v2 = .slice a2 (k + 1) c2 := by
                 rcases hO2.2 with ⟨_, h0⟩ | ⟨g, cap, cur, h0, _⟩
                 · exact absurd h0 (by omega)
                 · exact ⟨_, _, h0⟩
               subst hv2
               have HO2 : Hid (w2.ownsRow (w.heap.size + 1) 39 2 (.slice a2 (k + 1) c2) (k + 1) ((d.2.take (k + 1)).flatMap encP)) := by
                 show World.ownsRow _ _ _ _ _ _ _
                 rw [HTK.out]; exact hO2
               have hb2 : Below (w.heap.size + 1) (w1.alloc (.cells #[.int .i64 yn, .string ys] 39)) w2 := (Below.refl _ _).grown hg2 hlA (fun j hj => (hoA.lt j hj).1)
               have hV2 : Var w2 w.heap.size #[v, u] 27 := (HV1.out.alloc _).below hb2 (by omega)
               have HV2 : Hid (Var w2 w.heap.size #[v, u] 27) := hV2
               have HB2 : Hid (Below w.heap.size w w2) := (HB1.out.alloc HB1.out.size _).trans (hb2.mono (by omega))
               have HP2 : Hid (w2.ownsRow (w.heap.size + 1) 9 1 v d.1.length (d.1.map Value.string)) := own_only (HP1.out.alloc _) (Only.of_grown hg2) (fun j hj h => own_apart (HP1.out.alloc _) hoA (by decide) j hj h)
               have hy2 : w2.cell? ⟨w.heap.size, 1, none⟩ = some u := hV2.cell 1
               have hf2 : w2.frozen? ⟨w.heap.size, 1, none⟩ = false := hV2.frozen 1
               have hVq2 : Var w2 wr.heap.size #[.int .i64 yn, .string ys] 39 := (HVq.out.alloc _).only (Only.of_grown hg2) (fun h => Nat.lt_irrefl _ (HUB.out _ h))
               have hq2 : w2.cell? ⟨wr.heap.size, 0, none⟩ = some (.int .i64 yn) := hVq2.cell 0
               have hq3 : w2.cell? ⟨wr.heap.size, 1, none⟩ = some (.string ys) := hVq2.cell 1
               clear hO2 hg2 hb2 hV2 hoA hsA hlA HB1 HV1 hyA hyB HP1 hVq2 HVq)
            | (go_simp
               go_at_call 51
               refine (cloneT ys _ hsz).mono ?_
               rintro e w1 ⟨rfl, hb1'⟩
               have hb1 : Below W0.heap.size W0 w1 := (Below.refl _ W0).drew.trans hb1'
               clear hb1'
               have hV1 : Var w1 w.heap.size #[v, u] 27 := HV.out.new hb1
               have hVq : Var w1 wr.heap.size #[.int .i64 yn, .string ys] 39 := HVp.out.new hb1
               have HV1 : Hid (Var w1 w.heap.size #[v, u] 27) := hV1
               have HVq : Hid (Var w1 wr.heap.size #[.int .i64 yn, .string ys] 39) := hVq
               have HB1 : Hid (Below w.heap.size w w1) := HB.out.trans (hb1.mono HB.out.size)
               have HP1 : Hid (w1.ownsRow (w.heap.size + 1) 9 1 v d.1.length (d.1.map Value.string)) := ownsRow_below HO1.out hb1 (Nat.le_refl _)
               have hyA : w1.cell? ⟨w.heap.size, 1, none⟩ = some u := hV1.cell 1
               have hyB : (w1.alloc (.cells #[.int .i64 yn, .string ys] 39)).cell? ⟨w.heap.size, 1, none⟩ = some u := (hV1.alloc _).cell 1
               have hq0 : w1.cell? ⟨wr.heap.size, 0, none⟩ = some (.int .i64 yn) := hVq.cell 0
               have hq1 : w1.cell? ⟨wr.heap.size, 1, none⟩ = some (.string ys) := hVq.cell 1
               have hoA : (w1.alloc (.cells #[.int .i64 yn, .string ys] 39)).ownsRow (w.heap.size + 1) 39 2 u k ((d.2.take k).flatMap encP) := (ownsRow_below HO.out hb1 (Nat.le_refl _)).alloc _
               have hsA : Src Tryd.prog 2 25 (.slice (some ⟨w1.heap.size, 0, none⟩) 1 1) 1 [.int .i64 yn, .string ys] (w1.alloc (.cells #[.int .i64 yn, .string ys] 39)) := src_puts (l := [(yn, ys)]) 1 (rd_onePut (Var.made w1 _ _))
               have hlA : w.heap.size + 1 ≤ (w1.alloc (.cells #[.int .i64 yn, .string ys] 39)).heap.size := by have := hV1.lt; simp; omega
               clear hb1 hV1 hVq))
          all_goals
            have hV3 := HV2.out.set 1 (.slice a2 (k + 1) c2)
            have hO3 := own_set HO2.out (Q := w.heap.size) (by omega) 1 (.slice a2 (k + 1) c2)
            have hP3 := own_set HP2.out (Q := w.heap.size) (by omega) 1 (.slice a2 (k + 1) c2)
            have hb3 := HB2.out.setCell (p := ⟨w.heap.size, 1, none⟩) (Nat.le_refl _) (.slice a2 (k + 1) c2)
            clear hy2 hf2 HV2 HO2 HB2 HP2
            go_wp2
            go_roundw
            case rel => exact ⟨k + 1, by omega, by go_num, _, hV3, hP3, hO3, hb3⟩
            case measure => simp [intOf]; omega
        · obtain rfl : k = d.2.length := by omega
          have hO2 : wr.ownsRow (w.heap.size + 1) 39 2 u d.2.length (d.2.flatMap encP) := by have := hO; rw [List.take_length] at this; exact this
          go_wp2
          go_ret
          exact ⟨v, u, rfl, hV, ⟨_, _, rfl, hO1, hO2⟩, hb⟩
end Go.Proofs.YtlidmnehpcodkaaDoor
