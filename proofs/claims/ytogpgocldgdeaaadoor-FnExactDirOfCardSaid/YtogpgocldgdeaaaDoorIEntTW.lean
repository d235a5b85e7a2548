/-
  Own text: the text of entries, as the program writes it.
-/
import Derived.Test.YtogpgocldgdeaaaDoorSEntTW
namespace Go.Proofs.YtogpgocldgdeaaaDoor
open Go.RowKit

set_option maxRecDepth 20000 in
set_option maxHeartbeats 2000000 in
theorem implDirText (a : Option Addr) (c : Nat) (l : List EntD) (w : World) (hl : SmE l) (hr : RdF encN 2 w a l) :
    Calls Tryd.prog 13 #[.slice a l.length c] w fun e w' => e = .returned (.string (enTextS l)) ∧ Below w.heap.size w w' := by
  obtain ⟨i0, hi, hz0, hz1, hz2⟩ := info_parts Tryd.infoU8T
  have hll := szEn_len l
  have hl1 := hl.1
  have HCS : Hid (∀ k (hk : k < l.length), ∃ b off, a = some ⟨b, off, none⟩ ∧ b < w.heap.size ∧ ∀ j, j < 2 → w.cell? ⟨b, off + k * 2 + j, none⟩ = (encN l[k])[j]?) := fun k hk => hr.at k hk
  have HLEN : Hid (∀ k, (enText (l.take k)).length ≤ 30000000) := fun k => by have h1 := enText_len (l.take k); have h2 := szEn_takeLe l k; omega
  have HSZ : Hid (∀ e ∈ l, e.1.size ≤ 1048576) := hl.2
  have HO0 : Hid (w.ownsRow w.heap.size 5 1 (.slice none 0 0) (enText (l.take 0)).length ((enText (l.take 0)).map (Value.int .u8))) := World.ownsRow_nil _ _ _ _
  have hb0 : Below w.heap.size w w := Below.refl _ _
  clear hr
  go_enter Tryd.func13, Tryd.ntmps13
  go_wp2
  go_loopw [3, 8] (fun v i wr => ∃ (k : Nat) (v' : Value), v' = v ∧ k ≤ l.length ∧ i = .int .i64 k ∧ Hid (wr.ownsRow w.heap.size 5 1 v' (enText (l.take k)).length ((enText (l.take k)).map (Value.int .u8))) ∧ Below w.heap.size w wr) (fun _ i _ => l.length - (intOf i).toNat)
  case atStart => exact ⟨0, _, rfl, Nat.zero_le _, rfl, HO0, hb0⟩
  case round =>
    clear HO0 hb0
    obtain ⟨k, v', rfl, hk, rfl, HO, hbel⟩ := hrel
    by_cases hlt : k < l.length
    · obtain ⟨b, off, rfl, hblt, hcell⟩ := HCS.out k hlt
      have hc0 : wr.cell? ⟨b, off + k * 2, none⟩ = some (.string l[k].1) := (hbel.cell hblt).trans (hcell 0 (by omega))
      have hc1 : wr.cell? ⟨b, off + k * 2 + 1, none⟩ = some (.int .i64 l[k].2) := (hbel.cell hblt).trans (hcell 1 (by omega))
      have HV : Hid (Var (wr.alloc (.cells #[.string l[k].1, .int .i64 l[k].2] 32)) wr.heap.size #[.string l[k].1, .int .i64 l[k].2] 32) := Var.made _ _ _
      have HBV : Hid (Below w.heap.size w (wr.alloc (.cells #[.string l[k].1, .int .i64 l[k].2] 32))) := hbel.alloc hbel.size _
      have HTK : Hid (enText (l.take (k + 1)) = enText (l.take k) ++ putText (l[k]).1 ++ putNum (l[k]).2) := enText_take hlt
      have hes := HSZ.out _ (List.getElem_mem hlt)
      have hL := HLEN.out k
      have hT5 := putText_len (l[k]).1
      have hN5 := putNum_len (l[k]).2
      clear hcell
      generalize (l[k]).1 = t at *
      generalize (l[k]).2 = n at *
      obtain ⟨B, hB⟩ : ∃ B, enText (l.take k) = B := ⟨_, rfl⟩
      rw [hB] at HO HTK hL
      clear hB
      obtain ⟨av, cv, rfl⟩ : ∃ av cv, v' = .slice av B.length cv := by
        rcases HO.out.2 with ⟨rfl, h0⟩ | ⟨g, cap, cur, rfl, _⟩
        · exact ⟨none, 0, by rw [h0]⟩
        · exact ⟨_, _, rfl⟩
      have HAP0 : ∀ j, (Value.slice av B.length cv).ownBlock = some j → j ≠ wr.heap.size := fun j hj => by have := (HO.out.lt j hj).2; omega
      go_wp2_with fail
      refine (implPutText t _ hes).mono ?_
      rintro e w1 ⟨v1, rfl, ho1, hb1⟩
      have hO1 := ownsRow_below (ownsRow_below HO.out (below1 wr _) (Nat.le_refl _)) hb1 (Nat.le_refl _)
      have hbel1 := HBV.out.trans (hb1.mono HBV.out.size)
      have HV1 : Hid (Var w1 wr.heap.size #[.string t, .int .i64 n] 32) := HV.out.new hb1
      have hwr := hbel.size
      have HS1 : Hid (Src Tryd.prog 1 22 v1 (putText t).length ((putText t).map (Value.int .u8)) w1) := src_own8 Tryd.underlying22 ho1 (oneU8 _)
      have HO1 : Hid (w1.ownsRow w.heap.size 5 1 (.slice av B.length cv) B.length (B.map (Value.int .u8))) := hO1
      obtain ⟨a1, c1, rfl⟩ : ∃ a1 c1, v1 = .slice a1 (putText t).length c1 := by
        rcases ho1.2 with ⟨rfl, h0⟩ | ⟨g, cap, cur, rfl, _⟩
        · exact ⟨none, 0, by rw [h0]⟩
        · exact ⟨_, _, rfl⟩
      clear ho1 hb1 hO1 HO hc0 hc1 HV HBV hbel
      have HAP : Hid (∀ j, (Value.slice av B.length cv).ownBlock = some j → j ≠ wr.heap.size) := HAP0
      clear HAP0
      generalize putText t = PT at *
      go_wp2_with (at_builtin; refine wpList_append_own_src _ rfl (.tmp 12) (.tmp 15) 22 22 rfl w.heap.size 5 i0 (.int .u8 0) 1 1 Tryd.underlying22 hi hz0 hz1 hz2 rfl _ _ _ rfl HO1.out _ PT.length (PT.map (Value.int .u8)) rfl HS1.out (by unfold maxLen; omega) (by omega) hbel1.size ?_)
      intro v2 w2 ho2 hg2
      have hbel2 : Below w.heap.size w w2 := hbel1.grown hg2 hbel1.size (fun q hq => (HO1.out.lt q hq).1)
      have HO2 : Hid (w2.ownsRow w.heap.size 5 1 v2 (B ++ PT).length ((B ++ PT).map (Value.int .u8))) := by show World.ownsRow _ _ _ _ _ _ _; rw [List.length_append, List.map_append]; exact ho2
      obtain ⟨a2, c2, rfl⟩ : ∃ a2 c2, v2 = .slice a2 (B ++ PT).length c2 := by
        rcases HO2.out.2 with ⟨rfl, h0⟩ | ⟨g, cap, cur, rfl, _⟩
        · exact ⟨none, 0, by rw [h0]⟩
        · exact ⟨_, _, rfl⟩
      have hBP : (B ++ PT).length ≤ 41000000 := by rw [List.length_append]; omega
      have HV2 : Hid (Var w2 wr.heap.size #[.string t, .int .i64 n] 32) := HV1.out.only (Only.of_grown hg2) (fun h => HAP.out _ h rfl)
      clear ho2 hg2 HO1 HS1 hbel1 HV1 HAP
      generalize B ++ PT = B2 at *
      have hc1 : w2.cell? ⟨wr.heap.size, 1, none⟩ = some (.int .i64 n) := (HV2.out).cell 1
      go_wp2_with fail
      refine (implPutNum n _).mono ?_
      rintro e w3 ⟨v3, rfl, ho3, hb3⟩
      have hO3 := ownsRow_below HO2.out hb3 (Nat.le_refl _)
      have hbel3 := hbel2.trans (hb3.mono hbel2.size)
      have HS3 : Hid (Src Tryd.prog 1 22 v3 (putNum n).length ((putNum n).map (Value.int .u8)) w3) := src_own8 Tryd.underlying22 ho3 (oneU8 _)
      have HO3 : Hid (w3.ownsRow w.heap.size 5 1 (.slice a2 B2.length c2) B2.length (B2.map (Value.int .u8))) := hO3
      obtain ⟨a3, c3, rfl⟩ : ∃ a3 c3, v3 = .slice a3 (putNum n).length c3 := by
        rcases ho3.2 with ⟨rfl, h0⟩ | ⟨g, cap, cur, rfl, _⟩
        · exact ⟨none, 0, by rw [h0]⟩
        · exact ⟨_, _, rfl⟩
      clear ho3 hb3 hO3 HO2 hc1
      generalize putNum n = PN at *
      go_wp2_with (at_builtin; refine wpList_append_own_src _ rfl (.tmp 17) (.tmp 20) 22 22 rfl w.heap.size 5 i0 (.int .u8 0) 1 1 Tryd.underlying22 hi hz0 hz1 hz2 rfl _ _ _ rfl HO3.out _ PN.length (PN.map (Value.int .u8)) rfl HS3.out (by unfold maxLen; omega) (by omega) hbel3.size ?_)
      intro v4 w4 ho4 hg4
      have hbel4 : Below w.heap.size w w4 := hbel3.grown hg4 hbel3.size (fun q hq => (HO3.out.lt q hq).1)
      have HO4 : Hid (w4.ownsRow w.heap.size 5 1 v4 (enText (l.take (k + 1))).length ((enText (l.take (k + 1))).map (Value.int .u8))) := by show World.ownsRow _ _ _ _ _ _ _; rw [HTK.out, List.length_append, List.map_append]; exact ho4
      clear ho4 hg4 HO3 HS3 hbel3
      go_wp2
      go_roundw
      case rel => exact ⟨k + 1, _, rfl, by omega, by go_num, HO4, hbel4⟩
      case measure => simp [intOf]; omega
    · obtain rfl : k = l.length := by omega
      have hO := HO.out
      rw [List.take_length] at hO
      have hcv := conv_own8 (enText_u8 l) hO
      have HTS : Hid (enTextS l = baOf (enText l)) := rfl
      generalize enText l = X at *
      go_wp2
      go_ret
      exact ⟨by rw [HTS.out]; rfl, hbel⟩
end Go.Proofs.YtogpgocldgdeaaaDoor
