/-
  Own text: a right disk that is drawn.
-/
import Derived.Test.YtlidmnehpcodkaaDoorDDrawW
import Derived.Test.YtlidmnehpcodkaaDoorBunA
namespace Go.Proofs.YtlidmnehpcodkaaDoor
open Go.RowKit

def foursL : List Int := [1, 2, 5, 9]

/-- Rows of a disk behind a draw. -/
theorem OwnD.onlyP {P : Nat} {w w' : World} {lo : Nat} {v : Value} {d : DiskD} (h : OwnD w lo v d) (ho : OnlyP P w w') (hP : P < lo) : OwnD w' lo v d :=
  h.only ho (fun k hk e => by have := (h.blk k hk).1; omega)

set_option maxRecDepth 20000 in
set_option maxHeartbeats 1000000 in
theorem rightO (P : Nat) (x : Option Addr) (cap : Nat) (l : List Int) (w : World) (hd : Drw w P x cap l) :
    Calls Tryd.prog 94 #[.pointer (some ⟨P, 0, none⟩)] w fun e w' => ∃ (v : Value) (d : DiskD), e = .returned v ∧ OwnD w' w.heap.size v d ∧ 1 ≤ d.1.length ∧ d.1.length ≤ 9 ∧ d.2.length ≤ 6 ∧ SmD d ∧ Drw w' P x cap l ∧ OnlyP P w w' := by
  obtain ⟨i0, hi, hz0, hz1, hz2⟩ := info_parts Tryd.infoPut
  have hlt := hd.lt
  have HD0 : Hid (Drw ((w.alloc (.cells #[.slice none 0 0, .slice none 0 0] 27)).alloc (.cells (foursL.map (Value.int .i64)).toArray 3)) P x cap l) := (hd.alloc _).alloc _
  clear hd
  go_enter Tryd.func94, Tryd.ntmps94
  go_wp2_with fail
  refine (pickIntO P (w.heap.size + 1) x cap l foursL _ HD0.out 4 rfl (by omega) (by omega) (by omega) (fun j hj => by
    have := cells_list foursL (Value.int .i64) 0 (w.alloc (.cells #[.slice none 0 0, .slice none 0 0] 27)) _ 3 rfl j hj
    rwa [show (w.alloc (.cells #[.slice none 0 0, .slice none 0 0] 27)).heap.size = w.heap.size + 1 by simp] at this)).mono ?_
  rintro e w1 ⟨n, hn, rfl, hd1, hon1⟩
  have hn' : n = 1 ∨ n = 2 ∨ n = 5 ∨ n = 9 := by unfold foursL at hn; simpa using hn
  have HN : Hid (n = 1 ∨ n = 2 ∨ n = 5 ∨ n = 9) := hn'
  have HD1 : Hid (Drw w1 P x cap l) := hd1
  have hR1 : Var w1 w.heap.size #[.slice none 0 0, .slice none 0 0] 27 := ((Var.made w _ _).alloc _).only hon1 (by show ¬ w.heap.size = P; omega)
  have hb1 : OnlyP P w w1 := (Only.of_new (below2 w _ _)).trans hon1
  have hs1 : w.heap.size + 1 ≤ w1.heap.size := hR1.lt
  have hlt1 := hd1.lt
  clear hn hn' hd1 hon1 HD0
  have HNW : Hid (∀ W, Calls Tryd.prog 88 #[.int .i64 n] W fun e w' => ∃ v', e = .returned (.tuple #[v', .bool true]) ∧ OwnD w' W.heap.size v' (List.replicate n.toNat ⟨#[]⟩, []) ∧ Below W.heap.size W w') := by
    intro W
    have hok : newOk n = true := by rcases HN.out with rfl | rfl | rfl | rfl <;> decide
    have := specDiskNew n W
    rw [hok, new_yes hok] at this
    exact this
  have hn1 : 1 ≤ n.toNat ∧ n.toNat ≤ 9 := by rcases HN.out with rfl | rfl | rfl | rfl <;> decide
  obtain ⟨N, hN⟩ : ∃ N, n.toNat = N := ⟨_, rfl⟩
  rw [hN] at hn1 HNW
  obtain ⟨M, hM⟩ : ∃ M, List.replicate N (⟨#[]⟩ : ByteArray) = M := ⟨_, rfl⟩
  have hML : M.length = N := by rw [← hM]; simp
  have HSM : Hid (SmL M) := by show SmL M; rw [← hM]; exact smL_rep _
  rw [hM] at HNW
  clear hN HN hM
  obtain ⟨hN1, hN9⟩ := hn1
  subst hML
  go_wp2_with fail
  refine (HNW.out _).mono ?_
  rintro e w2 ⟨v2, rfl, ho2, hb2⟩
  have HD2 : Hid (Drw w2 P x cap l) := HD1.out.far hb2 hlt1
  have hR2 := hR1.new hb2
  have hon2 : OnlyP P w w2 := hb1.trans (Only.of_new hb2)
  have hO2 := ho2.base hs1
  obtain ⟨a1, c1, b1, e1, rfl⟩ := hO2.shape
  have hs2 : w.heap.size + 1 ≤ w2.heap.size := hR2.lt
  have HD3 : Hid (Drw (w2.alloc (.cells #[.slice a1 M.length c1, .slice b1 0 e1] 27)) P x cap l) := HD2.out.alloc _
  have HR3 : Hid (Var (w2.alloc (.cells #[.slice a1 M.length c1, .slice b1 0 e1] 27)) w.heap.size #[.slice none 0 0, .slice none 0 0] 27) := hR2.alloc _
  have HV3 : Hid (Var (w2.alloc (.cells #[.slice a1 M.length c1, .slice b1 0 e1] 27)) w2.heap.size #[.slice a1 M.length c1, .slice b1 0 e1] 27) := Var.made w2 _ _
  have HO3 : Hid (OwnD (w2.alloc (.cells #[.slice a1 M.length c1, .slice b1 0 e1] 27)) (w.heap.size + 1) (.agg #[.slice a1 M.length c1, .slice b1 0 e1]) (M, [])) := hO2.below (below1 _ _)
  have hon3 : OnlyP P w (w2.alloc (.cells #[.slice a1 M.length c1, .slice b1 0 e1] 27)) := hon2.trans (Only.of_new (below1 _ _))
  clear HNW ho2 hO2 hb2 hR1 hR2 hb1 hon2 HD1 HD2 hs1 hlt1
  go_wp2
  go_loopw [5] (fun i wr => ∃ (k : Nat) (m : List ByteArray), k ≤ M.length ∧ m.length = M.length ∧ Hid (SmL m) ∧ i = .int .i64 k ∧ Hid (Drw wr P x cap l) ∧ Hid (Var wr w.heap.size #[.slice none 0 0, .slice none 0 0] 27) ∧ Hid (Var wr w2.heap.size #[.slice a1 M.length c1, .slice b1 0 e1] 27) ∧ Hid (OwnD wr (w.heap.size + 1) (.agg #[.slice a1 M.length c1, .slice b1 0 e1]) (m, [])) ∧ Hid (OnlyP P w wr)) (fun i _ => M.length - (intOf i).toNat)
  case atStart => exact ⟨0, M, Nat.zero_le _, rfl, HSM, rfl, HD3, HR3, HV3, HO3, hon3⟩
  case round =>
    obtain ⟨k, m, hk, hm, HSm, rfl, HD, HR, HV, HO, HON⟩ := hrel
    clear hon3 HD3 HR3 HV3 HO3
    have hv0 : wr.cell? ⟨w2.heap.size, 0, none⟩ = some (.slice a1 M.length c1) := HV.out.cell 0
    by_cases hlt2 : k < M.length
    · obtain ⟨v1, v2, hv, o1, o2⟩ := HO.out
      simp only [Value.agg.injEq, Array.mk.injEq, List.cons.injEq, and_true] at hv
      obtain ⟨rfl, rfl⟩ := hv
      simp only [hm] at o1
      rcases o1.2 with ⟨_, h0⟩ | ⟨g, cc, cur, hvv, hgb, _⟩
      · omega
      simp only [Value.slice.injEq, true_and] at hvv
      obtain ⟨rfl, rfl⟩ := hvv
      have hgP : ¬ g = P := by omega
      have hgV : ¬ g = w2.heap.size := fun e => own_var o1 HV.out (by decide) (by rw [← e]; rfl)
      have hgR : ¬ g = w.heap.size := by omega
      have HW : Hid (∀ w3 s, OnlyP P wr.drew w3 → Drw w3 P x cap l → w3.cell? ⟨w2.heap.size, 0, none⟩ = some (.slice (some ⟨g, 0, none⟩) M.length c1) ∧ (∃ o, w3.cell? ⟨g, k, none⟩ = some o) ∧ w3.frozen? ⟨g, k, none⟩ = false ∧ Drw (w3.setCell ⟨g, k, none⟩ (.string s)) P x cap l ∧ Var (w3.setCell ⟨g, k, none⟩ (.string s)) w.heap.size #[.slice none 0 0, .slice none 0 0] 27 ∧ Var (w3.setCell ⟨g, k, none⟩ (.string s)) w2.heap.size #[.slice (some ⟨g, 0, none⟩) M.length c1, .slice b1 0 e1] 27 ∧ OwnD (w3.setCell ⟨g, k, none⟩ (.string s)) (w.heap.size + 1) (.agg #[.slice (some ⟨g, 0, none⟩) M.length c1, .slice b1 0 e1]) (m.set k s, []) ∧ OnlyP P w (w3.setCell ⟨g, k, none⟩ (.string s))) := by
        intro w3 s hon hdr
        have hon' : OnlyP P wr w3 := ⟨hon.os, hon.tape, hon.output, hon.size, hon.block⟩
        have hV' := HV.out.onlyP hon' (by omega)
        have hR' := HR.out.onlyP hon' (by omega)
        have o1' := own_only o1 hon' (fun j hj e => by cases hj; exact hgP e)
        have o2' := own_only o2 hon' (fun j hj e => by have := (o2.lt j hj).1; omega)
        have hst := (o1'.stored k (.string s)).1
        have hoo : Only (fun j => j = g) w3 (w3.setCell ⟨g, k, none⟩ (.string s)) := Only.setCell (S := fun j => j = g) (Only.refl _ _) (p := ⟨g, k, none⟩) rfl _
        have hml : k < m.length := by omega
        refine ⟨hV'.cell 0, ⟨_, (o1'.cellAt k (by omega)).trans (List.getElem?_eq_getElem (by simpa using hml))⟩, o1'.frozenAt k, hdr.only hoo (fun j hj e => by omega), hR'.only hoo (fun e => hgR e.symm), hV'.only hoo (fun e => hgV e.symm), ⟨_, _, rfl, ?_, own_only o2' hoo (fun j hj e => by
          subst e
          exact own_apart o2' o1' (by decide) _ hj rfl)⟩, ?_⟩
        · rw [← List.map_set] at hst
          simp only [List.length_set, hm]
          exact hst
        · refine ((HON.out.trans hon').trans' ?_)
          exact hoo.mono fun j _ e => by omega
      clear o1 o2 HO
      go_wp2
      go_region_with (go_at_call 89; refine (dataO P x cap l _ (by exact HD.out)).mono ?_; rintro e w3 ⟨s, rfl, hs5, hd3, hon3⟩; have HS5 : Hid (SmL (m.set k s)) := HSm.out.set k (by omega); clear hs5; obtain ⟨hz0, ⟨old, hz1⟩, hz2, hE⟩ := HW.out w3 s hon3 hd3; have HE : Hid _ := hE; clear hE hd3 hon3)
      all_goals
        go_wp2
        go_roundw
        case rel => exact ⟨k + 1, m.set k s, by omega, by simp [hm], HS5, by go_num, HE.out.1, HE.out.2.1, HE.out.2.2.1, HE.out.2.2.2.1, HE.out.2.2.2.2⟩
        case measure => simp [intOf]; omega
    · obtain rfl : k = M.length := by omega
      go_wp2_with fail
      refine (belowO P x cap l 6 _ HD.out (by omega) (by omega)).mono ?_
      rintro e w3 ⟨n2, rfl, hn2, hd3, hon3⟩
      have HD4 : Hid (Drw w3 P x cap l) := hd3
      have HR4 : Hid (Var w3 w.heap.size #[.slice none 0 0, .slice none 0 0] 27) := HR.out.onlyP hon3 (by omega)
      have HV4 : Hid (Var w3 w2.heap.size #[.slice a1 M.length c1, .slice b1 0 e1] 27) := HV.out.onlyP hon3 (by omega)
      have HO4 : Hid (OwnD w3 (w.heap.size + 1) (.agg #[.slice a1 M.length c1, .slice b1 0 e1]) (m, [])) := HO.out.onlyP hon3 (by omega)
      have HON4 : Hid (OnlyP P w w3) := HON.out.trans hon3
      clear HD HR HV HO HON hd3 hon3 hv0
      go_wp2
      go_loopw [7] (fun i wr => ∃ (k : Nat) (p : List PutD) (b : Option Addr) (e : Nat), k ≤ n2 ∧ p.length = k ∧ Hid (SmP p) ∧ i = .int .i64 k ∧ Hid (Drw wr P x cap l) ∧ Hid (Var wr w.heap.size #[.slice none 0 0, .slice none 0 0] 27) ∧ Hid (Var wr w2.heap.size #[.slice a1 M.length c1, .slice b k e] 27) ∧ Hid (OwnD wr (w.heap.size + 1) (.agg #[.slice a1 M.length c1, .slice b k e]) (m, p)) ∧ Hid (OnlyP P w wr)) (fun i _ => n2 - (intOf i).toNat)
      case atStart => exact ⟨0, [], b1, e1, Nat.zero_le _, rfl, smP_nil, rfl, HD4, HR4, HV4, HO4, HON4⟩
      case round =>
        obtain ⟨k, p, b, e, hk2, hp, HSp, rfl, HD, HR, HV, HO, HON⟩ := hrel
        clear HD4 HR4 HV4 HO4 HON4
        have hv0 : wr.cell? ⟨w2.heap.size, 0, none⟩ = some (.slice a1 M.length c1) := HV.out.cell 0
        have hv1 : wr.cell? ⟨w2.heap.size, 1, none⟩ = some (.slice b k e) := HV.out.cell 1
        by_cases hlt3 : k < n2
        · have HW : Hid (∀ w3, OnlyP P wr.drew w3 → w3.cell? ⟨w2.heap.size, 0, none⟩ = some (.slice a1 M.length c1) ∧ w3.cell? ⟨w2.heap.size, 1, none⟩ = some (.slice b k e) ∧ Var w3 w.heap.size #[.slice none 0 0, .slice none 0 0] 27 ∧ Var w3 w2.heap.size #[.slice a1 M.length c1, .slice b k e] 27 ∧ OwnD w3 (w.heap.size + 1) (.agg #[.slice a1 M.length c1, .slice b k e]) (m, p) ∧ OnlyP P w w3) := by
            intro w3 hon
            have hon' : OnlyP P wr w3 := ⟨hon.os, hon.tape, hon.output, hon.size, hon.block⟩
            have hV' := HV.out.onlyP hon' (by omega)
            exact ⟨hV'.cell 0, hV'.cell 1, HR.out.onlyP hon' (by omega), hV', HO.out.onlyP hon' (by omega), HON.out.trans hon'⟩
          clear HO
          go_wp2
          go_region_law (first
            | (go_simp
               go_at_call 40
               refine (belowO P x cap l M.length _ (by exact HD.out) (by omega) (by omega)).mono ?_
               rintro e' w4 ⟨r, rfl, hr, hd4, hon4⟩
               have hy0 := (HW.out w4 hon4).1
               have hy1 := (HW.out w4 hon4).2.1
               have HD4 : Hid (Drw w4 P x cap l) := hd4
               have HON4 : Hid (OnlyP P wr.drew w4) := hon4
               clear hd4 hon4)
            | (go_simp
               go_at_call 89
               refine (dataO P x cap l _ HD4.out).mono ?_
               rintro e' w5 ⟨s, rfl, hs5, hd5, hon5⟩
               have HS5 : Hid (SmP (p ++ [((r : Int), s)])) := HSp.out.app _ (by omega)
               clear hs5
               obtain ⟨hu0, hu1, hu2, hu3, hu4, hu5⟩ := HW.out w5 (HON4.out.trans hon5)
               have HD5 : Hid (Drw w5 P x cap l) := hd5
               have HR5 : Hid (Var w5 w.heap.size #[.slice none 0 0, .slice none 0 0] 27) := hu2
               have HV5 : Hid (Var w5 w2.heap.size #[.slice a1 M.length c1, .slice b k e] 27) := hu3
               have HON5 : Hid (OnlyP P w w5) := hu5
               have HOS : Hid (w5.ownsRow (w.heap.size + 1) 9 1 (.slice a1 M.length c1) M.length (m.map Value.string)) := by
                 obtain ⟨z1, z2, hz, p1, p2⟩ := hu4
                 simp only [Value.agg.injEq, Array.mk.injEq, List.cons.injEq, and_true] at hz
                 obtain ⟨rfl, rfl⟩ := hz
                 simp only [hm] at p1
                 exact p1
               have HOP : Hid ((w5.alloc (.cells #[.int .i64 (r : Int), .string s] 39)).ownsRow (w.heap.size + 1) 39 2 (.slice b k e) k (p.flatMap encP)) := by
                 obtain ⟨z1, z2, hz, p1, p2⟩ := hu4
                 simp only [Value.agg.injEq, Array.mk.injEq, List.cons.injEq, and_true] at hz
                 obtain ⟨rfl, rfl⟩ := hz
                 simp only [hp] at p2
                 exact p2.alloc _
               have hw1 : (w5.alloc (.cells #[.int .i64 (r : Int), .string s] 39)).cell? ⟨w2.heap.size, 1, none⟩ = some (.slice b k e) := (HV5.out.alloc _).cell 1
               clear hd5 hon5 hu2 hu3 hu4 hu5)
            | (refine step_own_src (w5.alloc (.cells #[.int .i64 (r : Int), .string s] 39)) rfl (.tmp 36) (.tmp 45) 25 25 rfl (w.heap.size + 1) 39 i0 (.agg #[.int .i64 0, .string ⟨#[]⟩]) 2 24 Tryd.underlying25 hi hz0 hz1 hz2 rfl (.slice b k e) k (p.flatMap encP) (.slice (some ⟨w5.heap.size, 0, none⟩) 1 1) 1 ([((r : Int), s)].flatMap encP) ?_ ?_ ?_ ?_ HOP.out (src_puts 1 (rd_onePut (Var.made w5 _ _))) ?_ ?_
               · unfold maxLen; omega
               · omega
               · simp [Act.eval]
               · simp [Act.eval]
               · have := HV5.out.lt; simp; omega
               intro v6 w6 ho6 hg6
               have ho6' : w6.ownsRow (w.heap.size + 1) 39 2 v6 (p ++ [((r : Int), s)]).length ((p ++ [((r : Int), s)]).flatMap encP) := by
                 rw [List.flatMap_append, List.length_append, hp]; exact ho6
               obtain ⟨b6, e6, rfl, _, _⟩ := own_rdF encP_len ho6' rfl
               have HG6 : Hid ((w5.alloc (.cells #[.int .i64 (r : Int), .string s] 39)).grownBy w6 (Value.slice b k e).ownBlock) := hg6
               have HO6 : Hid (w6.ownsRow (w.heap.size + 1) 39 2 (.slice b6 (p ++ [((r : Int), s)]).length e6) (p ++ [((r : Int), s)]).length ((p ++ [((r : Int), s)]).flatMap encP)) := ho6'
               have hV6 : Var w6 w2.heap.size #[.slice a1 M.length c1, .slice b k e] 27 := (HV5.out.alloc _).only (Only.of_grown hg6) (own_var HOP.out (HV5.out.alloc _) (by decide))
               have hq1 : w6.cell? ⟨w2.heap.size, 1, none⟩ = some (.slice b k e) := hV6.cell 1
               have hq2 := hV6.frozen 1
               have HV6 : Hid (Var w6 w2.heap.size #[.slice a1 M.length c1, .slice b k e] 27) := hV6
               clear ho6 hg6 ho6' hV6))
          all_goals
            have hlb : ∀ j, (Value.slice b k e).ownBlock = some j → w.heap.size + 1 ≤ j := fun j hj => (HOP.out.lt j hj).1
            have hon6 : Only (fun j => w.heap.size ≤ j) w5 w6 := (Only.of_new (below1 w5 _)).trans ((Only.of_grown HG6.out).mono fun j _ hj => by have := hlb j hj; omega)
            have hR6 : Var w6 w.heap.size #[.slice none 0 0, .slice none 0 0] 27 := (HR5.out.alloc _).only (Only.of_grown HG6.out) (fun hj => by have := hlb _ hj; omega)
            have hoS6 := own_only (HOS.out.alloc (.cells #[.int .i64 (r : Int), .string s] 39)) (Only.of_grown HG6.out) (fun j hj hb => own_apart (HOS.out.alloc _) HOP.out (by decide) j hj hb)
            have hO6 : OwnD w6 (w.heap.size + 1) (.agg #[.slice a1 M.length c1, .slice b6 (p ++ [((r : Int), s)]).length e6]) (m, p ++ [((r : Int), s)]) := ⟨_, _, rfl, by simp only [hm]; exact hoS6, HO6.out⟩
            have hst : Only (fun j => w.heap.size ≤ j) w6 (w6.setCell ⟨w2.heap.size, 1, none⟩ (.slice b6 (p ++ [((r : Int), s)]).length e6)) := Only.setCell (S := fun j => w.heap.size ≤ j) (Only.refl _ _) (p := ⟨w2.heap.size, 1, none⟩) (by show w.heap.size ≤ w2.heap.size; omega) _
            have hD7 : Drw (w6.setCell ⟨w2.heap.size, 1, none⟩ (.slice b6 (p ++ [((r : Int), s)]).length e6)) P x cap l := HD5.out.only (hon6.trans hst) (fun j hj h => by omega)
            have hR7 := hR6.other (Q := w2.heap.size) (by omega) 1 (.slice b6 (p ++ [((r : Int), s)]).length e6)
            have hV7 := HV6.out.set 1 (.slice b6 (p ++ [((r : Int), s)]).length e6)
            have hO7 := hO6.setVar HV6.out 1 (.slice b6 (p ++ [((r : Int), s)]).length e6)
            have hP7 : OnlyP P w (w6.setCell ⟨w2.heap.size, 1, none⟩ (.slice b6 (p ++ [((r : Int), s)]).length e6)) := HON5.out.trans' (hon6.trans hst)
            have HE : Hid (Drw (w6.setCell ⟨w2.heap.size, 1, none⟩ (.slice b6 (p ++ [((r : Int), s)]).length e6)) P x cap l ∧ Var (w6.setCell ⟨w2.heap.size, 1, none⟩ (.slice b6 (p ++ [((r : Int), s)]).length e6)) w.heap.size #[.slice none 0 0, .slice none 0 0] 27 ∧ Var (w6.setCell ⟨w2.heap.size, 1, none⟩ (.slice b6 (p ++ [((r : Int), s)]).length e6)) w2.heap.size #[.slice a1 M.length c1, .slice b6 (p ++ [((r : Int), s)]).length e6] 27 ∧ OwnD (w6.setCell ⟨w2.heap.size, 1, none⟩ (.slice b6 (p ++ [((r : Int), s)]).length e6)) (w.heap.size + 1) (.agg #[.slice a1 M.length c1, .slice b6 (p ++ [((r : Int), s)]).length e6]) (m, p ++ [((r : Int), s)]) ∧ OnlyP P w (w6.setCell ⟨w2.heap.size, 1, none⟩ (.slice b6 (p ++ [((r : Int), s)]).length e6))) := ⟨hD7, hR7, hV7, hO7, hP7⟩
            have hpl : (p ++ [((r : Int), s)]).length = k + 1 := by simp [hp]
            clear hD7 hR7 hV7 hO7 hP7 hst hO6 hoS6 hR6 hon6 hlb HG6 HO6 HV6 HOS HOP HV5 HR5 HD5 HON5 HON4 HD4 hv0 hv1 hy0 hy1 hu0 hu1 hw1 hq1 hq2
            rw [hpl] at HE
            generalize p ++ [((r : Int), s)] = p2 at *
            go_wp2
            go_roundw
            case rel => exact ⟨k + 1, p2, b6, e6, by omega, hpl, HS5, by go_num, HE.out.1, HE.out.2.1, HE.out.2.2.1, HE.out.2.2.2.1, HE.out.2.2.2.2⟩
            case measure => simp [intOf]; omega
        · obtain rfl : k = n2 := by omega
          have hq0 : wr.cell? ⟨w.heap.size, 0, none⟩ = some (.slice none 0 0) := HR.out.cell 0
          have hq1 : (wr.setCell ⟨w.heap.size, 0, none⟩ (.slice a1 M.length c1)).cell? ⟨w.heap.size, 1, none⟩ = some (.slice none 0 0) := (HR.out.set 0 (.slice a1 M.length c1)).cell 1
          have hf0 := HR.out.frozen 0
          have hf1 := HR.out.frozen 1
          have HR10 : Hid (Var ((wr.setCell ⟨w.heap.size, 0, none⟩ (.slice a1 M.length c1)).setCell ⟨w.heap.size, 1, none⟩ (.slice b k e)) w.heap.size #[.slice a1 M.length c1, .slice b k e] 27) := HR.out.two _ _
          have HO10 : Hid (OwnD ((wr.setCell ⟨w.heap.size, 0, none⟩ (.slice a1 M.length c1)).setCell ⟨w.heap.size, 1, none⟩ (.slice b k e)) w.heap.size (.agg #[.slice a1 M.length c1, .slice b k e]) (m, p)) := ((HO.out.setVar HR.out 0 _).setVar (HR.out.set 0 _) 1 _).base (by omega)
          have hst : Only (fun j => w.heap.size ≤ j) wr ((wr.setCell ⟨w.heap.size, 0, none⟩ (.slice a1 M.length c1)).setCell ⟨w.heap.size, 1, none⟩ (.slice b k e)) := Only.setCell (S := fun j => w.heap.size ≤ j) (Only.setCell (S := fun j => w.heap.size ≤ j) (Only.refl _ _) (p := ⟨w.heap.size, 0, none⟩) (Nat.le_refl _) _) (p := ⟨w.heap.size, 1, none⟩) (Nat.le_refl _) _
          have HD10 : Hid (Drw ((wr.setCell ⟨w.heap.size, 0, none⟩ (.slice a1 M.length c1)).setCell ⟨w.heap.size, 1, none⟩ (.slice b k e)) P x cap l) := HD.out.only hst (fun j hj h => by omega)
          have HP10 : Hid (OnlyP P w ((wr.setCell ⟨w.heap.size, 0, none⟩ (.slice a1 M.length c1)).setCell ⟨w.heap.size, 1, none⟩ (.slice b k e))) := HON.out.trans' hst
          clear hst
          go_wp2
          refine bodyPost_ret (results_cell_row rfl _ _ w.heap.size 27 #[.slice a1 M.length c1, .slice b k e] (0, 0) _ rfl HR10.out Tryd.underlying27 rfl Tryd.sizeDisk) rfl ?_
          exact ⟨_, (m, p), rfl, HO10.out, by show 1 ≤ m.length; omega, by show m.length ≤ 9; omega, by show p.length ≤ 6; omega, ⟨HSm.out, HSp.out⟩, HD10.out, HP10.out⟩
end Go.Proofs.YtlidmnehpcodkaaDoor
