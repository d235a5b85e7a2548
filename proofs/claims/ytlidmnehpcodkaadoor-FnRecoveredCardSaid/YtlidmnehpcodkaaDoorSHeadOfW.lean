/-
  Own text: heads, as the other program reads them.
-/
import Derived.Test.YtlidmnehpcodkaaDoorHeadMath
import Derived.Test.YtlidmnehpcodkaaDoorBunJ
import Derived.Test.YtlidmnehpcodkaaDoorSpecGetW
import Derived.Test.YtlidmnehpcodkaaDoorBunS
import Derived.Laws.IdiomStrings
import Derived.BigQuiet
namespace Go.Proofs.YtlidmnehpcodkaaDoor
open Go.RowKit

/-- A text turned into a row of bytes. -/
theorem bytes_row (s : ByteArray) (w : World) : ∃ cap W, (convert 9 22 (.string s)).run Tryd.prog w = .ok (.slice (some ⟨w.heap.size, 0, none⟩) (bytesOf s).length cap) W ∧ Rd .u8 W (some ⟨w.heap.size, 0, none⟩) (bytesOf s) ∧ Below w.heap.size w W := by
  have hcv := run_bytes_of_string (P := Tryd.prog) w 9 22 5 s Tryd.underlying9 Tryd.underlying22 Tryd.underlying5
  generalize hcap : grownCap w s.size 0 5 = cap at hcv
  generalize hW : w.drew.alloc (.cells (bytesRow s cap) 5 ((bytesRow s cap).size, (bytesRow s cap).size + 1)) = W at hcv
  have e1 : W.heap[w.heap.size]? = some (.cells (bytesRow s cap) 5 ((bytesRow s cap).size, (bytesRow s cap).size + 1)) := by rw [← hW]; exact heap_alloc_new w.drew _
  refine ⟨cap, W, by rw [bytesOf_len]; exact hcv, .inr ⟨w.heap.size, 0, rfl, (Array.getElem?_eq_some_iff.1 e1).1, fun i hi => ?_⟩, by rw [← hW]; exact (Below.refl _ _).drew.alloc (Nat.le_refl _) _⟩
  rw [bytesOf_len] at hi
  have hj : i < s.data.size := hi
  rw [Nat.zero_add, cell_of_row W w.heap.size i _ _ _ e1, bytesRow_at s cap i hj]
  simp [bytesOf, List.getD, Array.getElem?_eq_getElem hj]

set_option maxRecDepth 20000 in
set_option maxHeartbeats 4000000 in
theorem specHeadOf (s : ByteArray) (n : Int) (w : World) (hs : s.size ≤ 1048576) :
    Calls Tryd.prog 29 #[.string s, .int .i64 n] w fun e w' => ∃ v, e = .returned (.tuple #[v, .int .i64 ((hoS s n : Nat) : Int), .bool (hoOk s n)]) ∧ w'.ownsRow w.heap.size 3 1 v (hoA s n).length ((hoA s n).map (Value.int .i64)) ∧ Below w.heap.size w w' := by
  obtain ⟨i0, hi, hz0, hz1, hz2⟩ := info_parts Tryd.infoI
  obtain ⟨i1, gi, gz0, gz1, gz2⟩ := info_parts Tryd.infoPut
  obtain ⟨cap, W, hcv, hrd, hbW⟩ := bytes_row s w
  have hbl := bytesOf_len s
  have hu := bytesOf_u8 s
  have HNO : Hid ((∀ ats sum, ¬ HeadP (bytesOf s) n ats sum) → hoA s n = [] ∧ hoS s n = 0 ∧ hoOk s n = false) := ho_no
  have HYE : Hid (∀ ats sum, HeadP (bytesOf s) n ats sum → hoA s n = ats ∧ hoS s n = sum ∧ hoOk s n = true) := fun _ _ => ho_yes
  have hl : (bytesOf s).length ≤ 1048576 := by omega
  clear hbl
  generalize bytesOf s = b at *
  have HRD : Hid (∀ W', Below W.heap.size W W' → Rd .u8 W' (some ⟨w.heap.size, 0, none⟩) b) := fun W' h => hrd.below h (Nat.le_refl _)
  have HU : Hid (U8 b) := hu
  have HC : Hid (∀ W', Below W.heap.size W W' → ∀ i, i < b.length → W'.cell? ⟨w.heap.size, i, none⟩ = some (.int .u8 (b.getD i 0))) := by
    intro W' h i hi
    rcases HRD.out W' h with h0 | ⟨g, off, he, _, hc⟩
    · rw [h0] at hi; simp at hi
    · cases he
      have := hc i hi
      rwa [Nat.zero_add] at this
  have HBW : Hid (Below w.heap.size w W) := hbW
  have HGN : Hid (∀ W' (p : Nat), Below W.heap.size W W' → p ≤ 1048581 → Calls Tryd.prog 77 #[.slice (some ⟨w.heap.size, 0, none⟩) b.length cap, .int .i64 (p : Int)] W' fun e w' => ((∃ n next, Good b (p : Int) n next ∧ e = .returned (.tuple #[.int .i64 (n : Nat), .int .i64 (next : Nat), .bool true])) ∨ ((∀ n next, ¬ Good b (p : Int) n next) ∧ e = .returned (.tuple #[.int .i64 0, .int .i64 0, .bool false]))) ∧ w' = W') :=
    fun W' p h hp => specGetNum _ cap b (p : Int) W' (by omega) HU.out (HRD.out W' h) (by omega)
  have HEND : Hid (∀ W', Below W.heap.size W W' → hoA s n = [] ∧ hoS s n = 0 ∧ hoOk s n = false → (W'.alloc (.cells #[] 3)).ownsRow w.heap.size 3 1 (.slice (some ⟨W'.heap.size, 0, none⟩) 0 0) (hoA s n).length ((hoA s n).map (Value.int .i64)) ∧ Below w.heap.size w (W'.alloc (.cells #[] 3))) := by
    intro W' h he
    have hb' : Below w.heap.size w W' := HBW.out.trans (h.mono HBW.out.size)
    rw [he.1]
    exact ⟨World.ownsRow_made W' #[] 0 hb'.size (Nat.zero_le _) rfl, hb'.alloc hb'.size _⟩
  clear hrd hu hbW
  go_enter Tryd.func29, Tryd.ntmps29
  go_wp2_with fail
  have HG1 := HGN.out W 1 (Below.refl _ _) (by omega)
  refine HG1.mono ?_
  clear HG1 hcv
  rintro e w1 ⟨h, hw1⟩
  subst w1
  rcases h with ⟨many, at1, hg, rfl⟩ | ⟨hno, rfl⟩
  · obtain ⟨hg1, hg2, hg3, _⟩ := hg.le
    have HG : Hid (Good b 1 many at1) := hg
    have hc0 := HC.out W (Below.refl _ _) 0 (by omega)
    have HIN : Hid (∀ Q W', (decide (1 ≤ (many : Int)) && decide ((many : Int) ≤ 48)) = Q → Calls Tryd.prog 76 #[.int .i64 (many : Int), .int .i64 1, .int .i64 48] W' fun e w' => e = .returned (.bool Q) ∧ w' = W') := by
      rintro Q W' rfl
      exact inW (many : Int) 1 48 W'
    have hbpos : (0 : Int) < (b.length : Int) := by omega
    have hu0 := HU.out.at 0
    clear hg
    by_cases h74 : b.getD 0 0 = 74
    · rw [h74] at hc0
      by_cases hmm : 1 ≤ many ∧ many ≤ 48
      · obtain ⟨hm1, hm2⟩ := hmm
        have HI := HIN.out true W (by simp; omega)
        have HI2 : Hid (Calls Tryd.prog 76 #[.int .i64 (many : Int), .int .i64 1, .int .i64 48] W fun e w' => e = .returned (.bool true) ∧ w' = W) := HI
        have H74 : Hid (b.getD 0 0 = 74) := h74
        clear HI HIN h74
        go_wp2_with fail
        refine HI2.out.mono ?_
        rintro e w1 ⟨rfl, hw1⟩
        subst w1
        clear hc0 HI2
        have hm1' : (W.alloc (.cells #[] 3)).ownsRow W.heap.size 3 1 (.slice (some ⟨W.heap.size, 0, none⟩) 0 0) 0 [] := World.ownsRow_made W #[] 0 (Nat.le_refl _) (Nat.zero_le _) rfl
        have hm2' : ((W.alloc (.cells #[] 3)).alloc (.cells #[] 39)).ownsRow W.heap.size 39 2 (.slice (some ⟨W.heap.size + 1, 0, none⟩) 0 0) 0 [] := by
          have := World.ownsRow_made (e := 39) (size := 2) (W.alloc (.cells #[] 3)) #[] 0 (base := W.heap.size) (by simp) (Nat.zero_le _) rfl
          rwa [show (W.alloc (.cells #[] 3)).heap.size = W.heap.size + 1 by simp] at this
        have HM1 : Hid (((W.alloc (.cells #[] 3)).alloc (.cells #[] 39)).ownsRow W.heap.size 3 1 (.slice (some ⟨W.heap.size, 0, none⟩) 0 0) 0 []) := hm1'.alloc _
        have HM2 : Hid (((W.alloc (.cells #[] 3)).alloc (.cells #[] 39)).ownsRow W.heap.size 39 2 (.slice (some ⟨W.heap.size + 1, 0, none⟩) 0 0) 0 []) := hm2'
        clear hm1' hm2'
        go_wp2
        go_loopw [9, 11, 12, 13] (fun x v u i wr => ∃ (k p : Nat) (xs : List Int), k ≤ many ∧ xs.length = k ∧ i = .int .i64 k ∧ x = .int .i64 p ∧ p ≤ b.length ∧ Hid (AtsFrom b at1 xs p) ∧ Hid (wr.ownsRow W.heap.size 3 1 v k (xs.map (Value.int .i64))) ∧ Hid (wr.ownsRow W.heap.size 39 2 u k ((xs.map fun x => (x, (⟨#[]⟩ : ByteArray))).flatMap encP)) ∧ Hid (Below W.heap.size W wr)) (fun _ _ _ i _ => many - (intOf i).toNat)
        case atStart => exact ⟨0, at1, [], Nat.zero_le _, rfl, rfl, rfl, hg1, rfl, HM1, HM2, below2 _ _ _⟩
        case round =>
          obtain ⟨k, p, xs, hk, hxl, rfl, rfl, hp, HAF, HO, HP, HB⟩ := hrel
          clear HM1 HM2
          by_cases hlt : k < many
          · have hk2 : (k : Int) < (many : Int) := by omega
            go_wp2_with fail
            refine (HGN.out wr p HB.out (by omega)).mono ?_
            rintro e w1 ⟨h, hw1⟩
            subst w1
            rcases h with ⟨m, nx, hgm, rfl⟩ | ⟨hno, rfl⟩
            · have HAF2 : Hid (AtsFrom b at1 (xs ++ [(m : Int)]) nx) := HAF.out.snoc hgm
              obtain ⟨hq1, hq2, _, _⟩ := hgm.le
              have HX1 : Hid ((xs ++ [(m : Int)]).map (Value.int .i64) = xs.map (Value.int .i64) ++ [.int .i64 (m : Int)]) := by show _ = _; rw [List.map_append]; rfl
              have HX2 : Hid (((xs ++ [(m : Int)]).map fun x => (x, (⟨#[]⟩ : ByteArray))).flatMap encP = (xs.map fun x => (x, (⟨#[]⟩ : ByteArray))).flatMap encP ++ [((m : Int), (⟨#[]⟩ : ByteArray))].flatMap encP) := by show _ = _; rw [List.map_append, List.flatMap_append]; rfl
              have HNX : Hid (∀ (W' : World) (v u : Value), W'.ownsRow W.heap.size 3 1 v (k + 1) (xs.map (Value.int .i64) ++ [.int .i64 (m : Int)]) → W'.ownsRow W.heap.size 39 2 u (k + 1) ((xs.map fun x => (x, (⟨#[]⟩ : ByteArray))).flatMap encP ++ [((m : Int), (⟨#[]⟩ : ByteArray))].flatMap encP) → W'.ownsRow W.heap.size 3 1 v (k + 1) ((xs ++ [(m : Int)]).map (Value.int .i64)) ∧ W'.ownsRow W.heap.size 39 2 u (k + 1) (((xs ++ [(m : Int)]).map fun x => (x, (⟨#[]⟩ : ByteArray))).flatMap encP)) := by
                intro W' v u h1 h2
                rw [HX1.out, HX2.out]
                exact ⟨h1, h2⟩
              have HXL : Hid ((xs ++ [(m : Int)]).length = k + 1) := by show _ = _; rw [List.length_append, hxl]; rfl
              clear HX1 HX2 hgm
              have ho1 := HO.out.alloc (.cells #[.int .i64 (m : Int)] 3)
              have HS1 : Hid (Src Tryd.prog 1 49 (.slice (some ⟨wr.heap.size, 0, none⟩) 1 1) 1 [.int .i64 (m : Int)] (wr.alloc (.cells #[.int .i64 (m : Int)] 3))) := src_one Tryd.underlying49 wr (.int .i64 (m : Int)) rfl
              have HP1 : Hid ((wr.alloc (.cells #[.int .i64 (m : Int)] 3)).ownsRow W.heap.size 39 2 u12 k ((xs.map fun x => (x, (⟨#[]⟩ : ByteArray))).flatMap encP)) := HP.out.alloc _
              have hb1 : Below W.heap.size W (wr.alloc (.cells #[.int .i64 (m : Int)] 3)) := HB.out.alloc HB.out.size _
              clear HO HP HB HAF
              generalize (xs.map fun x => (x, (⟨#[]⟩ : ByteArray))).flatMap encP = Y2 at *
              generalize xs.map (Value.int .i64) = Y1 at *
              go_wp2_with (at_builtin; refine wpList_append_own_src _ rfl (.tmp 57) (.tmp 59) 49 49 rfl W.heap.size 3 i0 (.int .i64 0) 1 8 Tryd.underlying49 hi hz0 hz1 hz2 rfl _ _ _ rfl ho1 _ 1 [.int .i64 (m : Int)] rfl HS1.out (by unfold maxLen; omega) (by omega) hb1.size ?_)
              intro v5 w5 ho5 hg5
              have HP5 := own_only HP1.out (Only.of_grown hg5) (fun j hj h => own_apart HP1.out ho1 (by decide) j hj h)
              have hb5 : Below W.heap.size W w5 := hb1.grown hg5 hb1.size (fun j hj => (ho1.lt j hj).1)
              have ho6 := HP5.alloc (.cells #[.int .i64 (m : Int), .string ⟨#[]⟩] 39)
              have HS6 : Hid (Src Tryd.prog 2 25 (.slice (some ⟨w5.heap.size, 0, none⟩) 1 1) 1 ([((m : Int), (⟨#[]⟩ : ByteArray))].flatMap encP) (w5.alloc (.cells #[.int .i64 (m : Int), .string ⟨#[]⟩] 39))) := src_puts (l := [((m : Int), (⟨#[]⟩ : ByteArray))]) 1 (rd_onePut (Var.made w5 _ _))
              have HO6 : Hid ((w5.alloc (.cells #[.int .i64 (m : Int), .string ⟨#[]⟩] 39)).ownsRow W.heap.size 3 1 v5 (k + 1) (Y1 ++ [.int .i64 (m : Int)])) := ho5.alloc _
              have hb6 : Below W.heap.size W (w5.alloc (.cells #[.int .i64 (m : Int), .string ⟨#[]⟩] 39)) := hb5.alloc hb5.size _
              clear ho5 hg5 HP5 hb5 ho1 HS1 HP1 hb1
              go_wp2_with (at_builtin; refine wpList_append_own_src _ rfl (.tmp 61) (.tmp 64) 25 25 rfl W.heap.size 39 i1 (.agg #[.int .i64 0, .string ⟨#[]⟩]) 2 24 Tryd.underlying25 gi gz0 gz1 gz2 rfl _ _ _ rfl ho6 _ 1 ([((m : Int), (⟨#[]⟩ : ByteArray))].flatMap encP) rfl HS6.out (by unfold maxLen; omega) (by omega) hb6.size ?_)
              intro v7 w7 ho7 hg7
              have HO7 := own_only HO6.out (Only.of_grown hg7) (fun j hj h => own_apart HO6.out ho6 (by decide) j hj h)
              have HB7 : Hid (Below W.heap.size W w7) := hb6.grown hg7 hb6.size (fun j hj => (ho6.lt j hj).1)
              obtain ⟨h8, h9⟩ := HNX.out w7 v5 v7 HO7 ho7
              have H8 : Hid _ := h8
              have H9 : Hid _ := h9
              clear ho7 hg7 HO7 ho6 HS6 HO6 hb6 h8 h9 HNX
              go_wp2
              go_roundw
              case rel => exact ⟨k + 1, nx, xs ++ [(m : Int)], by omega, HXL.out, by go_num, rfl, hq1, HAF2, H8, H9, HB7⟩
              case measure => simp [intOf]; omega
            · have HE : Hid (hoA s n = [] ∧ hoS s n = 0 ∧ hoOk s n = false) := HNO.out (no_at HG.out HAF.out (by omega) hno)
              have HX := HEND.out wr HB.out HE.out
              have HX2 : Hid _ := HX
              clear HX
              go_wp2
              go_ret3
              exact ⟨_, by rw [HE.out.2.1, HE.out.2.2]; rfl, HX2.out.1, HX2.out.2⟩
          · obtain rfl : k = many := by omega
            have HEN : Hid (¬ (b.length = p + 4 ∧ jtx n (xs.map fun x => (x, (⟨#[]⟩ : ByteArray))) = true) → hoA s n = [] ∧ hoS s n = 0 ∧ hoOk s n = false) := fun h => HNO.out (no_end HG.out HAF.out hxl h)
            by_cases hend : b.length = p + 4
            · have HZ : Hid (jtx n (xs.map fun x => (x, (⟨#[]⟩ : ByteArray))) = true → hoA s n = xs ∧ (hoS s n : Int) = ((b.getD p 0 * 256 + b.getD (p + 1) 0) * 256 + b.getD (p + 2) 0) * 256 + b.getD (p + 3) 0 ∧ hoOk s n = true) := by
                intro hj
                have u0 := HU.out.at p
                have u1 := HU.out.at (p + 1)
                have u2 := HU.out.at (p + 2)
                have u3 := HU.out.at (p + 3)
                obtain ⟨sm, hsm⟩ : ∃ sm : Nat, (sm : Int) = ((b.getD p 0 * 256 + b.getD (p + 1) 0) * 256 + b.getD (p + 2) 0) * 256 + b.getD (p + 3) 0 := ⟨(((b.getD p 0 * 256 + b.getD (p + 1) 0) * 256 + b.getD (p + 2) 0) * 256 + b.getD (p + 3) 0).toNat, by omega⟩
                obtain ⟨e1, e2, e3⟩ := HYE.out xs sm ⟨k, at1, p, HG.out, H74.out, hm1, hm2, hxl, HAF.out, hend, jtx_iff.1 hj, hsm⟩
                exact ⟨e1, by rw [e2]; exact hsm, e3⟩
              have hmap : (xs.map fun x => (x, (⟨#[]⟩ : ByteArray))).length = k := by rw [List.length_map, hxl]
              obtain ⟨xp, cp, rfl, _, hrp⟩ := own_rdF encP_len HP.out hmap
              have HTX : Hid (∀ Q, jtx n (xs.map fun x => (x, (⟨#[]⟩ : ByteArray))) = Q → Calls Tryd.prog 28 #[.int .i64 n, .slice xp k cp] wr fun e w' => e = .returned (.bool Q) ∧ Below wr.heap.size wr w') := by
                rintro Q rfl
                have h := specTxOk xp cp (xs.map fun x => (x, (⟨#[]⟩ : ByteArray))) n wr (by omega) hrp
                rwa [hmap] at h
              have h4 : ((b.length : Nat) : Int) = (p : Int) + 4 := by omega
              have h4b : (((b.length : Nat) : Int) == (p : Int) + 4) = true := by simp; omega
              have h4c : (((b.length : Nat) : Int) != (p : Int) + 4) = false := by simp [bne, h4b]
              have h4d : ((p : Int) + 4 == (p : Int) + 4) = true := by simp
              clear HP hrp hmap HG HAF H74
              cases hj : jtx n (xs.map fun x => (x, (⟨#[]⟩ : ByteArray))) with
              | false =>
                have HE : Hid (hoA s n = [] ∧ hoS s n = 0 ∧ hoOk s n = false) := HEN.out (by rw [hj]; simp)
                have HT := HTX.out false hj
                go_wp2_with fail
                refine HT.mono ?_
                rintro e w2 ⟨rfl, hb2⟩
                have HX := HEND.out w2 (HB.out.trans (hb2.mono HB.out.size)) HE.out
                have HX2 : Hid _ := HX
                clear HX HT hb2
                go_wp2
                go_ret3
                exact ⟨_, by rw [HE.out.2.1, HE.out.2.2]; rfl, HX2.out.1, HX2.out.2⟩
              | true =>
                have HE : Hid (hoA s n = xs ∧ (hoS s n : Int) = ((b.getD p 0 * 256 + b.getD (p + 1) 0) * 256 + b.getD (p + 2) 0) * 256 + b.getD (p + 3) 0 ∧ hoOk s n = true) := HZ.out hj
                have HT := HTX.out true hj
                go_wp2_with fail
                refine HT.mono ?_
                rintro e w2 ⟨rfl, hb2⟩
                have HB2 : Hid (Below W.heap.size W w2) := HB.out.trans (hb2.mono HB.out.size)
                have HO2 : Hid (w2.ownsRow W.heap.size 3 1 u11 k (xs.map (Value.int .i64))) := ownsRow_below HO.out hb2 (Nat.le_refl _)
                have c0 := HC.out w2 HB2.out p (by omega)
                have c1 := HC.out w2 HB2.out (p + 1) (by omega)
                have c2 := HC.out w2 HB2.out (p + 2) (by omega)
                have c3 := HC.out w2 HB2.out (p + 3) (by omega)
                have u0 := HU.out.at p
                have u1 := HU.out.at (p + 1)
                have u2 := HU.out.at (p + 2)
                have u3 := HU.out.at (p + 3)
                generalize b.getD p 0 = z0 at *
                generalize b.getD (p + 1) 0 = z1 at *
                generalize b.getD (p + 2) 0 = z2 at *
                generalize b.getD (p + 3) 0 = z3 at *
                clear HT hb2 HO HB HTX HEN HZ hj
                have b0 : (p : Int) < (b.length : Int) := by omega
                have b1 : (p : Int) + 1 < (b.length : Int) := by omega
                have b2 : (p : Int) + 2 < (b.length : Int) := by omega
                have b3 : (p : Int) + 3 < (b.length : Int) := by omega
                go_wp2
                go_quiet (fail)
                have HB3 : Hid (Below w.heap.size w (w2.drewN nq)) := HBW.out.trans ((HB2.out.mono HBW.out.size).trans ⟨rfl, rfl, rfl, Nat.le_refl _, fun _ _ => rfl⟩)
                have HO3 : Hid ((w2.drewN nq).ownsRow w.heap.size 3 1 u11 k (xs.map (Value.int .i64))) := ownsRow_base (ownsRow_below HO2.out (Below.trans (Below.refl w2.heap.size w2) ⟨rfl, rfl, rfl, Nat.le_refl _, fun _ _ => rfl⟩) (Nat.le_refl _)) HBW.out.size
                go_wp2
                go_ret3
                refine ⟨u11, ?_, ?_, HB3.out⟩
                · rw [HE.out.2.2, HE.out.2.1]; rfl
                · rw [HE.out.1, hxl]; exact HO3.out
            · have HE : Hid (hoA s n = [] ∧ hoS s n = 0 ∧ hoOk s n = false) := HEN.out (fun h => hend h.1)
              have HX := HEND.out wr HB.out HE.out
              have HX2 : Hid _ := HX
              have h4a : ¬ ((b.length : Nat) : Int) = (p : Int) + 4 := by omega
              have h4b : (((b.length : Nat) : Int) == (p : Int) + 4) = false := by simpa using h4a
              have h4c : (((b.length : Nat) : Int) != (p : Int) + 4) = true := by simp [bne, h4b]
              clear HX HEN
              go_wp2
              go_ret3
              exact ⟨_, by rw [HE.out.2.1, HE.out.2.2]; rfl, HX2.out.1, HX2.out.2⟩
      · have HE : Hid (hoA s n = [] ∧ hoS s n = 0 ∧ hoOk s n = false) := HNO.out (no_many HG.out hmm)
        have HI := HIN.out false W (by simp; omega)
        have HI2 : Hid (Calls Tryd.prog 76 #[.int .i64 (many : Int), .int .i64 1, .int .i64 48] W fun e w' => e = .returned (.bool false) ∧ w' = W) := HI
        have HX := HEND.out W (Below.refl _ _) HE.out
        have HX2 : Hid _ := HX
        clear HX HI HIN
        go_wp2_with fail
        refine HI2.out.mono ?_
        rintro e w1 ⟨rfl, hw1⟩
        subst w1
        go_wp2
        go_ret3
        exact ⟨_, by rw [HE.out.2.1, HE.out.2.2]; rfl, HX2.out.1, HX2.out.2⟩
    · have HE : Hid (hoA s n = [] ∧ hoS s n = 0 ∧ hoOk s n = false) := HNO.out (no_first h74)
      have HX := HEND.out W (Below.refl _ _) HE.out
      have HX2 : Hid _ := HX
      clear HX HIN
      generalize b.getD 0 0 = y0 at *
      have hne1 : (y0 == 74) = false := by simpa using h74
      have hne2 : (y0 != 74) = true := by simp [bne, hne1]
      go_wp2
      go_ret3
      exact ⟨_, by rw [HE.out.2.1, HE.out.2.2]; rfl, HX2.out.1, HX2.out.2⟩
  · have HE : Hid (hoA s n = [] ∧ hoS s n = 0 ∧ hoOk s n = false) := HNO.out (no_num hno)
    have HX := HEND.out W (Below.refl _ _) HE.out
    have HX2 : Hid _ := HX
    clear HX
    go_wp2
    go_ret3
    exact ⟨_, by rw [HE.out.2.1, HE.out.2.2]; rfl, HX2.out.1, HX2.out.2⟩
end Go.Proofs.YtlidmnehpcodkaaDoor
