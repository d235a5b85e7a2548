/-
  For every code the law FnNumbers returns true, and what came in reads behind the call as it read before; the program's error variable holds what the program's text lays.
-/
import Derived.Test.YtgibihacbhjlnaaDoorNumsW
import Derived.Test.YtgibihacbhjlnaaDoorCards
import Derived.Test.YtgibihacbhjlnaaDoorTie
import Derived.LaidMore
import Derived.Stop.Joined
import Derived.Stop.LaidErr
import Derived.Lib.LaidTab
import Derived.Lib.SmallJoins
import Derived.SevenTiedAt
import Derived.WalkKit
import Derived.ProofKit
import Derived.OpenShut
import Derived.ShutString
import Derived.ChangeOld
import Derived.Below
namespace Go.Proofs.YtgibihacbhjlnaaDoor.fnNumbers
open Go.ChangeShapes Go.WideShapes Go.ChangeAt Go.RowKit
open Go.ChangeMaps (open_string shut_string)
set_option linter.unusedVariables false

theorem own : ownKnob Tryd.prog.godebug = none := by kernel_rfl
theorem door_met (os : Os) (args : Array Value) : laidMetH Tryd.prog Rows.fnNumbersRow.laid ((World.doorLaid Tryd.prog 81 os).forCall (fun _ _ => 0) ⟨#[], args, []⟩).memory :=
  laidMetH_of_parts3 (fuel := 8) (laidMet_of_run' 8 (by kernel_rfl) (by kernel_rfl)) (by kernel_rfl) (by kernel_rfl)
theorem laidOut : laidOutB Tryd.prog = true := by kernel_rfl

/-- What is known of a slice that came in. -/
def IsRow (k : IntKind) (w : World) (a : Option Addr) (len cap : Nat) (zs : List Int) : Prop :=
  (a = none ∧ len = 0 ∧ cap = 0 ∧ zs = []) ∨
  ∃ x, a = some x ∧ len ≤ cap ∧ cap ≤ maxLen ∧ zs.length = cap ∧ (∀ i, i < zs.length → w.cell? (x.add i) = some (.int k (zs.getD i 0))) ∧ ∀ n ∈ zs, (Lit.int k n).wf = true

set_option maxRecDepth 20000 in
set_option maxHeartbeats 2000000 in
theorem walk (a0 : Option Addr) (len0 cap0 : Nat) (z0 : List Int) (w : World) (w0 : IsRow .u8 w a0 len0 cap0 z0) (hL : laidMetH Tryd.prog Rows.fnNumbersRow.laid w) :
    Calls Tryd.prog 3 #[.slice a0 len0 cap0] w fun e w' => e = .returned (.bool true) ∧ Below w.heap.size w w' := by
  obtain ⟨a, hv⟩ := errVar (Rows.fnNumbersRow.laid) rfl hL
  have hgc : w.cell? ⟨errG, 0, none⟩ = some (.iface 91 (.pointer (some a))) := by simpa using World.var?_cell gErr hv 0
  have hgl : errG < w.heap.size := World.block_lt_of_cell? w _ hgc
  have HG : Hid (w.cell? ⟨errG, 0, none⟩ = some (.iface 91 (.pointer (some a)))) := hgc
  clear hL hv hgc
  obtain ⟨l, rfl, hu, hr⟩ := rd_of_row w0
  obtain ⟨i0, hi, hz0, hz1, hz2⟩ := info_parts Tryd.infoU8
  by_cases hbig : 1048576 < l.length
  · go_enter Tryd.func3, Tryd.ntmps3
    go_wp2_with (go_at_call 8; refine (bigC _ _ _ _).mono ?_; rintro e w' ⟨rfl, hw'⟩; subst w')
    go_ret
    exact ⟨rfl, Below.refl _ _⟩
  have hl : l.length ≤ 1048576 := by omega
  have HR : Hid (Rd .u8 w a0 l) := hr
  have HU : Hid (U8 l) := hu
  clear hr hu w0
  go_enter Tryd.func3, Tryd.ntmps3
  go_wp2_with (go_at_call 8; refine (bigC _ _ _ _).mono ?_; rintro e w' ⟨rfl, hw'⟩; subst w')
  refine (drawNum _ _ l _ hl HU.out (by exact HR.out)).mono ?_
  rintro e w1 ⟨n, hn, rfl, hb1⟩
  have HN : Hid (n ∈ numsL) := hn
  clear hn
  go_wp2_with fail
  refine (drawText _ _ l _ hl HU.out (by exact HR.out.below hb1 (Nat.le_refl _))).mono ?_
  rintro e w2 ⟨s, hs, rfl, hb2⟩
  have HS : Hid (s ∈ textsL) := hs
  clear hs
  have hb02 : Below w.heap.size w w2 := hb1.trans (hb2.mono hb1.size)
  clear hb1 hb2
  go_wp2_with fail
  refine (implPutNum n _).mono ?_
  rintro e w3 ⟨v3, rfl, ho3, hb3⟩
  have hb03 : Below w.heap.size w w3 := hb02.trans (hb3.mono hb02.size)
  clear hb02 hb3
  obtain ⟨x3, c3, rfl, _, _⟩ := own_rd ho3
  have hpl := putNum_len n
  have hsz : s.size ≤ 9 := by
    have := HS.out
    simp only [textsL, List.mem_cons, List.not_mem_nil, or_false] at this
    rcases this with rfl | rfl | rfl | rfl <;> decide
  have hb7 : Below w3.heap.size w3 (w3.alloc (.cells #[.int .u8 7] 5)) := (Below.refl _ _).alloc (Nat.le_refl _) _
  have ho7 : (w3.alloc (.cells #[.int .u8 7] 5)).ownsRow w3.heap.size 5 1 (.slice (some ⟨w3.heap.size, 0, none⟩) 1 1) 1 [.int .u8 7] :=
    ⟨by simp, .inr ⟨w3.heap.size, 1, #[.int .u8 7], rfl, Nat.le_refl _, heap_alloc_new w3 _, Nat.le_refl _, by unfold maxLen; omega, rfl, rfl⟩⟩
  have hsrc := own_src (ownsRow_below ho3 hb7 (Nat.le_refl _))
  have HO3 : Hid (w3.ownsRow w2.heap.size 5 1 (.slice x3 (putNum n).length c3) (putNum n).length ((putNum n).map (Value.int .u8))) := ho3
  clear ho3
  go_wp2_with (at_builtin; refine wpList_append_own_src _ rfl _ _ 22 22 rfl w3.heap.size 5 i0 (.int .u8 0) 1 1 Tryd.underlying22 hi hz0 hz1 hz2 rfl _ _ _ rfl ho7 _ _ _ rfl hsrc (by unfold maxLen; omega) (by omega) (by simp) ?_)
  intro v4 w4 ho4 hg4
  have hb04 : Below w.heap.size w w4 := (hb03.trans (hb7.mono hb03.size)).grown hg4 (by have := hb03.size; simp; omega) (fun k hk => by have := (ho7.lt k hk).1; have := hb03.size; omega)
  have hb34 : w3.heap.size ≤ w4.heap.size := by have := hg4.size; simp at this; omega
  clear ho7 hsrc hg4 hb7
  go_wp2_with fail
  refine (implPutText s _ (by omega)).mono ?_
  rintro e w5 ⟨v5, rfl, ho5, hb5⟩
  have ho45 := ownsRow_below ho4 hb5 (Nat.le_refl _)
  have hsrc5 := own_src ho5
  have hptl := putText_len s
  have hb05 : Below w.heap.size w w5 := hb04.trans (hb5.mono hb04.size)
  have hb35 : w3.heap.size ≤ w5.heap.size := by have := hb5.size; omega
  clear ho4 ho5 hb5 hb04
  go_wp2_with (at_builtin; refine wpList_append_own_src _ rfl _ _ 22 22 rfl w3.heap.size 5 i0 (.int .u8 0) 1 1 Tryd.underlying22 hi hz0 hz1 hz2 rfl _ _ _ rfl ho45 _ _ _ rfl hsrc5 (by unfold maxLen; omega) (by omega) hb35 ?_)
  intro v6 w6 ho6 hg6
  have ho6' : w6.ownsRow w3.heap.size 5 1 v6 (bL n s).length ((bL n s).map (Value.int .u8)) := by
    have e1 : (1 + (putNum n).length + (putText s).length) = (bL n s).length := by simp [bL]; omega
    have e2 : ([Value.int .u8 7] ++ (putNum n).map (Value.int .u8)) ++ (putText s).map (Value.int .u8) = (bL n s).map (Value.int .u8) := by simp [bL]
    rw [← e1, ← e2]
    exact ho6
  have hb06 : Below w.heap.size w w6 := hb05.grown hg6 hb05.size (fun k hk => by have := (ho45.lt k hk).1; have := hb03.size; omega)
  have hb36 : w3.heap.size ≤ w6.heap.size := by have := hg6.size; omega
  have hbu := bL_u8 n s
  have hbl : (bL n s).length ≤ 30 := by simp [bL]; omega
  have hbl1 : 1 ≤ (bL n s).length := by simp [bL]
  have HBU : Hid (U8 (bL n s)) := hbu
  obtain ⟨x6, c6, rfl, hca⟩ := own_came hbu (by omega) ho6'
  have HO6 : Hid (w6.ownsRow w3.heap.size 5 1 (.slice x6 (bL n s).length c6) (bL n s).length ((bL n s).map (Value.int .u8))) := ho6'
  have HCA6 : Hid (Came w6 x6 c6 (bL n s)) := hca
  clear ho6 hg6 ho6' hca hbu ho45 hsrc5 hb05 hb35
  go_wp2_with fail
  refine (specPutNum n _).mono ?_
  rintro e w7 ⟨v7, rfl, ho7, hb7⟩
  obtain ⟨x7, c7, rfl, _, _⟩ := own_rd ho7
  have hb07 : Below w.heap.size w w7 := hb06.trans (hb7.mono hb06.size)
  have HCA7 : Hid (Came w7 x6 c6 (bL n s)) := HCA6.out.below hb7 (Nat.le_refl _)
  have HO7 : Hid (w7.ownsRow w3.heap.size 5 1 (.slice x6 (bL n s).length c6) (bL n s).length ((bL n s).map (Value.int .u8))) := ownsRow_below HO6.out hb7 (Nat.le_refl _)
  have hb37 : w3.heap.size ≤ w7.heap.size := by have := hb7.size; omega
  clear ho7 hb7 HO6 HCA6 hb06 hb36
  by_cases hin : 0 ≤ n ∧ n ≤ 2147483647
  · obtain ⟨N, rfl⟩ := Int.eq_ofNat_of_zero_le hin.1
    have hpos : 0 < (putNum (N : Int)).length := putNum_pos N (by omega)
    have HGN : Hid (Good (bL N s) 1 N (1 + (putNum (N : Int)).length)) := good_mid [7] (putText s) N (by omega)
    have HGT : Hid (GoodT (bL N s) ((1 + (putNum (N : Int)).length : Nat) : Int) s (bL N s).length) := goodT_bL N s (by omega)
    generalize hpn : (putNum (N : Int)).length = pn at *
    clear hpn
    have HG0 : Hid (w7.cell? ⟨errG, 0, none⟩ = some (.iface 91 (.pointer (some a)))) := by show _ = _; rw [hb07.cell (by exact hgl)]; exact HG.out
    go_wp2_with fail
    refine (implGetNum x6 c6 (bL N s) _ a _ (by exact HCA7.out) (by have := hb07.size; omega) HG0.out).mono ?_
    rintro e w8 ⟨himp, hb8⟩
    obtain rfl : e = .returned (.tuple #[.int .i64 (N : Nat), .int .i64 ((1 + pn : Nat) : Int), .bool true]) := by
      rcases himp with ⟨n2, next2, h2, rfl⟩ | ⟨h2, _⟩
      · obtain ⟨rfl, rfl⟩ := HGN.out.unique h2; rfl
      · exact absurd HGN.out (h2 _ _)
    clear himp HGN HG0
    have hb08 : Below w.heap.size w w8 := hb07.trans (hb8.mono hb07.size)
    have HCA8 : Hid (Came w8 x6 c6 (bL N s)) := HCA7.out.below hb8 (Nat.le_refl _)
    have HO8 : Hid (w8.ownsRow w3.heap.size 5 1 (.slice x6 (bL N s).length c6) (bL N s).length ((bL N s).map (Value.int .u8))) := ownsRow_below HO7.out hb8 (Nat.le_refl _)
    have hb38 : w3.heap.size ≤ w8.heap.size := by have := hb8.size; omega
    clear hb8 HO7 HCA7 hb07 hb37
    have HG7 : Hid (w8.cell? ⟨errG, 0, none⟩ = some (.iface 91 (.pointer (some a)))) := by show _ = _; rw [hb08.cell (by exact hgl)]; exact HG.out
    go_wp2_with fail
    refine (implGetText x6 c6 (bL N s) _ a _ (by exact HCA8.out) (by have := hb08.size; omega) HG7.out).mono ?_
    rintro e w9 ⟨himp, hb9⟩
    obtain rfl : e = .returned (.tuple #[.string s, .int .i64 ((bL N s).length : Nat), .bool true]) := by
      rcases himp with ⟨s2, fin2, h2, rfl⟩ | ⟨h2, _⟩
      · obtain ⟨rfl, rfl⟩ := HGT.out.unique h2; rfl
      · exact absurd HGT.out (h2 _ _)
    clear himp HGT HG7
    have hb09 : Below w.heap.size w w9 := hb08.trans (hb9.mono hb08.size)
    have HCA9 : Hid (Came w9 x6 c6 (bL N s)) := HCA8.out.below hb9 (Nat.le_refl _)
    have HO9 : Hid (w9.ownsRow w3.heap.size 5 1 (.slice x6 (bL N s).length c6) (bL N s).length ((bL N s).map (Value.int .u8))) := ownsRow_below HO8.out hb9 (Nat.le_refl _)
    clear hb9 HCA8 HO8 hb08 hb38
    have hbE : Below w9.heap.size w9 (w9.alloc (.cells #[] 5)) := (Below.refl _ _).alloc (Nat.le_refl _) _
    have hoE : (w9.alloc (.cells #[] 5)).ownsRow w9.heap.size 5 1 (.slice (some ⟨w9.heap.size, 0, none⟩) 0 0) 0 [] := World.ownsRow_made w9 #[] 0 (Nat.le_refl _) (Nat.zero_le _) rfl
    have hsrcE := own_src (ownsRow_below HO9.out hbE (Nat.le_refl _))
    go_wp2_with (at_builtin; refine wpList_append_own_src _ rfl _ _ 22 22 rfl w9.heap.size 5 i0 (.int .u8 0) 1 1 Tryd.underlying22 hi hz0 hz1 hz2 rfl _ _ _ rfl hoE _ _ _ rfl hsrcE (by unfold maxLen; omega) (by omega) (by simp) ?_)
    intro v10 w10 ho10 hg10
    have hbA : Below w9.heap.size w9 w10 := hbE.grown hg10 (by simp) (fun k hk => (hoE.lt k hk).1)
    have HCA10 : Hid (Came w10 x6 c6 (bL N s)) := HCA9.out.below hbA (Nat.le_refl _)
    have hb010 : Below w.heap.size w w10 := hb09.trans (hbA.mono hb09.size)
    have HXB : Hid (∀ b off, x6 = some ⟨b, off, none⟩ → b < w9.heap.size) := by
      rcases HCA9.out.hrd with h | ⟨b', off', hx', hlt', _⟩
      · rw [h] at hbl1; simp at hbl1
      · intro b off hx; rw [hx] at hx'; simp at hx'; omega
    clear hg10 hoE hsrcE hbE HO9 HCA9 hbA
    obtain ⟨g, c10, rfl, hgge⟩ : ∃ g c10, v10 = .slice (some ⟨g, 0, none⟩) (bL N s).length c10 ∧ w9.heap.size ≤ g := by
      rcases ho10.2 with ⟨_, h0⟩ | ⟨g, cap, cur, hv, hb, _⟩
      · omega
      · exact ⟨g, cap, hv, hb⟩
    have hg10 : g < w10.heap.size := (ho10.lt g rfl).2
    have HO10 : Hid (w10.ownsRow w9.heap.size 5 1 (.slice (some ⟨g, 0, none⟩) (bL N s).length c10) (bL N s).length ((bL N s).map (Value.int .u8))) := ho10
    clear ho10
    go_wp2_with fail
    refine (at0c a0 cap0 l 3 _ hl HU.out (HR.out.below hb010 (Nat.le_refl _)) (by omega)).mono ?_
    rintro e x10 ⟨r3, rfl, hr3, hx10⟩
    subst x10
    have hI : r3 % (bL N s).length < (bL N s).length := Nat.mod_lt _ (by omega)
    have hce : w10.cell? ⟨g, r3 % (bL N s).length, none⟩ = some (.int .u8 ((bL N s).getD (r3 % (bL N s).length) 0)) := by
      rw [HO10.out.cellAt _ (by omega)]
      simp [List.getD, hI]
    have hfz := HO10.out.frozenAt (r3 % (bL N s).length)
    have hub := HBU.out.at (r3 % (bL N s).length)
    have emod : (r3 : Int) % ((bL N s).length : Int) = ((r3 % (bL N s).length : Nat) : Int) := by omega
    have HAT : Hid (∀ W : World, W.heap = w10.heap → Calls Tryd.prog 16 #[.slice a0 l.length cap0, .int .i64 4] W fun e w' => ∃ r : Nat, e = .returned (.int .i64 r) ∧ r < 256 ∧ w' = W) := by
      intro W hW
      refine at0c a0 cap0 l 4 W hl HU.out ?_ (by omega)
      rcases HR.out.below hb010 (Nat.le_refl _) with h | ⟨b, off, hx, hlt, hc⟩
      · exact .inl h
      · exact .inr ⟨b, off, hx, by rw [hW]; exact hlt, fun i hi => by rw [World.cell?_of_block (w := w10) (w' := W) (by rw [hW])]; exact hc i hi⟩
    generalize hII : r3 % (bL N s).length = I at *
    have HII : Hid (r3 % (bL N s).length = I) := hII
    clear hII
    generalize hdd : (bL N s).getD I 0 = d at *
    have HDD : Hid ((bL N s).getD I 0 = d) := hdd
    clear hdd
    obtain ⟨hub0, hub1⟩ := hub
    go_wp2
    go_region_with (go_at_call 16; refine (HAT.out w10.drew rfl).mono ?_; rintro e x11 ⟨r4, rfl, hr4, hx11⟩; subst hx11)
    all_goals
      obtain ⟨hV0, hV1, hVd⟩ := turn_val d r4 hub0 hub1
      generalize IntKind.u8.wrap (d + IntKind.u8.wrap (IntKind.i64.wrap (1 + (r4 : Int).tmod 255))) = V at *
      have ho11 : (w10.setCell ⟨g, I, none⟩ (.int .u8 V)).drew.ownsRow w9.heap.size 5 1 (.slice (some ⟨g, 0, none⟩) (bL N s).length c10) (bL N s).length (((bL N s).set I V).map (Value.int .u8)) := by
        have := (HO10.out.stored I (.int .u8 V)).1
        rw [← List.map_set] at this
        exact this
      have hrx := Rd.own ho11
      have hrb : Rd .u8 (w10.setCell ⟨g, I, none⟩ (.int .u8 V)).drew x6 (bL N s) := rd_keep HCA10.out.hrd HXB.out (((Below.refl w9.heap.size w10).setCell (p := ⟨g, I, none⟩) hgge _).drew)
      have hb011 : Below w.heap.size w (w10.setCell ⟨g, I, none⟩ (.int .u8 V)).drew := (hb010.setCell (p := ⟨g, I, none⟩) (by have := hb09.size; exact Nat.le_trans this hgge) _).drew
      have HRX : Hid (Rd .u8 (w10.setCell ⟨g, I, none⟩ (.int .u8 V)).drew (some ⟨g, 0, none⟩) ((bL N s).set I V)) := hrx
      have HRB : Hid (Rd .u8 (w10.setCell ⟨g, I, none⟩ (.int .u8 V)).drew x6 (bL N s)) := hrb
      have HUX : Hid (U8 ((bL N s).set I V)) := by
        intro m hm
        rcases List.mem_or_eq_of_mem_set hm with h | h
        · exact HBU.out m h
        · rw [h]; exact ⟨hV0, hV1⟩
      have hcne : ¬ crcTo ((bL N s).set I V) (bL N s).length ^^^ 4294967295 = crcTo (bL N s) (bL N s).length ^^^ 4294967295 := fun h => crc_turn HBU.out I V hI ⟨hV0, hV1⟩ (by rw [HDD.out]; exact hVd) _ hI (xor_cancel h)
      clear ho11 hrx hrb hce hfz HO10 HCA10 HXB hVd hub0 hub1 HAT emod HII HDD hb010 hb09
      generalize (w10.setCell ⟨g, I, none⟩ (.int .u8 V)).drew = W at *
      go_wp2_with fail
      have hcx := implCrc (some ⟨g, 0, none⟩) c10 ((bL N s).set I V) W (by simp; omega) HUX.out HRX.out
      rw [List.length_set] at hcx
      refine hcx.mono ?_
      rintro e y ⟨rfl, hy⟩
      subst y
      clear hcx
      go_wp2_with fail
      refine (implCrc x6 c6 (bL N s) W (by omega) HBU.out HRB.out).mono ?_
      rintro e y ⟨rfl, hy⟩
      subst y
      have HCB : Hid (∀ Y : Nat, Y = crcTo (bL N s) (bL N s).length ^^^ 4294967295 → Calls Tryd.prog 17 #[.slice x6 (bL N s).length c6] W fun e w' => e = .returned (.int .i64 (Y : Int)) ∧ w' = W) := by
        rintro Y rfl
        exact implCrc x6 c6 (bL N s) W (by omega) HBU.out HRB.out
      generalize crcTo ((bL N s).set I V) (bL N s).length ^^^ 4294967295 = X at *
      generalize crcTo (bL N s) (bL N s).length ^^^ 4294967295 = Y at *
      have hne : ((X : Int) == (Y : Int)) = false := by simp; omega
      have hne2 : ((X : Int) != (Y : Int)) = true := by simp; omega
      have hne3 : ¬ (X : Int) = (Y : Int) := by omega
      have hne4 : (!((X : Int) == (Y : Int))) = true := by rw [hne]; rfl
      go_wp2_with fail
      refine (HCB.out Y rfl).mono ?_
      rintro e y ⟨rfl, hy⟩
      subst y
      go_wp2
      go_ret
      exact ⟨rfl, hb011⟩
  · have hp0 : putNum n = [] := by rw [putNum, if_neg hin]
    have HGT : Hid (GoodT (bL n s) 1 s (bL n s).length) := goodT_bL0 n s (by omega) hp0
    have hpl0 : (putNum n).length = 0 := by rw [hp0]; rfl
    clear hp0
    have HO8 := HO7
    have HCA8 := HCA7
    have hb08 := hb07
    have hb38 := hb37
    clear HO7 HCA7 hb07 hb37
    have HG7 : Hid (w7.cell? ⟨errG, 0, none⟩ = some (.iface 91 (.pointer (some a)))) := by show _ = _; rw [hb08.cell (by exact hgl)]; exact HG.out
    go_wp2_with fail
    refine (implGetText x6 c6 (bL n s) _ a _ (by exact HCA8.out) (by have := hb08.size; omega) HG7.out).mono ?_
    rintro e w9 ⟨himp, hb9⟩
    obtain rfl : e = .returned (.tuple #[.string s, .int .i64 ((bL n s).length : Nat), .bool true]) := by
      rcases himp with ⟨s2, fin2, h2, rfl⟩ | ⟨h2, _⟩
      · obtain ⟨rfl, rfl⟩ := HGT.out.unique h2; rfl
      · exact absurd HGT.out (h2 _ _)
    clear himp HGT HG7
    have hb09 : Below w.heap.size w w9 := hb08.trans (hb9.mono hb08.size)
    have HCA9 : Hid (Came w9 x6 c6 (bL n s)) := HCA8.out.below hb9 (Nat.le_refl _)
    have HO9 : Hid (w9.ownsRow w3.heap.size 5 1 (.slice x6 (bL n s).length c6) (bL n s).length ((bL n s).map (Value.int .u8))) := ownsRow_below HO8.out hb9 (Nat.le_refl _)
    clear hb9 HCA8 HO8 hb08 hb38
    have hbE : Below w9.heap.size w9 (w9.alloc (.cells #[] 5)) := (Below.refl _ _).alloc (Nat.le_refl _) _
    have hoE : (w9.alloc (.cells #[] 5)).ownsRow w9.heap.size 5 1 (.slice (some ⟨w9.heap.size, 0, none⟩) 0 0) 0 [] := World.ownsRow_made w9 #[] 0 (Nat.le_refl _) (Nat.zero_le _) rfl
    have hsrcE := own_src (ownsRow_below HO9.out hbE (Nat.le_refl _))
    go_wp2_with (at_builtin; refine wpList_append_own_src _ rfl _ _ 22 22 rfl w9.heap.size 5 i0 (.int .u8 0) 1 1 Tryd.underlying22 hi hz0 hz1 hz2 rfl _ _ _ rfl hoE _ _ _ rfl hsrcE (by unfold maxLen; omega) (by omega) (by simp) ?_)
    intro v10 w10 ho10 hg10
    have hbA : Below w9.heap.size w9 w10 := hbE.grown hg10 (by simp) (fun k hk => (hoE.lt k hk).1)
    have HCA10 : Hid (Came w10 x6 c6 (bL n s)) := HCA9.out.below hbA (Nat.le_refl _)
    have hb010 : Below w.heap.size w w10 := hb09.trans (hbA.mono hb09.size)
    have HXB : Hid (∀ b off, x6 = some ⟨b, off, none⟩ → b < w9.heap.size) := by
      rcases HCA9.out.hrd with h | ⟨b', off', hx', hlt', _⟩
      · rw [h] at hbl1; simp at hbl1
      · intro b off hx; rw [hx] at hx'; simp at hx'; omega
    clear hg10 hoE hsrcE hbE HO9 HCA9 hbA
    obtain ⟨g, c10, rfl, hgge⟩ : ∃ g c10, v10 = .slice (some ⟨g, 0, none⟩) (bL n s).length c10 ∧ w9.heap.size ≤ g := by
      rcases ho10.2 with ⟨_, h0⟩ | ⟨g, cap, cur, hv, hb, _⟩
      · omega
      · exact ⟨g, cap, hv, hb⟩
    have hg10 : g < w10.heap.size := (ho10.lt g rfl).2
    have HO10 : Hid (w10.ownsRow w9.heap.size 5 1 (.slice (some ⟨g, 0, none⟩) (bL n s).length c10) (bL n s).length ((bL n s).map (Value.int .u8))) := ho10
    clear ho10
    go_wp2_with fail
    refine (at0c a0 cap0 l 3 _ hl HU.out (HR.out.below hb010 (Nat.le_refl _)) (by omega)).mono ?_
    rintro e x10 ⟨r3, rfl, hr3, hx10⟩
    subst x10
    have hI : r3 % (bL n s).length < (bL n s).length := Nat.mod_lt _ (by omega)
    have hce : w10.cell? ⟨g, r3 % (bL n s).length, none⟩ = some (.int .u8 ((bL n s).getD (r3 % (bL n s).length) 0)) := by
      rw [HO10.out.cellAt _ (by omega)]
      simp [List.getD, hI]
    have hfz := HO10.out.frozenAt (r3 % (bL n s).length)
    have hub := HBU.out.at (r3 % (bL n s).length)
    have emod : (r3 : Int) % ((bL n s).length : Int) = ((r3 % (bL n s).length : Nat) : Int) := by omega
    have HAT : Hid (∀ W : World, W.heap = w10.heap → Calls Tryd.prog 16 #[.slice a0 l.length cap0, .int .i64 4] W fun e w' => ∃ r : Nat, e = .returned (.int .i64 r) ∧ r < 256 ∧ w' = W) := by
      intro W hW
      refine at0c a0 cap0 l 4 W hl HU.out ?_ (by omega)
      rcases HR.out.below hb010 (Nat.le_refl _) with h | ⟨b, off, hx, hlt, hc⟩
      · exact .inl h
      · exact .inr ⟨b, off, hx, by rw [hW]; exact hlt, fun i hi => by rw [World.cell?_of_block (w := w10) (w' := W) (by rw [hW])]; exact hc i hi⟩
    generalize hII : r3 % (bL n s).length = I at *
    have HII : Hid (r3 % (bL n s).length = I) := hII
    clear hII
    generalize hdd : (bL n s).getD I 0 = d at *
    have HDD : Hid ((bL n s).getD I 0 = d) := hdd
    clear hdd
    obtain ⟨hub0, hub1⟩ := hub
    go_wp2
    go_region_with (go_at_call 16; refine (HAT.out w10.drew rfl).mono ?_; rintro e x11 ⟨r4, rfl, hr4, hx11⟩; subst hx11)
    all_goals
      obtain ⟨hV0, hV1, hVd⟩ := turn_val d r4 hub0 hub1
      generalize IntKind.u8.wrap (d + IntKind.u8.wrap (IntKind.i64.wrap (1 + (r4 : Int).tmod 255))) = V at *
      have ho11 : (w10.setCell ⟨g, I, none⟩ (.int .u8 V)).drew.ownsRow w9.heap.size 5 1 (.slice (some ⟨g, 0, none⟩) (bL n s).length c10) (bL n s).length (((bL n s).set I V).map (Value.int .u8)) := by
        have := (HO10.out.stored I (.int .u8 V)).1
        rw [← List.map_set] at this
        exact this
      have hrx := Rd.own ho11
      have hrb : Rd .u8 (w10.setCell ⟨g, I, none⟩ (.int .u8 V)).drew x6 (bL n s) := rd_keep HCA10.out.hrd HXB.out (((Below.refl w9.heap.size w10).setCell (p := ⟨g, I, none⟩) hgge _).drew)
      have hb011 : Below w.heap.size w (w10.setCell ⟨g, I, none⟩ (.int .u8 V)).drew := (hb010.setCell (p := ⟨g, I, none⟩) (by have := hb09.size; exact Nat.le_trans this hgge) _).drew
      have HRX : Hid (Rd .u8 (w10.setCell ⟨g, I, none⟩ (.int .u8 V)).drew (some ⟨g, 0, none⟩) ((bL n s).set I V)) := hrx
      have HRB : Hid (Rd .u8 (w10.setCell ⟨g, I, none⟩ (.int .u8 V)).drew x6 (bL n s)) := hrb
      have HUX : Hid (U8 ((bL n s).set I V)) := by
        intro m hm
        rcases List.mem_or_eq_of_mem_set hm with h | h
        · exact HBU.out m h
        · rw [h]; exact ⟨hV0, hV1⟩
      have hcne : ¬ crcTo ((bL n s).set I V) (bL n s).length ^^^ 4294967295 = crcTo (bL n s) (bL n s).length ^^^ 4294967295 := fun h => crc_turn HBU.out I V hI ⟨hV0, hV1⟩ (by rw [HDD.out]; exact hVd) _ hI (xor_cancel h)
      clear ho11 hrx hrb hce hfz HO10 HCA10 HXB hVd hub0 hub1 HAT emod HII HDD hb010 hb09
      generalize (w10.setCell ⟨g, I, none⟩ (.int .u8 V)).drew = W at *
      go_wp2_with fail
      have hcx := implCrc (some ⟨g, 0, none⟩) c10 ((bL n s).set I V) W (by simp; omega) HUX.out HRX.out
      rw [List.length_set] at hcx
      refine hcx.mono ?_
      rintro e y ⟨rfl, hy⟩
      subst y
      clear hcx
      go_wp2_with fail
      refine (implCrc x6 c6 (bL n s) W (by omega) HBU.out HRB.out).mono ?_
      rintro e y ⟨rfl, hy⟩
      subst y
      have HCB : Hid (∀ Y : Nat, Y = crcTo (bL n s) (bL n s).length ^^^ 4294967295 → Calls Tryd.prog 17 #[.slice x6 (bL n s).length c6] W fun e w' => e = .returned (.int .i64 (Y : Int)) ∧ w' = W) := by
        rintro Y rfl
        exact implCrc x6 c6 (bL n s) W (by omega) HBU.out HRB.out
      generalize crcTo ((bL n s).set I V) (bL n s).length ^^^ 4294967295 = X at *
      generalize crcTo (bL n s) (bL n s).length ^^^ 4294967295 = Y at *
      have hne : ((X : Int) == (Y : Int)) = false := by simp; omega
      have hne2 : ((X : Int) != (Y : Int)) = true := by simp; omega
      have hne3 : ¬ (X : Int) = (Y : Int) := by omega
      have hne4 : (!((X : Int) == (Y : Int))) = true := by rw [hne]; rfl
      go_wp2_with fail
      refine (HCB.out Y rfl).mono ?_
      rintro e y ⟨rfl, hy⟩
      subst y
      go_wp2
      go_ret
      exact ⟨rfl, hb011⟩

set_option maxRecDepth 100000 in
theorem lifted (os : Os) (started : os.Started) (H : Type) (enc : TypeId × Value → H) :
    ReturnsInHanded {} Tryd.checked os 3 .any (fun w args => (Rows.fnNumbersSpec.pre enc Tryd.prog Tryd.f3 Rows.fnNumbersRow.domain false w args ∧ laidMetH Tryd.prog Rows.fnNumbersRow.laid w) ∧ sizedMet enc Tryd.prog Tryd.f3 (OpenSpec.ofChange Rows.fnNumbersSpec) false w args) (Rows.fnNumbersSpec.post enc Tryd.prog Tryd.f3 false true false false) := by
  refine returnsInHanded_of_change_and (C := Tryd.checked) (X := fun w _ => laidMetH Tryd.prog Rows.fnNumbersRow.laid w) (fun _ _ _ hh h => h.of_heap hh) own started (by kernel_rfl) Tryd.func3
    (ChangeSpec.witness_shaped (enc := enc) (C := Tryd.checked) (os := os) (X := fun w _ => laidMetH Tryd.prog Rows.fnNumbersRow.laid w) false (World.doorLaid Tryd.prog 81 os) #[.slice none 0 0] 8 rfl (World.shaped_of_RefB (by kernel_rfl) (by kernel_rfl)) (by kernel_rfl) (by kernel_rfl) (by kernel_rfl) (door_met os _)) ?_
  intro W base args ds gs before hval0 hW _ _ hL _
  have hval : ∀ (j : Nat) t v, Tryd.f3.params[j]? = some t → args[j]? = some v → Value.okWide Tryd.prog W .any base t v := hval0
  have hW' := hW
  obtain ⟨p, q, hA0, hV, rfl, hfz, hnd⟩ := hW
  have hA : DataW.TrodAll enc Tryd.prog W 0 (fun _ => true) true Tryd.f3.params.toList args.toList ds p := hA0
  rw [Tryd.params3] at hA hval
  obtain ⟨v0, vs0, d0, ds0, p0, q0, hargs, rfl, rfl, h0, r0⟩ := trodAll_cons hA
  obtain ⟨rfl, rfl, rfl⟩ := trodAll_nil r0
  obtain rfl : args = #[v0] := by cases args; simp_all
  have hV1 : DataW.TrodVars enc Tryd.prog W (fun _ => true) ["loop.example/g00483/impl.errNoNum"] gs q := hV
  obtain ⟨xv, hv0⟩ := errVar (Rows.fnNumbersRow.laid) rfl hL
  obtain ⟨rfl, rfl⟩ := hV1.unique (vars_read1 enc gErr tErr Tryd.underlying59 hv0 trivial _)
  obtain ⟨a0, len0, cap0, rfl⟩ := okWide_slice Tryd.underlying22 (hval 0 22 v0 rfl rfl)
  have k0 := h0
  have lt0 : ∀ x ∈ p0, x.block < W.heap.size := by obtain ⟨m, hm⟩ := k0; exact DataW.trod_lt m _ _ _ hm
  obtain ⟨z0, w0⟩ : ∃ zs, IsRow .u8 W a0 len0 cap0 zs := by
    obtain ⟨fuel, hf⟩ := h0
    rcases open_ints Tryd.underlying22 Tryd.underlying5 (by kernel_rfl) hf with ⟨hcs, _⟩ | ⟨x, l, c, zs, hcs, _, hl, hm, hz, _, hcell, hwz⟩
    · simp [Value.cells] at hcs
      obtain ⟨rfl, rfl, rfl⟩ := hcs
      exact ⟨[], .inl ⟨rfl, rfl, rfl, rfl⟩⟩
    · simp [Value.cells] at hcs
      obtain ⟨rfl, rfl, rfl⟩ := hcs
      exact ⟨zs, .inr ⟨_, rfl, hl, hm, by simpa using hz, hcell, hwz⟩⟩
  clear hA0 hval0
  refine (walk a0 len0 cap0 z0 W w0 hL).mono fun e W' ⟨he, bel⟩ => ?_
  subst he
  exact ⟨_, rfl, _, _, _, [], _, [.cell errG 0], hW', trodAll_mk1 (shut_bool Tryd.underlying4 _), (trodAll_cons_mk (Below.trod laidOut (by kernel_rfl) (of_decide_eq_true (by kernel_rfl)) k0 bel lt0) trodAll_mk0), vars_read1 enc gErr tErr Tryd.underlying59 (Joins.var_stays gErr hv0 bel (Nat.le_refl _)) trivial _, bel.frame _, fun h => by cases h⟩

theorem over : Rows.fnNumbersRow.holds Tryd.pinned (OpenSpec.ofChange Rows.fnNumbersSpec) :=
  OpenClaim.holds_of_wide 3 Tryd.f3 rfl rfl rfl rfl rfl rfl rfl ⟨rfl, rfl, rfl, rfl, rfl⟩ rfl rfl rfl rfl rfl (by kernel_rfl) Tryd.func3 (by kernel_rfl)
    (of_decide_eq_true (by kernel_rfl)) (by unfold Func.isWrapper; first | (rw [if_pos (by decide +kernel)]; kernel_rfl) | (rw [if_neg (by decide +kernel)]; exact ⟨rfl, rfl⟩))
    (fun os started H enc _ => lifted os started H enc)

theorem plain (f : FuncId) (fn : Func) (hf : Tryd.pinned.checked.prog.funcNamed "loop.example/g00483/laws.FnNumbers" = some f) (hfn : Tryd.pinned.checked.prog.funcs[f]? = some fn) :
    true = Tryd.pinned.checked.prog.looks [] ∧ ∀ (j : Nat) t, fn.params[j]? = some t → Tryd.pinned.checked.prog.wantsStandIn t = false := by
  obtain rfl : f = 3 := Option.some.inj ((show Tryd.prog.funcNamed "loop.example/g00483/laws.FnNumbers" = some 3 by kernel_rfl).symm.trans hf) |>.symm
  obtain rfl : fn = Tryd.f3 := (Option.some.inj (Tryd.func3.symm.trans hfn)).symm
  refine ⟨by kernel_rfl, fun j t ht => ?_⟩
  rw [Tryd.params3] at ht
  have hm : t ∈ [22] := by simpa using Array.mem_of_getElem? ht
  have hall : ([22].all fun u => !Tryd.prog.wantsStandIn u) = true := by kernel_rfl
  exact (show Tryd.prog.wantsStandIn t = false by simpa using List.all_eq_true.1 hall t hm)

theorem card : Rows.FnNumbersCardSaid :=
  Claim7.holds_tied_plain_at .later [] _ _ _ _ over (fun _ h => by cases h) (by kernel_rfl) (fun _ h => by cases h) fnNumbers_row_tie rfl ⟨rfl, rfl⟩ (by kernel_rfl) rfl plain (by kernel_rfl)
#print axioms card
end Go.Proofs.YtgibihacbhjlnaaDoor.fnNumbers
