/-
  Own text: which node a text tells, as the program reads it.
-/
import Derived.Test.YtaabcfgjmankgaaDoorNodeB
import Derived.Test.YtaabcfgjmankgaaDoorBunW
import Derived.Test.YtaabcfgjmankgaaDoorINodeTW
import Derived.Test.YtaabcfgjmankgaaDoorSNodeOfW
import Derived.Test.YtaabcfgjmankgaaDoorBunT
namespace Go.Proofs.YtaabcfgjmankgaaDoor
open Go.RowKit

/-- The number at whatever place, or the program's panic. -/
theorem numAtAny (x : Option Addr) (cap : Nat) (l : List Int) (p : Nat) (a : Addr) (w : World) (hx : Came w x cap l) (he : ErrAt a w) :
    Calls Tryd.prog 54 #[.slice x l.length cap, .int .i64 p] w fun e w' => ((∃ n next, Good l p n next ∧ e = .returned (.tuple #[.int .i64 (n : Nat), .int .i64 (next : Nat)])) ∨ ((∀ n next, ¬ Good l p n next) ∧ e = thePanic a)) ∧ Below w.heap.size w w' := by
  by_cases hp : p < l.length
  · obtain ⟨b, off, rfl, hb, hc⟩ : ∃ b off, x = some ⟨b, off, none⟩ ∧ b < w.heap.size ∧ ∀ i, i < l.length → w.cell? ⟨b, off + i, none⟩ = some (.int .u8 (l.getD i 0)) := by
      rcases hx.hrd with h | h
      · subst h; simp at hp
      · exact h
    exact atIn b off cap l p a w hx.hsmall hx.hu8 hx.hcap hx.hmax hp hb hc he.lt he.cell
  · refine (atOut x cap l.length (p : Int) a w (.inr (by omega)) he.cell).mono ?_
    rintro e w' ⟨rfl, rfl⟩
    refine ⟨.inr ⟨?_, rfl⟩, Below.refl _ _⟩
    rintro n next ⟨p', k, hp', ⟨_, h2, _, _⟩, _⟩
    omega
/-- What nodeAt tells: the node that the numbers tell, or it panics. -/
def NAns (w : World) (b : List Int) (a : Addr) (e : Ending) (w' : World) : Prop :=
  ((∃ v n, e = .returned v ∧ OwnN w' w.heap.size v n ∧ ReadP b n ∧ n.b.length ≤ 5) ∨ ((∀ n, ¬ ReadP b n) ∧ e = thePanic a)) ∧ Below w.heap.size w w'

set_option maxRecDepth 20000 in
set_option maxHeartbeats 4000000 in
theorem implNodeAt (x : Option Addr) (cap : Nat) (b : List Int) (a : Addr) (w : World) (hx : Came w x cap b) (he : ErrAt a w) :
    Calls Tryd.prog 57 #[.slice x b.length cap] w (NAns w b a) := by
  obtain ⟨i1, ii, iz0, iz1, iz2⟩ := info_parts Tryd.infoInt
  have HGN : Hid (∀ W (p : Nat), Below w.heap.size w W → Calls Tryd.prog 54 #[.slice x b.length cap, .int .i64 p] W fun e w' => ((∃ n next, Good b p n next ∧ e = .returned (.tuple #[.int .i64 (n : Nat), .int .i64 (next : Nat)])) ∨ ((∀ n next, ¬ Good b p n next) ∧ e = thePanic a)) ∧ Below W.heap.size W w') :=
    fun W p h => numAtAny x cap b p a W (hx.below h) (he.below h)
  have HBL : Hid (∀ (s : Int) W, Calls Tryd.prog 60 #[.int .i64 s] W fun e w' => e = .returned (.int .i64 (blksFor s)) ∧ w' = W) := fun s W => implBlocks s W
  have hbl5 := hx.hsmall
  have HN0 : Hid (NInv w w.heap.size (w.heap.size + 1) (w.heap.size + 1 + 1) #[.int .i64 0, .int .i64 0, .int .i64 0, .int .i64 0, .slice none 0 0] ((w.alloc (.cells zeroC 36)).alloc (.cells zeroC 36)) (.slice none 0 0) []) := by
    refine ⟨by omega, by omega, by omega, Nat.le_refl _, by omega, below2 _ _ _, (Var.made w _ _).alloc _, Var.made2 w _ _ _, World.ownsRow_nil _ _ _ _, by simp⟩
  clear hx he
  go_enter Tryd.func57, Tryd.ntmps57
  go_wp2_with fail
  refine (HGN.out _ 0 HN0.out.bel).mono ?_
  rintro e w1 ⟨⟨k, at1, hg, rfl⟩ | ⟨hno, rfl⟩, hb1⟩
  rotate_left
  · have HP : Hid (∀ n, ¬ ReadP b n) := lack0 hno
    have hbz := (HN0.out.below hb1).bel
    clear hno HN0 hb1
    unfold thePanic
    go_wp2
    exact ⟨rfl, .inr ⟨HP.out, rfl⟩, hbz⟩
  have HG : Hid (Good b ((0 : Nat) : Int) k at1) := hg
  have HN1 : Hid (NInv w w.heap.size (w.heap.size + 1) (w.heap.size + 1 + 1) #[.int .i64 0, .int .i64 0, .int .i64 0, .int .i64 0, .slice none 0 0] w1 (.slice none 0 0) []) := HN0.out.below hb1
  obtain ⟨hat, hk31, _, _⟩ := hg.leN
  clear hg hb1 HN0
  have n0 := HN1.out.node.cell 0
  have f0 := HN1.out.node.frozen 0
  simp at n0
  go_upto_region 4 with fail
  have HN2 : Hid (NInv w w.heap.size (w.heap.size + 1) (w.heap.size + 1 + 1) #[.int .i64 (k : Int), .int .i64 0, .int .i64 0, .int .i64 0, .slice none 0 0] (w1.setCell ⟨w.heap.size + 1, 0, none⟩ (.int .i64 (k : Int))) (.slice none 0 0) []) := HN1.out.set 0 (.int .i64 (k : Int))
  clear HN1 n0 f0
  generalize w1.setCell ⟨w.heap.size + 1, 0, none⟩ (.int .i64 (k : Int)) = W2 at *
  have n0 := HN2.out.node.cell 0
  simp at n0
  by_cases hk0 : k = 0
  · subst hk0
    have HZ0 : Hid (ReadP b zeroN) := ⟨at1, HG.out, Int.le_refl _, fun _ => rfl, fun h => absurd rfl h⟩
    have n1 := HN2.out.node.cell 1
    have n2 := HN2.out.node.cell 2
    have n3 := HN2.out.node.cell 3
    have n4 := HN2.out.node.cell 4
    simp at n1 n2 n3 n4
    obtain ⟨hR9, r0, r1, r2, r3, r4, q0, q1, q2, q3, q4⟩ := HN2.out.res.five (.int .i64 0) (.int .i64 0) (.int .i64 0) (.int .i64 0) (.slice none 0 0)
    have HZ : Hid _ := HN2.out.zero
    clear hR9 HG HGN HBL
    go_wp2
    refine bodyPost_ret (results_cell_row rfl _ _ w.heap.size 36 zeroC (0, 0) _ rfl HZ.out.1 Tryd.underlying36 rfl Tryd.sizeNode) rfl ?_
    exact ⟨.inl ⟨_, zeroN, rfl, HZ.out.2.1, HZ0.out, by simp [zeroN]⟩, HZ.out.2.2⟩
  have b1 : (((k : Nat) : Int) == 0) = false := by rw [beq_eq_false_iff_ne]; omega
  have HK : Hid (k ≠ 0) := hk0
  clear hk0
  go_wp2_with fail
  refine (HGN.out _ at1 HN2.out.bel).mono ?_
  rintro e w3 ⟨⟨g0, at2, hg, rfl⟩ | ⟨hno, rfl⟩, hb1⟩
  rotate_left
  · have HP : Hid (∀ n, ¬ ReadP b n) := lackN HK.out HG.out (xs := []) rfl (.inl (by simp)) hno
    have hbz := (HN2.out.below hb1).bel
    clear hno HN2 hb1
    unfold thePanic
    go_wp2
    exact ⟨rfl, .inr ⟨HP.out, rfl⟩, hbz⟩
  have HA0 : Hid (AtsFrom b at1 [(g0 : Int)] at2) := ⟨_, _, hg, rfl, rfl⟩
  have HM : Hid (NInv w w.heap.size (w.heap.size + 1) (w.heap.size + 1 + 1) #[.int .i64 (k : Int), .int .i64 0, .int .i64 0, .int .i64 0, .slice none 0 0] w3 (.slice none 0 0) []) := HN2.out.below hb1
  obtain ⟨hat0, h310, _, _⟩ := hg.leN
  clear hg hb1 HN2 n0
  have n1 := HM.out.node.cell 1
  have f1 := HM.out.node.frozen 1
  simp at n1
  go_upto_region 7 with fail
  have HN3 : Hid (NInv w w.heap.size (w.heap.size + 1) (w.heap.size + 1 + 1) #[.int .i64 (k : Int), .int .i64 (g0 : Int), .int .i64 0, .int .i64 0, .slice none 0 0] (w3.setCell ⟨w.heap.size + 1, 1, none⟩ (.int .i64 (g0 : Int))) (.slice none 0 0) []) := HM.out.set 1 (.int .i64 (g0 : Int))
  clear HM n1 f1
  generalize w3.setCell ⟨w.heap.size + 1, 1, none⟩ (.int .i64 (g0 : Int)) = W3 at *
  go_wp2_with fail
  refine (HGN.out _ at2 HN3.out.bel).mono ?_
  rintro e w4 ⟨⟨t0, at3, hg, rfl⟩ | ⟨hno, rfl⟩, hb1⟩
  rotate_left
  · have HP : Hid (∀ n, ¬ ReadP b n) := lackN HK.out HG.out (xs := [(g0 : Int)]) HA0.out (.inl (by simp)) hno
    have hbz := (HN3.out.below hb1).bel
    clear hno HN3 hb1
    unfold thePanic
    go_wp2
    exact ⟨rfl, .inr ⟨HP.out, rfl⟩, hbz⟩
  have HA1 : Hid (AtsFrom b at1 [(g0 : Int), (t0 : Int)] at3) := HA0.out.snoc hg
  have HM : Hid (NInv w w.heap.size (w.heap.size + 1) (w.heap.size + 1 + 1) #[.int .i64 (k : Int), .int .i64 (g0 : Int), .int .i64 0, .int .i64 0, .slice none 0 0] w4 (.slice none 0 0) []) := HN3.out.below hb1
  obtain ⟨hat1, h311, _, _⟩ := hg.leN
  clear hg hb1 HN3 
  have n1 := HM.out.node.cell 2
  have f1 := HM.out.node.frozen 2
  simp at n1
  go_upto_region 8 with fail
  have HN4 : Hid (NInv w w.heap.size (w.heap.size + 1) (w.heap.size + 1 + 1) #[.int .i64 (k : Int), .int .i64 (g0 : Int), .int .i64 (t0 : Int), .int .i64 0, .slice none 0 0] (w4.setCell ⟨w.heap.size + 1, 2, none⟩ (.int .i64 (t0 : Int))) (.slice none 0 0) []) := HM.out.set 2 (.int .i64 (t0 : Int))
  clear HM n1 f1
  generalize w4.setCell ⟨w.heap.size + 1, 2, none⟩ (.int .i64 (t0 : Int)) = W4 at *
  go_wp2_with fail
  refine (HGN.out _ at3 HN4.out.bel).mono ?_
  rintro e w5 ⟨⟨s0, at4, hg, rfl⟩ | ⟨hno, rfl⟩, hb1⟩
  rotate_left
  · have HP : Hid (∀ n, ¬ ReadP b n) := lackN HK.out HG.out (xs := [(g0 : Int), (t0 : Int)]) HA1.out (.inl (by simp)) hno
    have hbz := (HN4.out.below hb1).bel
    clear hno HN4 hb1
    unfold thePanic
    go_wp2
    exact ⟨rfl, .inr ⟨HP.out, rfl⟩, hbz⟩
  have HA2 : Hid (AtsFrom b at1 [(g0 : Int), (t0 : Int), (s0 : Int)] at4) := HA1.out.snoc hg
  have HM : Hid (NInv w w.heap.size (w.heap.size + 1) (w.heap.size + 1 + 1) #[.int .i64 (k : Int), .int .i64 (g0 : Int), .int .i64 (t0 : Int), .int .i64 0, .slice none 0 0] w5 (.slice none 0 0) []) := HN4.out.below hb1
  obtain ⟨hat2, h312, _, _⟩ := hg.leN
  clear hg hb1 HN4 
  have n1 := HM.out.node.cell 3
  have f1 := HM.out.node.frozen 3
  simp at n1
  go_upto_region 9 with fail
  have HN5 : Hid (NInv w w.heap.size (w.heap.size + 1) (w.heap.size + 1 + 1) #[.int .i64 (k : Int), .int .i64 (g0 : Int), .int .i64 (t0 : Int), .int .i64 (s0 : Int), .slice none 0 0] (w5.setCell ⟨w.heap.size + 1, 3, none⟩ (.int .i64 (s0 : Int))) (.slice none 0 0) []) := HM.out.set 3 (.int .i64 (s0 : Int))
  clear HM n1 f1
  generalize w5.setCell ⟨w.heap.size + 1, 3, none⟩ (.int .i64 (s0 : Int)) = W5 at *
  have n3 := HN5.out.node.cell 3
  simp at n3
  obtain ⟨M, hM⟩ : ∃ M : Nat, blksFor (s0 : Int) = (M : Int) := ⟨(blksFor (s0 : Int)).toNat, by have := blks_le (s0 : Int); omega⟩
  have hM5 : M ≤ 5 := by have := blks_le (s0 : Int); omega
  have HMM : Hid (blksFor (s0 : Int) = (M : Int)) := hM
  have HBM : Hid (Calls Tryd.prog 60 #[.int .i64 (s0 : Int)] W5 fun e w' => e = .returned (.int .i64 (M : Int)) ∧ w' = W5) := by
    rw [← hM]
    exact HBL.out _ _
  clear hM HBL
  go_wp2_with fail
  refine HBM.out.mono ?_
  rintro e w6 ⟨rfl, hw6⟩
  subst w6
  clear n3 HBM
  go_wp2
  go_loopw [4, 5, 41] (fun pv _ i wr => ∃ (p j : Nat) (ys : List Int) (v : Value), pv = .int .i64 (p : Int) ∧ i = .int .i64 (j : Int) ∧ ys.length = j ∧ j ≤ M ∧ Hid (AtsFrom b at1 ((g0 : Int) :: (t0 : Int) :: (s0 : Int) :: ys) p) ∧ Hid (NInv w w.heap.size (w.heap.size + 1) (w.heap.size + 1 + 1) #[.int .i64 (k : Int), .int .i64 (g0 : Int), .int .i64 (t0 : Int), .int .i64 (s0 : Int), v] wr v ys)) (fun _ _ i _ => M - (intOf i).toNat)
  case atStart => exact ⟨at4, 0, [], _, rfl, rfl, rfl, Nat.zero_le _, HA2, HN5⟩
  case round =>
    obtain ⟨p, j, ys, v, rfl, rfl, hyl, hj, HA, HN⟩ := hrel
    have HYL : Hid (ys.length = j) := hyl
    clear HN5 HA0 HA1 HA2
    obtain ⟨av, cv, hv, _, _⟩ := own_rd HN.out.own
    rw [hyl] at hv
    subst hv
    by_cases hlt : j < M
    · have hlt2 : (j : Int) < (M : Int) := by omega
      clear hyl
      go_wp2_with fail
      refine (HGN.out _ p HN.out.bel).mono ?_
      rintro e w7 ⟨⟨y, nx, hg, rfl⟩ | ⟨hno, rfl⟩, hb1⟩
      rotate_left
      · have HP : Hid (∀ n, ¬ ReadP b n) := lackN HK.out HG.out HA.out (.inr ⟨_, _, _, ys, rfl, by have h1 := HMM.out; have h2 := HYL.out; omega⟩) hno
        have hbz := (HN.out.below hb1).bel
        clear hno HN hb1
        unfold thePanic
        go_wp2
        exact ⟨rfl, .inr ⟨HP.out, rfl⟩, hbz⟩
      have HA7 : Hid (AtsFrom b at1 ((g0 : Int) :: (t0 : Int) :: (s0 : Int) :: (ys ++ [(y : Int)])) nx) := HA.out.snoc hg
      have HN7 : Hid (NInv w w.heap.size (w.heap.size + 1) (w.heap.size + 1 + 1) #[.int .i64 (k : Int), .int .i64 (g0 : Int), .int .i64 (t0 : Int), .int .i64 (s0 : Int), .slice av j cv] w7 (.slice av j cv) ys) := HN.out.below hb1
      obtain ⟨_, h31y, _, _⟩ := hg.leN
      clear hg hb1 HN HA
      have n4 := HN7.out.node.cell 4
      simp at n4
      have HNA : Hid (NInv w w.heap.size (w.heap.size + 1) (w.heap.size + 1 + 1) #[.int .i64 (k : Int), .int .i64 (g0 : Int), .int .i64 (t0 : Int), .int .i64 (s0 : Int), .slice av j cv] (w7.alloc (.cells #[.int .i64 (y : Int)] 3)) (.slice av j cv) ys) := HN7.out.below (below1 w7 _)
      have ho1 := HNA.out.own
      rw [HYL.out] at ho1
      have HS1 : Hid (Src Tryd.prog 1 34 (.slice (some ⟨w7.heap.size, 0, none⟩) 1 1) 1 [.int .i64 (y : Int)] (w7.alloc (.cells #[.int .i64 (y : Int)] 3))) := src_oneI Tryd.underlying34 w7 (.int .i64 (y : Int)) rfl
      have hsz := HNA.out.siz
      go_wp2_with (at_builtin; refine wpList_append_own_src _ rfl (.tmp 50) (.tmp 52) 34 34 rfl (w.heap.size + 1 + 1) 3 i1 (.int .i64 0) 1 8 Tryd.underlying34 ii iz0 iz1 iz2 rfl _ _ _ rfl ho1 _ 1 [.int .i64 (y : Int)] rfl HS1.out (by unfold maxLen; omega) (by omega) hsz ?_)
      intro v8 w8 ho8 hg8
      have HN8 : Hid (NInv w w.heap.size (w.heap.size + 1) (w.heap.size + 1 + 1) #[.int .i64 (k : Int), .int .i64 (g0 : Int), .int .i64 (t0 : Int), .int .i64 (s0 : Int), .slice av j cv] w8 v8 (ys ++ [(y : Int)])) := by
        refine HNA.out.grown hg8 ?_
        rw [List.length_append, List.map_append, HYL.out]
        exact ho8
      obtain ⟨a8, c8, hv8, _, _⟩ := own_rd HN8.out.own
      have HL8 : Hid ((ys ++ [(y : Int)]).length = j + 1) := by show _ = _; rw [List.length_append, HYL.out]; rfl
      rw [HL8.out] at hv8
      subst hv8
      clear ho8 hg8 ho1 HS1 hsz HNA HN7 n4
      have n4 := HN8.out.node.cell 4
      have f4 := HN8.out.node.frozen 4
      simp at n4
      have HN9 : Hid (NInv w w.heap.size (w.heap.size + 1) (w.heap.size + 1 + 1) #[.int .i64 (k : Int), .int .i64 (g0 : Int), .int .i64 (t0 : Int), .int .i64 (s0 : Int), .slice a8 (j + 1) c8] (w8.setCell ⟨w.heap.size + 1, 4, none⟩ (.slice a8 (j + 1) c8)) (.slice a8 (j + 1) c8) (ys ++ [(y : Int)])) := HN8.out.set 4 (.slice a8 (j + 1) c8)
      clear HN8
      go_wp2
      go_roundw
      case rel => exact ⟨nx, j + 1, _, _, rfl, by go_num, HL8.out, by omega, HA7, HN9⟩
      case measure => simp [intOf]; omega
    · obtain rfl : j = M := by omega
      have hlt2 : ¬ (j : Int) < (j : Int) := by omega
      have HRD : Hid (ReadP b ⟨(k : Int), (g0 : Int), (t0 : Int), (s0 : Int), ys⟩) := by
        refine ⟨at1, by simpa using HG.out, by simp, fun h => ?_, fun _ => ⟨by rw [HMM.out]; have h1 := HYL.out; show ((ys.length : Nat) : Int) = (j : Int); omega, _, HA.out⟩⟩
        simp at h
        exact absurd h HK.out
      have n0 := HN.out.node.cell 0
      have n1 := HN.out.node.cell 1
      have n2 := HN.out.node.cell 2
      have n3 := HN.out.node.cell 3
      have n4 := HN.out.node.cell 4
      simp at n0 n1 n2 n3 n4
      obtain ⟨hR9, r0, r1, r2, r3, r4, q0, q1, q2, q3, q4⟩ := HN.out.res.five (.int .i64 (k : Int)) (.int .i64 (g0 : Int)) (.int .i64 (t0 : Int)) (.int .i64 (s0 : Int)) (.slice av j cv)
      have HR9 : Hid _ := hR9
      have HB9 : Hid _ := below_five HN.out.bel (Nat.le_refl _) (.int .i64 (k : Int)) (.int .i64 (g0 : Int)) (.int .i64 (t0 : Int)) (.int .i64 (s0 : Int)) (.slice av j cv)
      have HO9 : Hid (OwnN (five wr w.heap.size (.int .i64 (k : Int)) (.int .i64 (g0 : Int)) (.int .i64 (t0 : Int)) (.int .i64 (s0 : Int)) (.slice av j cv)) w.heap.size (.agg #[.int .i64 (k : Int), .int .i64 (g0 : Int), .int .i64 (t0 : Int), .int .i64 (s0 : Int), .slice av j cv]) ⟨(k : Int), (g0 : Int), (t0 : Int), (s0 : Int), ys⟩) :=
        ⟨_, rfl, ownsRow_base (own_five HN.out.own (by omega) _ _ _ _ _) (by omega)⟩
      have HL5 : Hid (ys.length ≤ 5) := by rw [hyl]; exact hM5
      clear hR9 hyl HN HA HG HGN
      go_wp2
      refine bodyPost_ret (results_cell_row rfl _ _ w.heap.size 36 #[.int .i64 (k : Int), .int .i64 (g0 : Int), .int .i64 (t0 : Int), .int .i64 (s0 : Int), .slice av j cv] (0, 0) _ rfl HR9.out Tryd.underlying36 rfl Tryd.sizeNode) rfl ?_
      exact ⟨.inl ⟨_, _, rfl, HO9.out, HRD.out, HL5.out⟩, HB9.out⟩

theorem catchNode (u : TypeId) (pv : Value) (older : List PanicEntry) (w : World) :
    CallsD Tryd.prog 56 #[] (.panicking ({ v := .iface u pv, recovered := false } :: older)) w fun e u' w' =>
      e = .returned (.tuple #[]) ∧ u' = .panicking ({ v := .iface u pv, recovered := true } :: older) ∧ w' = w := by
  refine callsD_of_wpS Tryd.func56 rfl fun c₀ cs hu => ?_
  apply wpS_region
  simp [wpOpsS, go_sem, recoverD, hu, Tryd.ntmps56, bodyPostS, results, Tryd.results56]
theorem idleNode (w : World) :
    CallsD Tryd.prog 56 #[] .returning w fun e u' w' => e = .returned (.tuple #[]) ∧ u' = .returning ∧ w' = w := by
  refine callsD_of_wpS Tryd.func56 rfl fun c₀ cs hu => ?_
  apply wpS_region
  simp [wpOpsS, go_sem, recoverD, hu, Tryd.ntmps56]
  cases c₀
  simp_all [bodyPostS, results, Tryd.results56]

set_option maxRecDepth 20000 in
set_option maxHeartbeats 4000000 in
theorem implNodeOf (s : ByteArray) (a : Addr) (w : World) (hs : s.size ≤ 1048576) (he : ErrAt a w) :
    Calls Tryd.prog 37 #[.string s] w fun e w' => ∃ v, e = .returned (.tuple #[v, .bool (ofOk s)]) ∧ OwnN w' w.heap.size v (ofN s) ∧ Below w.heap.size w w' := by
  obtain ⟨cap, W, hcv, hrd, hbW, hlW, hc1, hc2⟩ := bytes_rowN s (w.alloc (.cells zeroC 36)) hs
  rw [show (w.alloc (.cells zeroC 36)).heap.size = w.heap.size + 1 by simp] at hcv hrd hbW hlW
  have hbl := bytesOf_len s
  have hbw : Below w.heap.size w W := (below1 w _).trans (hbW.mono (by omega))
  have HNA : Hid (Calls Tryd.prog 57 #[.slice (some ⟨w.heap.size + 1, 0, none⟩) (bytesOf s).length cap] W (NAns W (bytesOf s) a)) := implNodeAt _ cap _ a W ⟨by omega, bytesOf_u8 s, hc1, hc2, hrd⟩ (he.below hbw)
  have hR0 : Var W w.heap.size zeroC 36 := (Var.made w _ _).below hbW (by omega)
  have HNO : Hid ((∀ n, ¬ ReadP (bytesOf s) n) → ofN s = zeroN ∧ ofOk s = false) := fun h => of_no (no_read h)
  have HYE : Hid (∀ n, ReadP (bytesOf s) n → (ndText n = s → ofN s = n ∧ ofOk s = true) ∧ (ndText n ≠ s → ofN s = zeroN ∧ ofOk s = false)) := fun _ h => read_of h
  clear hbl hc1 hc2 hrd hbW
  generalize bytesOf s = b at *
  go_enter_defers Tryd.func37, Tryd.ntmps37
  go_wp2_with fail
  refine HNA.out.mono ?_
  clear HNA hcv
  rintro e w1 ⟨⟨v, n, rfl, ho, hrd, hn5⟩ | ⟨hno, rfl⟩, hb1⟩
  rotate_left
  · have HE : Hid (ofN s = zeroN ∧ ofOk s = false) := HNO.out hno
    have hR1 := hR0.new hb1
    have hb2 : Below w.heap.size w w1 := hbw.trans (hb1.mono hbw.size)
    clear hno HNO HYE hb1 hR0 hbw
    unfold thePanic
    go_wp2
    refine leaves_cons (f := 56) (args := #[]) (by simp) (by simp [go_sem]) ?_
    refine (catchNode _ _ [] _).mono ?_
    rintro e u' w'' ⟨rfl, rfl, rfl⟩
    simp [Leaves, settle, go_sem]
    exact ⟨_, res_row1 rfl _ _ w.heap.size 36 zeroC _ rfl hR1 Tryd.underlying36 rfl Tryd.sizeNode, _, by rw [HE.out.2]; rfl, by rw [HE.out.1]; exact ⟨_, rfl, World.ownsRow_nil _ _ _ _⟩, hb2⟩
  obtain ⟨av, cv, rfl⟩ := ho.lay
  have HYN := HYE.out n hrd
  have HYN2 : Hid ((ndText n = s → ofN s = n ∧ ofOk s = true) ∧ (ndText n ≠ s → ofN s = zeroN ∧ ofOk s = false)) := HYN
  have hbA : Below w1.heap.size w1 (w1.alloc (.cells #[.int .i64 n.k, .int .i64 n.g, .int .i64 n.t, .int .i64 n.s, .slice av n.b.length cv] 36)) := below1 _ _
  have hNT := implNodeText _ n (w1.alloc (.cells #[.int .i64 n.k, .int .i64 n.g, .int .i64 n.t, .int .i64 n.s, .slice av n.b.length cv] 36)) (by omega) (ho.below hbA).rd
  have HNT : Hid (Calls Tryd.prog 46 #[.agg #[.int .i64 n.k, .int .i64 n.g, .int .i64 n.t, .int .i64 n.s, .slice av n.b.length cv]] (w1.alloc (.cells #[.int .i64 n.k, .int .i64 n.g, .int .i64 n.t, .int .i64 n.s, .slice av n.b.length cv] 36)) fun e w' => e = .returned (.string (ndText n)) ∧ Below (w1.alloc (.cells #[.int .i64 n.k, .int .i64 n.g, .int .i64 n.t, .int .i64 n.s, .slice av n.b.length cv] 36)).heap.size (w1.alloc (.cells #[.int .i64 n.k, .int .i64 n.g, .int .i64 n.t, .int .i64 n.s, .slice av n.b.length cv] 36)) w') := hNT
  have HOA : Hid (OwnN (w1.alloc (.cells #[.int .i64 n.k, .int .i64 n.g, .int .i64 n.t, .int .i64 n.s, .slice av n.b.length cv] 36)) W.heap.size (.agg #[.int .i64 n.k, .int .i64 n.g, .int .i64 n.t, .int .i64 n.s, .slice av n.b.length cv]) n) := ho.below hbA
  have HVA : Hid (Var (w1.alloc (.cells #[.int .i64 n.k, .int .i64 n.g, .int .i64 n.t, .int .i64 n.s, .slice av n.b.length cv] 36)) w1.heap.size #[.int .i64 n.k, .int .i64 n.g, .int .i64 n.t, .int .i64 n.s, .slice av n.b.length cv] 36) := Var.made _ _ _
  have HRA : Hid (Var (w1.alloc (.cells #[.int .i64 n.k, .int .i64 n.g, .int .i64 n.t, .int .i64 n.s, .slice av n.b.length cv] 36)) w.heap.size zeroC 36) := (hR0.new hb1).alloc _
  have HBA : Hid (Below w.heap.size w (w1.alloc (.cells #[.int .i64 n.k, .int .i64 n.g, .int .i64 n.t, .int .i64 n.s, .slice av n.b.length cv] 36))) := (hbw.trans (hb1.mono hbw.size)).alloc (Nat.le_trans hbw.size hb1.size) _
  have hlW2 : w.heap.size < W.heap.size := by omega
  have m0 := HVA.out.cell 0
  have m1 := HVA.out.cell 1
  have m2 := HVA.out.cell 2
  have m3 := HVA.out.cell 3
  have m4 := HVA.out.cell 4
  simp at m0 m1 m2 m3 m4
  clear HYN hNT hbA ho hrd HNO HYE hb1 hR0 hbw he
  go_wp2_with fail
  refine HNT.out.mono ?_
  rintro e w2 ⟨rfl, hb2⟩
  have HV2 : Hid (Var w2 w1.heap.size #[.int .i64 n.k, .int .i64 n.g, .int .i64 n.t, .int .i64 n.s, .slice av n.b.length cv] 36) := HVA.out.new hb2
  have HO2 : Hid (OwnN w2 W.heap.size (.agg #[.int .i64 n.k, .int .i64 n.g, .int .i64 n.t, .int .i64 n.s, .slice av n.b.length cv]) n) := HOA.out.below hb2
  have HR2 : Hid (Var w2 w.heap.size zeroC 36) := HRA.out.new hb2
  have HB2 : Hid (Below w.heap.size w w2) := HBA.out.trans (hb2.mono HBA.out.size)
  clear m0 m1 m2 m3 m4 HNT HOA HVA HRA HBA hb2
  by_cases hq : ndText n = s
  · have HE : Hid (ofN s = n ∧ ofOk s = true) := HYN2.out.1 hq
    have m0 := HV2.out.cell 0
    have m1 := HV2.out.cell 1
    have m2 := HV2.out.cell 2
    have m3 := HV2.out.cell 3
    have m4 := HV2.out.cell 4
    simp at m0 m1 m2 m3 m4
    obtain ⟨hR9, r0, r1, r2, r3, r4, q0, q1, q2, q3, q4⟩ := HR2.out.five (.int .i64 n.k) (.int .i64 n.g) (.int .i64 n.t) (.int .i64 n.s) (.slice av n.b.length cv)
    have HR9 : Hid _ := hR9
    have HB9 : Hid _ := below_five HB2.out (Nat.le_refl _) (.int .i64 n.k) (.int .i64 n.g) (.int .i64 n.t) (.int .i64 n.s) (.slice av n.b.length cv)
    have HO9 : Hid (OwnN (five w2 w.heap.size (.int .i64 n.k) (.int .i64 n.g) (.int .i64 n.t) (.int .i64 n.s) (.slice av n.b.length cv)) w.heap.size (.agg #[.int .i64 n.k, .int .i64 n.g, .int .i64 n.t, .int .i64 n.s, .slice av n.b.length cv]) n) := by
      obtain ⟨u, hu, ho⟩ := HO2.out
      exact ⟨u, hu, ownsRow_base (own_five ho hlW2 _ _ _ _ _) (by omega)⟩
    have hqq : ((ndText n).toList == s.toList) = true := by rw [hq]; simp
    clear hR9 HYN2 hq
    generalize ndText n = T at *
    go_wp2
    refine leaves_cons (f := 56) (args := #[]) (by simp) (by simp [go_sem]) ?_
    refine (idleNode _).mono ?_
    rintro e u' w'' ⟨rfl, rfl, hw⟩
    subst w''
    simp [Leaves, settle, go_sem]
    exact ⟨_, res_row1 rfl _ _ w.heap.size 36 #[.int .i64 n.k, .int .i64 n.g, .int .i64 n.t, .int .i64 n.s, .slice av n.b.length cv] _ rfl HR9.out Tryd.underlying36 rfl Tryd.sizeNode, _, by rw [HE.out.2]; rfl, by rw [HE.out.1]; exact HO9.out, HB9.out⟩
  · have HE : Hid (ofN s = zeroN ∧ ofOk s = false) := HYN2.out.2 hq
    have hqq := str_ne hq
    obtain ⟨hR9, r0, r1, r2, r3, r4, q0, q1, q2, q3, q4⟩ := HR2.out.five (.int .i64 0) (.int .i64 0) (.int .i64 0) (.int .i64 0) (.slice none 0 0)
    have HR9 : Hid _ := hR9
    have HB9 : Hid _ := below_five HB2.out (Nat.le_refl _) (.int .i64 0) (.int .i64 0) (.int .i64 0) (.int .i64 0) (.slice none 0 0)
    clear hR9 HYN2 hq
    generalize ndText n = T at *
    go_wp2
    refine leaves_cons (f := 56) (args := #[]) (by simp) (by simp [go_sem]) ?_
    refine (idleNode _).mono ?_
    rintro e u' w'' ⟨rfl, rfl, hw⟩
    subst w''
    simp [Leaves, settle, go_sem]
    exact ⟨_, res_row1 rfl _ _ w.heap.size 36 zeroC _ rfl HR9.out Tryd.underlying36 rfl Tryd.sizeNode, _, by rw [HE.out.2]; rfl, by rw [HE.out.1]; exact ⟨_, rfl, World.ownsRow_nil _ _ _ _⟩, HB9.out⟩
end Go.Proofs.YtaabcfgjmankgaaDoor
