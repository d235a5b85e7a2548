/-
  Own text: two trees held against each other, both programs.
-/
import Derived.Test.YtmnngfaelanbcaaItEq
namespace Go.Proofs.Ytmnngfaelanbcaa
open Go.RowKit

set_option maxRecDepth 20000 in
set_option maxHeartbeats 1000000 in
theorem specTreeSame (v u : Value) (l m : List ItD) (w : World) (hl : l.length ≤ 1048576) (_ : m.length ≤ 1048576) (hr : RdTr w v l) (hs : RdTr w u m) :
    Calls Try.prog 21 #[v, u] w fun e w' => e = .returned (.bool (trSame l m)) ∧ Below w.heap.size w w' := by
  obtain ⟨a, ca, rfl, _, hr⟩ := hr
  obtain ⟨b, cb, rfl, _, hs⟩ := hs
  have HCS : Hid (∀ k (hk : k < l.length), ∃ b off, a = some ⟨b, off, none⟩ ∧ b < w.heap.size ∧ ItAt w b (off + k * 4) l[k]) := fun k hk => RdIt.at hr k hk
  have HDS : Hid (∀ k (hk : k < m.length), ∃ o off, b = some ⟨o, off, none⟩ ∧ o < w.heap.size ∧ ItAt w o (off + k * 4) m[k]) := fun k hk => RdIt.at hs k hk
  have HV : Hid (∀ W, Below ((w.alloc (.cells #[.slice a l.length ca] 29)).alloc (.cells #[.slice b m.length cb] 29)).heap.size ((w.alloc (.cells #[.slice a l.length ca] 29)).alloc (.cells #[.slice b m.length cb] 29)) W → W.cell? ⟨w.heap.size, 0, none⟩ = some (.slice a l.length ca) ∧ W.cell? ⟨w.heap.size + 1, 0, none⟩ = some (.slice b m.length cb)) := fun W h => ⟨(((Var.made w _ _).alloc _).new h).cell 0, ((Var.made2 w _ _ _).new h).cell 0⟩
  clear hr hs
  by_cases hne : l.length = m.length
  · go_enter Try.func21, Try.ntmps21
    go_wp2
    have hb0 : Below w.heap.size w ((w.alloc (.cells #[.slice a m.length ca] 29)).alloc (.cells #[.slice b m.length cb] 29)) := below2 _ _ _
    go_loopw [5] (fun i wr => ∃ k : Nat, k ≤ m.length ∧ i = .int .i64 k ∧ Below w.heap.size w wr ∧ wr.cell? ⟨w.heap.size, 0, none⟩ = some (.slice a m.length ca) ∧ wr.cell? ⟨w.heap.size + 1, 0, none⟩ = some (.slice b m.length cb) ∧ Hid (l.take k = m.take k)) (fun i _ => m.length - (intOf i).toNat)
    case atStart => exact ⟨0, Nat.zero_le _, rfl, hb0, by have := (HV.out _ (Below.refl _ _)).1; rw [hne] at this; exact this, by have := (HV.out _ (Below.refl _ _)).2; rw [hne] at this; exact this, by show _ = _; simp⟩
    case round =>
      obtain ⟨k, hk, rfl, hb, hv0, hv1, HT⟩ := hrel
      by_cases hlt : k < m.length
      · obtain ⟨o, off, rfl, hblt, hcell⟩ := HCS.out k (by omega)
        obtain ⟨d, off2, rfl, hdlt, hcell2⟩ := HDS.out k hlt
        obtain ⟨c0, c1, c2, c3⟩ := hcell.below hb hblt
        obtain ⟨d0, d1, d2, d3⟩ := hcell2.below hb hdlt
        clear hcell hcell2
        have HL : Hid (k < l.length ∧ k < m.length) := ⟨by omega, hlt⟩
        generalize hx : l[k]'(by omega) = x at *
        generalize hy : m[k] = y at *
        have hq : ∀ w : World, (binOp .neq 34 (.agg #[.string x.p, .int .i64 x.k, .string x.d, .int .i64 x.t]) (.agg #[.string y.p, .int .i64 y.k, .string y.d, .int .i64 y.t])).run Try.prog w = .ok (.bool (!decide (x = y))) w := fun w => itNeq x y w
        have hg : ∀ (a b : Operand) (w : World), (eqGuard .neq 34 a b (.agg #[.string x.p, .int .i64 x.k, .string x.d, .int .i64 x.t]) (.agg #[.string y.p, .int .i64 y.k, .string y.d, .int .i64 y.t])).run Try.prog w = .ok () w := fun a b w => itGuard .neq a b x y w
        generalize x.p = xp at *
        generalize x.k = xk at *
        generalize x.d = xd at *
        generalize x.t = xt at *
        generalize y.p = yp at *
        generalize y.k = yk at *
        generalize y.d = yd at *
        generalize y.t = yt at *
        by_cases hxy : x = y
        · have HN : Hid (l.take (k + 1) = m.take (k + 1)) := take_step HL.out.1 HL.out.2 HT.out (by rw [hx, hy]; exact hxy)
          simp only [hxy, decide_true, Bool.not_true] at hq
          clear hx hy hxy
          go_wp2
          go_quiet (fail)
          all_goals
            go_wp2
            go_roundw
            case rel => exact ⟨k + 1, by omega, by go_num, below_drewN hb _, hv0, hv1, HN⟩
            case measure => simp [intOf]; omega
        · have HN : Hid (trSame l m = false) := trSame_at HL.out.1 HL.out.2 (by rw [hx, hy]; exact hxy)
          simp only [hxy, decide_false, Bool.not_false] at hq
          clear hx hy hxy
          go_wp2
          go_quiet (fail)
          all_goals
            go_wp2
            go_ret
            exact ⟨by rw [HN.out]; rfl, below_drewN hb _⟩
      · obtain rfl : k = m.length := by omega
        have HN : Hid (trSame l m = true) := trSame_all hne (by rw [hne]; exact HT.out)
        go_wp2
        go_ret
        exact ⟨by rw [HN.out]; rfl, hb⟩
  · have HE : Hid (trSame l m = false) := trSame_len hne
    have hbn : (((l.length : Nat) : Int) != ((m.length : Nat) : Int)) = true := by simp; omega
    go_enter Try.func21, Try.ntmps21
    go_wp2
    go_ret
    exact ⟨by rw [HE.out]; rfl, below2 _ _ _⟩
set_option maxRecDepth 20000 in
theorem implTreeSame (v u : Value) (l m : List ItD) (w : World) (_ : l.length ≤ 1048576) (hm : m.length ≤ 1048576) (hr : RdTr w v l) (hs : RdTr w u m) :
    Calls Try.prog 22 #[v, u] w fun e w' => e = .returned (.bool (trSame l m)) ∧ Below w.heap.size w w' := by
  obtain ⟨a, ca, rfl, _, hr⟩ := hr
  obtain ⟨b, cb, rfl, _, hs⟩ := hs
  have HR : Hid (∀ W, Below w.heap.size w W → RdF encI 4 W a l) := fun W h => hr.below h (Nat.le_refl _)
  have HS : Hid (∀ W, Below w.heap.size w W → RdF encI 4 W b m) := fun W h => hs.below h (Nat.le_refl _)
  clear hr hs
  go_enter Try.func22, Try.ntmps22
  go_wp2_with fail
  refine (eqItSl _ _ _ _ l m _ (by unfold maxLen; omega) (HR.out _ (below2 _ _ _)) (HS.out _ (below2 _ _ _))).mono ?_
  rintro e w1 ⟨rfl, hb⟩
  have hb2 : Below w.heap.size w w1 := (below2 w _ _).trans (hb.mono (by simp; omega))
  go_wp2
  go_ret
  exact ⟨rfl, hb2⟩
end Go.Proofs.Ytmnngfaelanbcaa
