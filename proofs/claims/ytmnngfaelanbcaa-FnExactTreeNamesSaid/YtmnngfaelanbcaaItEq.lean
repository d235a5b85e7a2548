/-
  Own text: two items held against each other.
-/
import Derived.Test.YtmnngfaelanbcaaItF
import Derived.Laws.StructEq
import Derived.Shelf.SlicesE.Kit
namespace Go.Proofs.Ytmnngfaelanbcaa
open Go.RowKit

theorem str_iff (a b : ByteArray) : a.toList = b.toList ↔ a = b :=
  ⟨fun e => by rw [ByteArray.toList_eq, ByteArray.toList_eq] at e; exact Go.WideShapes.bytes_inj e, fun e => by rw [e]⟩
theorem str_beq (a b : ByteArray) : (a.toList == b.toList) = decide (a = b) := by
  by_cases h : a = b
  · subst h; simp
  · rw [decide_eq_false h, beq_eq_false_iff_ne]
    exact fun e => h ((str_iff a b).1 e)
theorem itEqB (x y : ItD) : decide (x = y) = (decide (x.p = y.p) && decide (x.k = y.k) && decide (x.d = y.d) && decide (x.t = y.t)) := by
  obtain ⟨a, b, c, d⟩ := x
  obtain ⟨e, f, g, h⟩ := y
  simp only [ItD.mk.injEq]
  by_cases h1 : a = e <;> by_cases h2 : b = f <;> by_cases h3 : c = g <;> by_cases h4 : d = h <;> simp [h1, h2, h3, h4]

set_option maxRecDepth 20000 in
theorem itEq (x y : ItD) (w : World) : (Op.equalIn 10000 34 (aggI x) (aggI y)).run Try.prog w = .ok (decide (x = y)) w := by
  have u3 := Try.underlying3
  have a3 := Try.isAgg3
  have z3 := Try.sizeOf3
  have u9 := Try.underlying9
  have a9 := Try.isAgg9
  have z9 := Try.sizeOf9
  have hS : Try.prog.underlying 34 = some (.struct (Try.prog.fieldsOf 34)) := by kernel_rfl
  have hp : Try.prog.stoodInHeld 34 = false := by kernel_rfl
  unfold aggI
  rw [show (10000 : Nat) = 9999 + 1 from rfl, run_equalIn_agg w 9999 34 _ _ hS hp]
  simp only [Program.fieldsOf, Try.underlying34]
  go_simp
  rw [itEqB]
  by_cases h1 : x.p = y.p <;> by_cases h2 : x.k = y.k <;> by_cases h3 : x.d = y.d <;> by_cases h4 : x.t = y.t <;> simp [h1, h2, h3, h4, str_iff]
theorem itNeq (x y : ItD) (w : World) : (binOp .neq 34 (aggI x) (aggI y)).run Try.prog w = .ok (.bool (!decide (x = y))) w := by
  unfold aggI
  rw [run_neq_struct]
  have := itEq x y w
  unfold aggI at this
  rw [this]
  rfl
theorem itGuard (op : BinOp) (a b : Operand) (x y : ItD) (w : World) : (eqGuard op 34 a b (aggI x) (aggI y)).run Try.prog w = .ok () w := by
  unfold aggI
  exact run_eqGuard_agg w op _ a b _ _ (by kernel_rfl)
theorem below_drewN {B : Nat} {w wr : World} (h : Below B w wr) (q : Nat) : Below B w (wr.drewN q) := h.trans ⟨rfl, rfl, rfl, Nat.le_refl _, fun _ _ => rfl⟩

/-- Two rows of items are the same. -/
def trSame (l m : List ItD) : Bool := decide (l = m)

theorem trSame_len {l m : List ItD} (h : l.length ≠ m.length) : trSame l m = false := by
  unfold trSame
  exact decide_eq_false (fun e => h (by rw [e]))
theorem trSame_at {l m : List ItD} {k : Nat} (hk : k < l.length) (hm : k < m.length) (h : l[k] ≠ m[k]) : trSame l m = false := by
  unfold trSame
  refine decide_eq_false (fun e => h ?_)
  subst e
  rfl
theorem trSame_all {l m : List ItD} (hl : l.length = m.length) (h : l.take l.length = m.take l.length) : trSame l m = true := by
  unfold trSame
  rw [List.take_length, hl, List.take_length] at h
  exact decide_eq_true h
theorem take_step {l m : List ItD} {k : Nat} (hk : k < l.length) (hm : k < m.length) (h : l.take k = m.take k) (he : l[k] = m[k]) : l.take (k + 1) = m.take (k + 1) := by
  rw [List.take_succ_eq_append_getElem hk, List.take_succ_eq_append_getElem hm, h, he]

set_option maxRecDepth 20000 in
set_option maxHeartbeats 1000000 in
theorem eqItSl (a b : Option Addr) (ca cb : Nat) (l m : List ItD) (w : World) (hm : m.length ≤ maxLen) (hr : RdF encI 4 w a l) (hs : RdF encI 4 w b m) :
    Calls Try.prog 30 #[.slice a l.length ca, .slice b m.length cb] w fun e w' => e = .returned (.bool (trSame l m)) ∧ Below w.heap.size w w' := by
  have HCS : Hid (∀ k (hk : k < l.length), ∃ b off, a = some ⟨b, off, none⟩ ∧ b < w.heap.size ∧ ItAt w b (off + k * 4) l[k]) := fun k hk => RdIt.at hr k hk
  have HDS : Hid (∀ k (hk : k < m.length), ∃ o off, b = some ⟨o, off, none⟩ ∧ o < w.heap.size ∧ ItAt w o (off + k * 4) m[k]) := fun k hk => RdIt.at hs k hk
  have hml : m.length ≤ 9223372036854775807 := by unfold maxLen at hm; omega
  clear hr hs hm
  by_cases hne : l.length = m.length
  · go_enter Try.func30, Try.ntmps30
    go_wp2
    go_loopw [13] (fun i wr => ∃ k : Nat, k ≤ m.length ∧ i = .int .i64 k ∧ Below w.heap.size w wr ∧ Hid (l.take k = m.take k)) (fun i _ => m.length - (intOf i).toNat)
    case atStart => exact ⟨0, Nat.zero_le _, rfl, Below.refl _ _, by show _ = _; simp⟩
    case round =>
      obtain ⟨k, hk, rfl, hb, HT⟩ := hrel
      by_cases hlt : k < m.length
      · obtain ⟨o, off, rfl, hblt, hcell⟩ := HCS.out k (by omega)
        obtain ⟨d, off2, rfl, hdlt, hcell2⟩ := HDS.out k hlt
        obtain ⟨c0, c1, c2, c3⟩ := hcell.below hb hblt
        obtain ⟨d0, d1, d2, d3⟩ := hcell2.below hb hdlt
        clear hcell hcell2
        have HL : Hid (k < l.length ∧ k < m.length) := ⟨by omega, hlt⟩
        have j0 : (0 : Int) ≤ (k : Int) := by omega
        have j1 : (k : Int) < (m.length : Int) := by omega
        generalize hx : l[k]'(by omega) = x at *
        generalize hy : m[k] = y at *
        have hq : ∀ w : World, (binOp .neq 34 (.agg #[.string x.p, .int .i64 x.k, .string x.d, .int .i64 x.t]) (.agg #[.string y.p, .int .i64 y.k, .string y.d, .int .i64 y.t])).run Try.prog w = .ok (.bool (!decide (x = y))) w := fun w => itNeq x y w
        have hg : ∀ (a b : Operand) (w : World), (eqGuard .neq 34 a b (.agg #[.string x.p, .int .i64 x.k, .string x.d, .int .i64 x.t]) (.agg #[.string y.p, .int .i64 y.k, .string y.d, .int .i64 y.t])).run Try.prog w = .ok () w := fun a b w => itGuard .neq a b x y w
        generalize x.p = xp at *
        generalize x.k = xk at *
        generalize x.d = xd at *
        generalize x.t = xt at *
        generalize y.p = yp at *
        generalize y.k = yk at *
        generalize y.d = yd at *
        generalize y.t = yt at *
        by_cases hxy : x = y
        · have HN : Hid (l.take (k + 1) = m.take (k + 1)) := take_step HL.out.1 HL.out.2 HT.out (by rw [hx, hy]; exact hxy)
          simp only [hxy, decide_true, Bool.not_true] at hq
          clear hx hy hxy
          go_wp2
          go_quiet (fail)
          all_goals
            go_wp2
            go_roundw
            case rel => exact ⟨k + 1, by omega, by go_num, below_drewN hb _, HN⟩
            case measure => simp [intOf]; omega
        · have HN : Hid (trSame l m = false) := trSame_at HL.out.1 HL.out.2 (by rw [hx, hy]; exact hxy)
          simp only [hxy, decide_false, Bool.not_false] at hq
          clear hx hy hxy
          go_wp2
          go_quiet (fail)
          all_goals
            go_wp2
            go_ret
            exact ⟨by rw [HN.out]; rfl, below_drewN hb _⟩
      · obtain rfl : k = m.length := by omega
        have HN : Hid (trSame l m = true) := trSame_all hne (by rw [hne]; exact HT.out)
        go_wp2
        go_ret
        exact ⟨by rw [HN.out]; rfl, hb⟩
  · have HE : Hid (trSame l m = false) := trSame_len hne
    have hbn : (((l.length : Nat) : Int) != ((m.length : Nat) : Int)) = true := by simp; omega
    go_enter Try.func30, Try.ntmps30
    go_wp2
    go_ret
    exact ⟨by rw [HE.out]; rfl, Below.refl _ _⟩
end Go.Proofs.Ytmnngfaelanbcaa
