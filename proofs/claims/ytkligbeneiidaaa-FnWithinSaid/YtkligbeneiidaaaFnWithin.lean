/-
  For every slice of bytes the law FnWithin returns true (what it draws is within itself and all above it; of two that are within each other there is one), and what came in reads behind the call as it read before: no condition.
-/
import Derived.Test.YtkligbeneiidaaaPLawW
import Derived.Test.YtkligbeneiidaaaRows
import Derived.WalkKit
import Derived.ProofKit
import Derived.OpenShut
import Derived.ShutString
import Derived.ChangeOld
import Derived.Below
namespace Go.Proofs.Ytkligbeneiidaaa.fnWithin
open Go.ChangeShapes Go.WideShapes Go.ChangeAt Go.RowKit
open Go.ChangeMaps (open_string shut_string)
set_option linter.unusedVariables false

theorem own : ownKnob Try.prog.godebug = none := by kernel_rfl
theorem laidOut : laidOutB Try.prog = true := by kernel_rfl

/-- What is known of a slice that came in. -/
def IsRow (k : IntKind) (w : World) (a : Option Addr) (len cap : Nat) (zs : List Int) : Prop :=
  (a = none ∧ len = 0 ∧ cap = 0 ∧ zs = []) ∨
  ∃ x, a = some x ∧ len ≤ cap ∧ cap ≤ maxLen ∧ zs.length = cap ∧ (∀ i, i < zs.length → w.cell? (x.add i) = some (.int k (zs.getD i 0))) ∧ ∀ n ∈ zs, (Lit.int k n).wf = true

set_option maxRecDepth 20000 in
set_option maxHeartbeats 1000000 in
theorem walk (a0 : Option Addr) (len0 cap0 : Nat) (z0 : List Int) (w : World) (w0 : IsRow .u8 w a0 len0 cap0 z0) :
    Calls Try.prog 4 #[.slice a0 len0 cap0] w fun e w' => e = .returned (.bool true) ∧ Below w.heap.size w w' := by
  obtain ⟨l, rfl, hu, hr⟩ := rd_of_row w0
  by_cases hbig : 1048576 < l.length
  · have hbg : decide ((1048576 : Int) < (l.length : Int)) = true := by simp; omega
    go_enter Try.func4, Try.ntmps4
    go_wp2_with (go_at_call 14; refine (bigW _ _ _ _).mono ?_; rintro e w1 ⟨rfl, hw1⟩; subst w1; rw [hbg])
    go_ret
    exact ⟨rfl, Below.refl _ _⟩
  have hbg : decide ((1048576 : Int) < (l.length : Int)) = false := by simp; omega
  have HR : Hid (Rd .u8 w a0 l) := hr
  have HU : Hid (U8 l) := hu
  clear hr hu w0
  go_enter Try.func4, Try.ntmps4
  go_wp2_with fail
  refine (bigW _ _ _ _).mono ?_
  rintro e w1 ⟨rfl, hw1⟩
  subst w1
  rw [hbg]
  go_wp2_with fail
  refine (drawWithin _ _ l _ (by omega) HU.out HR.out).mono ?_
  rintro e w1 ⟨s, t, rfl, hs, ht, hb1⟩
  go_wp2_with fail
  refine (implWithin s t _ (by omega) (by omega)).mono ?_
  rintro e w2 ⟨rfl, hb2⟩
  have hb02 : Below w.heap.size w w2 := hb1.trans (hb2.mono hb1.size)
  have HNO : Hid (¬ (ptOk (bt s) = true ∧ ptOk (bt t) = true) → wthn (bt s) (bt t) = false) := wthn_not
  have HSW : Hid (∀ q W, wthn (bt s) (bt t) = q → Calls Try.prog 26 #[.string s, .string t] W fun e w' => e = .returned (.bool q) ∧ Below W.heap.size W w') := by
    rintro q W rfl; exact specWithin s t W (by omega) (by omega)
  have HLE : Hid (wthn (bt s) (bt t) = true → (t.size : Int) ≤ (s.size : Int)) := fun h => by
    have := wthn_le h
    rw [bt_len, bt_len] at this
    omega
  have HAN : Hid (wthn (bt s) (bt t) = true → wthn (bt t) (bt s) = true → (s.toList == t.toList) = true) := fun h h' => str_same (wthn_anti h h')
  clear hb1 hb2 HR HU
  cases hx : wthn (bt s) (bt t)
  all_goals
    go_wp2_with fail
    refine (HSW.out _ _ hx).mono ?_
    rintro e w3 ⟨rfl, hb3⟩
    have hb03 : Below w.heap.size w w3 := hb02.trans (hb3.mono hb02.size)
    clear HSW
    go_wp2_with fail
    refine (specPath s _ (by omega)).mono ?_
    rintro e w4 ⟨rfl, hb4⟩
    have hb04 : Below w.heap.size w w4 := hb03.trans (hb4.mono hb03.size)
    clear hb02 hb03 hb3 hb4
    cases hp : ptOk (bt s)
    · first
        | (have := HNO.out (by simp [hp]); rw [hx] at this; cases this; done)
        | (go_wp2
           go_ret
           exact ⟨rfl, hb04⟩)
    go_wp2_with fail
    refine (specPath t _ (by omega)).mono ?_
    rintro e w5 ⟨rfl, hb5⟩
    have hb05 : Below w.heap.size w w5 := hb04.trans (hb5.mono hb04.size)
    clear hb04 hb5
    cases hq : ptOk (bt t)
    · first
        | (have := HNO.out (by simp [hq]); rw [hx] at this; cases this; done)
        | (go_wp2
           go_ret
           exact ⟨rfl, hb05⟩)
    have h1 := wthn_self hp
    have h2 : wthn (bt s) (bt ⟨#[47]⟩) = true := wthn_root hp
    have h3 : wthn (bt s) (bt (tx (abv (bt s)))) = true := by rw [bt_tx]; exact wthn_abv hp
    have h3s : (tx (abv (bt s))).size ≤ 28 := by rw [tx_size]; exact abv_len hp
    go_wp2_with fail
    refine (implWithin s s _ (by omega) (by omega)).mono ?_
    rintro e w6 ⟨rfl, hb6⟩
    have hb06 : Below w.heap.size w w6 := hb05.trans (hb6.mono hb05.size)
    clear hb05 hb6
    rw [h1]
    go_wp2_with fail
    refine (implWithin s ⟨#[47]⟩ _ (by omega) (by decide)).mono ?_
    rintro e w7 ⟨rfl, hb7⟩
    have hb07 : Below w.heap.size w w7 := hb06.trans (hb7.mono hb06.size)
    clear hb06 hb7
    rw [h2]
    go_wp2_with fail
    refine (implAbove s _ (by omega)).mono ?_
    rintro e w8 ⟨rfl, hb8⟩
    have hb08 : Below w.heap.size w w8 := hb07.trans (hb8.mono hb07.size)
    clear hb07 hb8
    go_wp2_with fail
    refine (implWithin s _ _ (by omega) (by omega)).mono ?_
    rintro e w9 ⟨rfl, hb9⟩
    have hb09 : Below w.heap.size w w9 := hb08.trans (hb9.mono hb08.size)
    clear hb08 hb9
    rw [h3]
    clear h1 h2 h3 h3s
  · go_wp2
    go_ret
    exact ⟨rfl, hb09⟩
  · have hle := HLE.out hx
    go_wp2_with fail
    refine (implWithin t s _ (by omega) (by omega)).mono ?_
    rintro e w10 ⟨rfl, hb10⟩
    have hb010 : Below w.heap.size w w10 := hb09.trans (hb10.mono hb09.size)
    cases hy : wthn (bt t) (bt s) with
    | false =>
      go_wp2
      go_ret
      exact ⟨by simp, hb010⟩
    | true =>
      have hst := HAN.out hx hy
      go_wp2
      go_ret
      exact ⟨by simp, hb010⟩

set_option maxRecDepth 100000 in
theorem lifted (os : Os) (started : os.Started) (H : Type) (enc : TypeId × Value → H) :
    ReturnsInHanded {} Try.checked os 4 .any (Rows.fnWithinSpec.pre6 enc Try.prog Try.f4 Rows.fnWithinRow.domain false) (Rows.fnWithinSpec.post enc Try.prog Try.f4 false true false false) := by
  refine returnsInHanded_of_change (C := Try.checked) own started (by kernel_rfl) Try.func4
    (ChangeSpec.witness6 (enc := enc) (C := Try.checked) false ⟨#[], #[.slice none 0 0], []⟩ 8 (by kernel_rfl) (by kernel_rfl) (by kernel_rfl) (by kernel_rfl)) ?_
  intro W base args ds gs before hval0 hW hcnd _
  have hval : ∀ (j : Nat) t v, Try.f4.params[j]? = some t → args[j]? = some v → Value.okWide Try.prog W .any base t v := hval0
  have hW' := hW
  obtain ⟨p, q, hA0, hV, rfl, hfz, hnd⟩ := hW
  have hA : DataW.TrodAll enc Try.prog W 0 (fun _ => true) true Try.f4.params.toList args.toList ds p := hA0
  rw [Try.params4] at hA hval
  obtain ⟨v0, vs0, d0, ds0, p0, q0, hargs, rfl, rfl, h0, r0⟩ := trodAll_cons hA
  obtain ⟨rfl, rfl, rfl⟩ := trodAll_nil r0
  obtain rfl : args = #[v0] := by cases args; simp_all
  obtain ⟨rfl, rfl⟩ := trodVars_none hV
  obtain ⟨a0, len0, cap0, rfl⟩ := okWide_slice Try.underlying22 (hval 0 22 v0 rfl rfl)
  have k0 := h0
  have lt0 : ∀ x ∈ p0, x.block < W.heap.size := by obtain ⟨m, hm⟩ := k0; exact DataW.trod_lt m _ _ _ hm
  obtain ⟨z0, w0⟩ : ∃ zs, IsRow .u8 W a0 len0 cap0 zs := by
    obtain ⟨fuel, hf⟩ := h0
    rcases open_ints Try.underlying22 Try.underlying5 (by kernel_rfl) hf with ⟨hcs, _⟩ | ⟨x, l, c, zs, hcs, _, hl, hm, hz, _, hcell, hwz⟩
    · simp [Value.cells] at hcs
      obtain ⟨rfl, rfl, rfl⟩ := hcs
      exact ⟨[], .inl ⟨rfl, rfl, rfl, rfl⟩⟩
    · simp [Value.cells] at hcs
      obtain ⟨rfl, rfl, rfl⟩ := hcs
      exact ⟨zs, .inr ⟨_, rfl, hl, hm, by simpa using hz, hcell, hwz⟩⟩
  clear hA0 hval0
  refine (walk a0 len0 cap0 z0 W w0).mono fun e W' ⟨he, bel⟩ => ?_
  subst he
  exact ⟨_, rfl, _, _, _, [], _, [], hW', trodAll_mk1 (shut_bool Try.underlying4 _), (trodAll_cons_mk (Below.trod laidOut (by kernel_rfl) (of_decide_eq_true (by kernel_rfl)) k0 bel lt0) trodAll_mk0), rfl, bel.frame _, fun h => by cases h⟩

theorem over : Rows.fnWithinRow.holds Try.pinned (OpenSpec.ofChange Rows.fnWithinSpec) :=
  OpenClaim.holds_of_wide 4 Try.f4 rfl rfl rfl rfl rfl rfl rfl ⟨rfl, rfl, rfl, rfl, rfl⟩ rfl rfl rfl rfl rfl (by kernel_rfl) Try.func4 (by kernel_rfl)
    (of_decide_eq_true (by kernel_rfl)) (by unfold Func.isWrapper; first | (rw [if_pos (by decide +kernel)]; kernel_rfl) | (rw [if_neg (by decide +kernel)]; exact ⟨rfl, rfl⟩))
    (fun os started H enc _ => lifted os started H enc)

theorem proved : Rows.FnWithinSaid := over
#print axioms proved
end Go.Proofs.Ytkligbeneiidaaa.fnWithin
