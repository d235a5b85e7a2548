/-
  For every slice of bytes the law FnNormal returns true (a normal path stays as it is; one of its names more and two dots come back to it), and what came in reads behind the call as it read before: no condition.
-/
import Derived.Test.YtkligbeneiidaaaPLawW
import Derived.Test.YtkligbeneiidaaaSNormW
import Derived.Test.YtkligbeneiidaaaRows
import Derived.WalkKit
import Derived.ProofKit
import Derived.OpenShut
import Derived.ShutString
import Derived.ChangeOld
import Derived.Below
namespace Go.Proofs.Ytkligbeneiidaaa.fnNormal
open Go.ChangeShapes Go.WideShapes Go.ChangeAt Go.RowKit
open Go.ChangeMaps (open_string shut_string)
set_option linter.unusedVariables false

theorem own : ownKnob Try.prog.godebug = none := by kernel_rfl
theorem laidOut : laidOutB Try.prog = true := by kernel_rfl

/-- What is known of a slice that came in. -/
def IsRow (k : IntKind) (w : World) (a : Option Addr) (len cap : Nat) (zs : List Int) : Prop :=
  (a = none ∧ len = 0 ∧ cap = 0 ∧ zs = []) ∨
  ∃ x, a = some x ∧ len ≤ cap ∧ cap ≤ maxLen ∧ zs.length = cap ∧ (∀ i, i < zs.length → w.cell? (x.add i) = some (.int k (zs.getD i 0))) ∧ ∀ n ∈ zs, (Lit.int k n).wf = true

set_option maxRecDepth 20000 in
set_option maxHeartbeats 1000000 in
theorem walk (a0 : Option Addr) (len0 cap0 : Nat) (z0 : List Int) (w : World) (w0 : IsRow .u8 w a0 len0 cap0 z0) :
    Calls Try.prog 3 #[.slice a0 len0 cap0] w fun e w' => e = .returned (.bool true) ∧ Below w.heap.size w w' := by
  obtain ⟨l, rfl, hu, hr⟩ := rd_of_row w0
  by_cases hbig : 1048576 < l.length
  · have hbg : decide ((1048576 : Int) < (l.length : Int)) = true := by simp; omega
    go_enter Try.func3, Try.ntmps3
    go_wp2_with (go_at_call 14; refine (bigW _ _ _ _).mono ?_; rintro e w1 ⟨rfl, hw1⟩; subst w1; rw [hbg])
    go_ret
    exact ⟨rfl, Below.refl _ _⟩
  have hbg : decide ((1048576 : Int) < (l.length : Int)) = false := by simp; omega
  have HR : Hid (Rd .u8 w a0 l) := hr
  have HU : Hid (U8 l) := hu
  clear hr hu w0
  go_enter Try.func3, Try.ntmps3
  go_wp2_with fail
  refine (bigW _ _ _ _).mono ?_
  rintro e w1 ⟨rfl, hw1⟩
  subst w1
  rw [hbg]
  go_wp2_with fail
  refine (drawNormal _ _ l _ (by omega) HU.out HR.out).mono ?_
  rintro e w1 ⟨s, rfl, hs, hb1⟩
  have HI : Hid (∀ z q W, tx (normL (bt s)) = z → nok (bt s) = q → Calls Try.prog 16 #[.string s] W fun e w' => e = .returned (.tuple #[.string z, .bool q]) ∧ Below W.heap.size W w') := by
    rintro z q W rfl rfl; exact implNormal s W (by omega)
  have HS : Hid (∀ z q W, tx (normL (bt s)) = z → nok (bt s) = q → Calls Try.prog 17 #[.string s] W fun e w' => e = .returned (.tuple #[.string z, .bool q]) ∧ Below W.heap.size W w') := by
    rintro z q W rfl rfl; exact specNormal s W (by omega)
  have HZB : Hid (∀ z, tx (normL (bt s)) = z → bt z = normL (bt s)) := by rintro z rfl; exact bt_tx _
  obtain ⟨z, HZ⟩ : ∃ z, Hid (tx (normL (bt s)) = z) := ⟨_, rfl⟩
  clear HR HU
  cases hn : nok (bt s) with
  | false =>
    have HN : Hid (nok (bt s) = false) := hn
    have hz0 : (z.toList == []) = true := lit_same (by rw [HZB.out z HZ.out]; simpa [nok] using hn)
    clear hn
    go_wp2_with fail
    refine (HI.out z false _ HZ.out HN.out).mono ?_
    rintro e w2 ⟨rfl, hb2⟩
    have hb02 : Below w.heap.size w w2 := hb1.trans (hb2.mono hb1.size)
    go_wp2_with fail
    refine (HS.out z false _ HZ.out HN.out).mono ?_
    rintro e w3 ⟨rfl, hb3⟩
    have hb03 : Below w.heap.size w w3 := hb02.trans (hb3.mono hb02.size)
    go_wp2
    go_ret
    exact ⟨rfl, hb03⟩
  | true =>
    have HN : Hid (nok (bt s) = true) := hn
    have hne : ¬ normL (bt s) = [] := by simpa [nok] using hn
    have HP : Hid (ptOk (bt z) = true) := by show _ = _; rw [HZB.out z HZ.out]; exact normL_path hne
    have hlen := pt_len HP.out
    rw [bt_len] at hlen
    have hz28 : z.size ≤ 28 := hlen.2.1
    have h40 : ¬ (40 : Int) < (z.size : Int) := by omega
    have hsame : (z.toList == z.toList) = true := str_same rfl
    have C1 : Hid (∀ W, Calls Try.prog 16 #[.string z] W fun e w' => e = .returned (.tuple #[.string z, .bool true]) ∧ Below W.heap.size W w') := by
      intro W
      have h := implNormal z W (by omega)
      have e1 := norm_same HP.out
      rw [nok_yes (by rw [e1]; intro e; have := hlen.1; rw [← bt_len, e] at this; simp at this), e1, tx_bt] at h
      exact h
    have C5 : Hid (∀ W, Calls Try.prog 16 #[.string (z ++ ⟨#[47, 113, 47, 46, 46]⟩)] W fun e w' => e = .returned (.tuple #[.string z, .bool true]) ∧ Below W.heap.size W w') := by
      intro W
      have h := implNormal (z ++ ⟨#[47, 113, 47, 46, 46]⟩) W (by rw [ByteArray.size_append']; show z.size + 5 ≤ _; omega)
      have e1 : normL (bt (z ++ ⟨#[47, 113, 47, 46, 46]⟩)) = bt z := by rw [bt_app]; exact norm_back HP.out
      rw [nok_yes (by rw [e1]; intro e; have := hlen.1; rw [← bt_len, e] at this; simp at this), e1, tx_bt] at h
      exact h
    have C4 : Hid (∀ a c W, RdS W a (nmT z) → Calls Try.prog 19 #[.slice a (nmT z).length c] W fun e w' => e = .returned (.string z) ∧ Below W.heap.size W w') := by
      intro a c W h
      have h2 := implPathOf a c (nmT z) W (by have := nmT_le z; omega) h
      rw [nmT_bt, ptOf_nms HP.out, tx_bt] at h2
      exact h2
    have C6 : Hid (¬ bt z = [47] → ∀ W, Calls Try.prog 21 #[.string (tx (abv (bt z))), .string (tx (lst (bt z)))] W fun e w' => e = .returned (.string z) ∧ Below W.heap.size W w') := by
      intro hr W
      have h2 := implJoin (tx (abv (bt z))) (tx (lst (bt z))) W (by rw [tx_size]; have := abv_len HP.out; omega)
      rw [bt_tx, bt_tx, jn_back HP.out hr, tx_bt] at h2
      exact h2
    clear hn hne hlen
    go_wp2_with fail
    refine (HI.out z true _ HZ.out HN.out).mono ?_
    rintro e w2 ⟨rfl, hb2⟩
    have hb02 : Below w.heap.size w w2 := hb1.trans (hb2.mono hb1.size)
    go_wp2_with fail
    refine (HS.out z true _ HZ.out HN.out).mono ?_
    rintro e w3 ⟨rfl, hb3⟩
    have hb03 : Below w.heap.size w w3 := hb02.trans (hb3.mono hb02.size)
    clear HI HS HZB HZ HN hb1 hb2 hb3 hb02
    go_wp2_with fail
    refine (C1.out _).mono ?_
    rintro e w4 ⟨rfl, hb4⟩
    have hb04 : Below w.heap.size w w4 := hb03.trans (hb4.mono hb03.size)
    clear hb03 hb4 C1
    go_wp2_with fail
    refine (implPath z _ (by omega)).mono ?_
    rintro e w5 ⟨rfl, hb5⟩
    have hb05 : Below w.heap.size w w5 := hb04.trans (hb5.mono hb04.size)
    clear hb04 hb5
    rw [HP.out]
    go_wp2_with fail
    refine (implNames z _ (by omega)).mono ?_
    rintro e w6 ⟨v6, rfl, ho6, hb6⟩
    have hb06 : Below w.heap.size w w6 := hb05.trans (hb6.mono hb05.size)
    obtain ⟨a6, c6, rfl, _, hr6⟩ := own_rdS ho6
    have HR6 : Hid (RdS w6 a6 (nmT z)) := hr6
    clear hb05 hb6 ho6 hr6
    go_wp2_with fail
    refine (C4.out _ _ _ HR6.out).mono ?_
    rintro e w7 ⟨rfl, hb7⟩
    have hb07 : Below w.heap.size w w7 := hb06.trans (hb7.mono hb06.size)
    clear hb06 hb7 HR6 C4
    go_wp2_with fail
    refine (C5.out _).mono ?_
    rintro e w8 ⟨rfl, hb8⟩
    have hb08 : Below w.heap.size w w8 := hb07.trans (hb8.mono hb07.size)
    clear hb07 hb8 C5
    by_cases hroot : bt z = [47]
    · have hzr := lit_same hroot
      go_wp2
      go_ret
      exact ⟨rfl, hb08⟩
    · have hzr := lit_other hroot
      go_wp2_with fail
      refine (implAbove z _ (by omega)).mono ?_
      rintro e w9 ⟨rfl, hb9⟩
      have hb09 : Below w.heap.size w w9 := hb08.trans (hb9.mono hb08.size)
      go_wp2_with fail
      refine (implLast z _ (by omega)).mono ?_
      rintro e w10 ⟨rfl, hb10⟩
      have hb010 : Below w.heap.size w w10 := hb09.trans (hb10.mono hb09.size)
      go_wp2_with fail
      refine (C6.out hroot _).mono ?_
      rintro e w11 ⟨rfl, hb11⟩
      have hb011 : Below w.heap.size w w11 := hb010.trans (hb11.mono hb010.size)
      go_wp2
      go_ret
      exact ⟨rfl, hb011⟩

set_option maxRecDepth 100000 in
theorem lifted (os : Os) (started : os.Started) (H : Type) (enc : TypeId × Value → H) :
    ReturnsInHanded {} Try.checked os 3 .any (Rows.fnNormalSpec.pre6 enc Try.prog Try.f3 Rows.fnNormalRow.domain false) (Rows.fnNormalSpec.post enc Try.prog Try.f3 false true false false) := by
  refine returnsInHanded_of_change (C := Try.checked) own started (by kernel_rfl) Try.func3
    (ChangeSpec.witness6 (enc := enc) (C := Try.checked) false ⟨#[], #[.slice none 0 0], []⟩ 8 (by kernel_rfl) (by kernel_rfl) (by kernel_rfl) (by kernel_rfl)) ?_
  intro W base args ds gs before hval0 hW hcnd _
  have hval : ∀ (j : Nat) t v, Try.f3.params[j]? = some t → args[j]? = some v → Value.okWide Try.prog W .any base t v := hval0
  have hW' := hW
  obtain ⟨p, q, hA0, hV, rfl, hfz, hnd⟩ := hW
  have hA : DataW.TrodAll enc Try.prog W 0 (fun _ => true) true Try.f3.params.toList args.toList ds p := hA0
  rw [Try.params3] at hA hval
  obtain ⟨v0, vs0, d0, ds0, p0, q0, hargs, rfl, rfl, h0, r0⟩ := trodAll_cons hA
  obtain ⟨rfl, rfl, rfl⟩ := trodAll_nil r0
  obtain rfl : args = #[v0] := by cases args; simp_all
  obtain ⟨rfl, rfl⟩ := trodVars_none hV
  obtain ⟨a0, len0, cap0, rfl⟩ := okWide_slice Try.underlying22 (hval 0 22 v0 rfl rfl)
  have k0 := h0
  have lt0 : ∀ x ∈ p0, x.block < W.heap.size := by obtain ⟨m, hm⟩ := k0; exact DataW.trod_lt m _ _ _ hm
  obtain ⟨z0, w0⟩ : ∃ zs, IsRow .u8 W a0 len0 cap0 zs := by
    obtain ⟨fuel, hf⟩ := h0
    rcases open_ints Try.underlying22 Try.underlying5 (by kernel_rfl) hf with ⟨hcs, _⟩ | ⟨x, l, c, zs, hcs, _, hl, hm, hz, _, hcell, hwz⟩
    · simp [Value.cells] at hcs
      obtain ⟨rfl, rfl, rfl⟩ := hcs
      exact ⟨[], .inl ⟨rfl, rfl, rfl, rfl⟩⟩
    · simp [Value.cells] at hcs
      obtain ⟨rfl, rfl, rfl⟩ := hcs
      exact ⟨zs, .inr ⟨_, rfl, hl, hm, by simpa using hz, hcell, hwz⟩⟩
  clear hA0 hval0
  refine (walk a0 len0 cap0 z0 W w0).mono fun e W' ⟨he, bel⟩ => ?_
  subst he
  exact ⟨_, rfl, _, _, _, [], _, [], hW', trodAll_mk1 (shut_bool Try.underlying4 _), (trodAll_cons_mk (Below.trod laidOut (by kernel_rfl) (of_decide_eq_true (by kernel_rfl)) k0 bel lt0) trodAll_mk0), rfl, bel.frame _, fun h => by cases h⟩

theorem over : Rows.fnNormalRow.holds Try.pinned (OpenSpec.ofChange Rows.fnNormalSpec) :=
  OpenClaim.holds_of_wide 3 Try.f3 rfl rfl rfl rfl rfl rfl rfl ⟨rfl, rfl, rfl, rfl, rfl⟩ rfl rfl rfl rfl rfl (by kernel_rfl) Try.func3 (by kernel_rfl)
    (of_decide_eq_true (by kernel_rfl)) (by unfold Func.isWrapper; first | (rw [if_pos (by decide +kernel)]; kernel_rfl) | (rw [if_neg (by decide +kernel)]; exact ⟨rfl, rfl⟩))
    (fun os started H enc _ => lifted os started H enc)

theorem proved : Rows.FnNormalSaid := over
#print axioms proved
end Go.Proofs.Ytkligbeneiidaaa.fnNormal
