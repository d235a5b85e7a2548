/-
  For every slice of bytes the law FnEntries returns true (what was added to a directory is found, and nothing else turns; dropped again it is as it was), and what came in reads behind the call as it read before; the program's error variable holds what the program's text lays.
-/
import Derived.Test.YtogpgocldgdeaaaDoorEntDD
import Derived.Test.YtogpgocldgdeaaaDoorEntLaw
import Derived.Test.YtogpgocldgdeaaaDoorEntY
import Derived.Test.YtogpgocldgdeaaaDoorIDirOfW
import Derived.Test.YtogpgocldgdeaaaDoorOpenB
import Derived.Test.YtogpgocldgdeaaaDoorCards
import Derived.Test.YtogpgocldgdeaaaDoorTie
import Derived.LaidMore
import Derived.Stop.Joined
import Derived.Stop.LaidErr
import Derived.Lib.LaidTab
import Derived.Lib.SmallJoins
import Derived.SevenTiedAt
import Derived.WalkKit
import Derived.ProofKit
import Derived.OpenShut
import Derived.ShutString
import Derived.ChangeOld
import Derived.Below
namespace Go.Proofs.YtogpgocldgdeaaaDoor.fnEntries
open Go.ChangeShapes Go.WideShapes Go.ChangeAt Go.RowKit
open Go.ChangeMaps (open_string shut_string)
set_option linter.unusedVariables false

theorem own : ownKnob Tryd.prog.godebug = none := by kernel_rfl
theorem door_met (os : Os) (args : Array Value) : laidMetH Tryd.prog Rows.fnEntriesRow.laid ((World.doorLaid Tryd.prog 28 os).forCall (fun _ _ => 0) ⟨#[], args, []⟩).memory :=
  laidMetH_of_parts3 (fuel := 8) (laidMet_of_run' 8 (by kernel_rfl) (by kernel_rfl)) (by kernel_rfl) (by kernel_rfl)
theorem laidOut : laidOutB Tryd.prog = true := by kernel_rfl

set_option maxRecDepth 20000 in
set_option maxHeartbeats 8000000 in
theorem walk (a0 : Option Addr) (cap0 : Nat) (l0 : List Int) (u0 : U8 l0) (w : World) (r0 : Rd .u8 w a0 l0) (hL : laidMetH Tryd.prog Rows.fnEntriesRow.laid w) :
    Calls Tryd.prog 3 #[.slice a0 l0.length cap0] w fun e w' => e = .returned (.bool true) ∧ Below w.heap.size w w' := by
  obtain ⟨aE, hv⟩ := errVar (Rows.fnEntriesRow.laid) rfl hL
  have hgc : w.cell? ⟨errG, 0, none⟩ = some (.iface 86 (.pointer (some aE))) := by simpa using World.var?_cell gErr hv 0
  have HEA : Hid (ErrAt aE w) := ⟨World.block_lt_of_cell? w _ hgc, hgc⟩
  clear hL hv hgc
  by_cases hbig : 1048576 < l0.length
  · have hbg : decide ((1048576 : Int) < (l0.length : Int)) = true := by simp; omega
    go_enter Tryd.func3, Tryd.ntmps3
    go_wp2_with (go_at_call 5; refine (bigE _ _ _ _).mono ?_; rintro e w1 ⟨rfl, hw1⟩; subst w1; rw [hbg])
    go_ret
    exact ⟨rfl, Below.refl _ _⟩
  have hbg : decide ((1048576 : Int) < (l0.length : Int)) = false := by simp; omega
  have HR0 : Hid (Rd .u8 w a0 l0) := r0
  have HU : Hid (U8 l0) := u0
  clear r0 u0
  have HDO : Hid (∀ s W, s.size ≤ 1048576 → Below w.heap.size w W → Calls Tryd.prog 12 #[.string s] W fun e w' => ∃ v, e = .returned (.tuple #[v, .bool (dirOk s)]) ∧ OwnEn w' W.heap.size w'.heap.size v (dirL s) ∧ Below W.heap.size W w') := fun s W hs h => implDirOf s aE W hs (HEA.out.below h)
  clear HEA
  go_enter Tryd.func3, Tryd.ntmps3
  go_wp2_with fail
  refine (bigE _ _ _ _).mono ?_
  rintro e w0 ⟨rfl, hw0⟩
  subst w0
  rw [hbg]
  go_wp2_with fail
  refine (drawAdd _ _ l0 _ (by omega) HU.out HR0.out).mono ?_
  rintro e w1 ⟨v, D, s, n, rfl, hsz, hs2, hrow1, hb1⟩
  clear HU HR0 hbg
  have hDl : D.length ≤ 300 := Nat.le_trans (szEn_len D) hsz
  have HRD : Hid (∀ W, Below w1.heap.size w1 W → RdEn W v D) := fun W h => by
    obtain ⟨a, c, rfl, hc, hr⟩ := own_rdF encN_len hrow1 rfl
    exact ⟨a, c, rfl, hc, hr.below h (Nat.le_refl _)⟩
  obtain ⟨aD, cD, rfl⟩ : ∃ aD cD, v = .slice aD D.length cD := by
    rcases hrow1.2 with ⟨rfl, h0⟩ | ⟨g, cap, cur, rfl, _⟩
    · exact ⟨none, 0, by rw [h0]⟩
    · exact ⟨_, _, rfl⟩
  have HB1 : Hid (Below w.heap.size w w1) := hb1
  have hz1 := hb1.size
  clear hrow1 hb1
  go_wp2_with fail
  refine (dirAddX_impl _ D s n _ (by omega) (by omega) (HRD.out _ (Below.refl _ _))).mono ?_
  rintro e w2 ⟨va, rfl, hoa2, hc2⟩
  have hc2' : Below w1.heap.size w1 w2 := hc2
  clear hc2
  go_wp2_with fail
  refine (dirAddX_spec _ D s n _ (by omega) (by omega) (HRD.out _ hc2')).mono ?_
  rintro e w3 ⟨vw, rfl, _, hc3⟩
  have hC3 : Below w1.heap.size w1 w3 := hc2'.trans (hc3.mono hc2'.size)
  have HOA : Hid (OwnEn w3 w1.heap.size w2.heap.size va (addD D s n)) := hoa2.below hc3
  clear hc3 hoa2 hc2'
  have HBA : Hid (∀ W, Below w1.heap.size w1 W → Below w.heap.size w W) := fun W h => HB1.out.trans (h.mono hz1)
  cases hok : addOk D s n with
  | false =>
    have hd : addD D s n = D := by unfold addD; rw [hok]; rfl
    rw [hd] at HOA
    obtain ⟨av, cv, rfl⟩ : ∃ av cv, va = .slice av D.length cv := by
      rcases HOA.out.1.2 with ⟨rfl, h0⟩ | ⟨g, cap, cur, rfl, _⟩
      · exact ⟨none, 0, by rw [h0]⟩
      · exact ⟨_, _, rfl⟩
    have hB := HBA.out w3 hC3
    clear hd hok HOA HDO
    go_wp2
    go_ret
    exact ⟨rfl, hB⟩
  | true =>
    have hd : addD D s n = enAdded D s n := by unfold addD; rw [if_pos hok]
    have heok : enOk (enAdded D s n) = true := by rw [← addOk_eq]; exact hok
    obtain ⟨f1, f2, f3, f4, f5⟩ := added_facts heok
    have hsmA : SmE (enAdded D s n) := enAdded_sm (by omega) (by omega)
    obtain ⟨t1, t2⟩ := dir_text heok hsmA
    have t3 := text_size heok
    have hszA : szEn (enAdded D s n) ≤ 1048576 := by rw [enAdded_sz]; omega
    rw [hd] at HOA
    clear hd hok
    generalize enAdded D s n = A at *
    have HF2 : Hid (∀ i (hi : i < D.length), enFind A (D[i]).1 = (D[i]).2) := f2
    have HRA : Hid (∀ W, Below w3.heap.size w3 W → RdEn W va A) := fun W h => HOA.out.rd.below h
    have hTS : (enTextS A).size ≤ 1048576 := by omega
    have HFA : Hid (∀ W t, Below w3.heap.size w3 W → Calls Tryd.prog 9 #[va, .string t] W fun e w' => e = .returned (.int .i64 (enFind A t)) ∧ Below W.heap.size W w') := fun W t h => dirFindX_impl va A t W hszA (HRA.out W h)
    have HF1 : Hid (enFind A s = n) := f1
    have HF3 : Hid (enHas A s = true) := f3
    have HF4 : Hid (enDropped A s = D) := f4
    have HF5 : Hid (enFind D s = -1) := f5
    have HT1 : Hid (dirL (enTextS A) = A) := t1
    have HT2 : Hid (dirOk (enTextS A) = true) := t2
    have HEK : Hid (enOk A = true) := heok
    clear f1 f2 f3 f4 f5 t1 t2 t3 heok hsmA
    go_wp2_with fail
    refine (HFA.out _ s (Below.refl _ _)).mono ?_
    rintro e w4 ⟨rfl, hc4⟩
    rw [HF1.out]
    go_wp2_with fail
    refine (entriesOkX_impl va A _ hszA (HRA.out _ hc4)).mono ?_
    rintro e w5 ⟨rfl, hc5⟩
    rw [HEK.out]
    have hC5 : Below w3.heap.size w3 w5 := hc4.trans (hc5.mono hc4.size)
    clear hc4 hc5 HF1 HEK
    go_wp2
    go_loopw [10] (fun i wr => ∃ k : Nat, k ≤ D.length ∧ i = .int .i64 k ∧ Below w3.heap.size w3 wr) (fun i _ => D.length - (intOf i).toNat)
    case atStart => exact ⟨0, Nat.zero_le _, rfl, hC5⟩
    case round =>
      clear hC5
      obtain ⟨k, hk, rfl, hC⟩ := hrel
      by_cases hlt : k < D.length
      · have hR1 := HRD.out wr (hC3.trans (hC.mono hC3.size))
        have HCC : Hid (∀ W, Below w3.heap.size w3 W → ∃ b off, aD = some ⟨b, off, none⟩ ∧ W.cell? ⟨b, off + k * 2, none⟩ = some (.string D[k].1) ∧ W.cell? ⟨b, off + k * 2 + 1, none⟩ = some (.int .i64 D[k].2)) := fun W h => by
          obtain ⟨a, c, he, _, hr⟩ := HRD.out W (hC3.trans (h.mono hC3.size))
          injection he with e1 _ _
          subst e1
          obtain ⟨b, off, e2, _, hcell⟩ := hr.at k hlt
          exact ⟨b, off, e2, hcell 0 (by omega), hcell 1 (by omega)⟩
        clear hR1
        obtain ⟨b, off, rfl, d0, d1⟩ := HCC.out wr hC
        have HCW : Hid (∀ W, Below w3.heap.size w3 W → W.cell? ⟨b, off + k * 2, none⟩ = some (.string D[k].1) ∧ W.cell? ⟨b, off + k * 2 + 1, none⟩ = some (.int .i64 D[k].2)) := fun W h => by
          obtain ⟨b', off', he, g0, g1⟩ := HCC.out W h
          injection he with he
          injection he with e1 e2 _
          subst e1 e2
          exact ⟨g0, g1⟩
        have HFK : Hid (∀ W, Below w3.heap.size w3 W → Calls Tryd.prog 9 #[va, .string D[k].1] W fun e w' => e = .returned (.int .i64 D[k].2) ∧ Below w3.heap.size w3 w' ∧ w'.cell? ⟨b, off + k * 2, none⟩ = some (.string D[k].1) ∧ w'.cell? ⟨b, off + k * 2 + 1, none⟩ = some (.int .i64 D[k].2)) := fun W h => by
          refine (HFA.out W D[k].1 h).mono ?_
          rintro e w' ⟨rfl, hb⟩
          have h2 := h.trans (hb.mono h.size)
          exact ⟨by rw [HF2.out k hlt], h2, HCW.out w' h2⟩
        have HBD : Hid (Below w3.heap.size w3 wr.drew) := hC.drew
        clear HCC HCW
        generalize (D[k]).1 = t at *
        generalize (D[k]).2 = m at *
        go_wp2
        go_region_with (go_at_call 9; refine (HFK.out _ HBD.out).mono ?_; rintro e w6 ⟨rfl, hc6, d2, d3⟩)
        all_goals
          go_wp2
          go_roundw
          case rel => exact ⟨k + 1, by omega, by go_num, hc6⟩
          case measure => simp [intOf]; omega
      · have hDrop := dirDropX_impl va A s wr hszA (HRA.out _ hC)
        rw [HF3.out, HF4.out] at hDrop
        have HDR : Hid (Calls Tryd.prog 11 #[va, .string s] wr fun e w' => ∃ v, e = .returned (.tuple #[v, .bool true]) ∧ OwnEn w' wr.heap.size w'.heap.size v D ∧ Below wr.heap.size wr w') := hDrop
        clear hDrop HF2 HF3 HF4
        go_wp2_with fail
        refine HDR.out.mono ?_
        rintro e w6 ⟨vb, rfl, hob6, hc6⟩
        have hC6 : Below w3.heap.size w3 w6 := hC.trans (hc6.mono hC.size)
        have HRB : Hid (∀ W, Below w6.heap.size w6 W → RdEn W vb D) := fun W h => hob6.rd.below h
        clear hob6 hc6 hC HDR
        go_wp2_with fail
        refine (dirTextX_impl va A _ hszA (HRA.out _ hC6)).mono ?_
        rintro e w7 ⟨rfl, hc7⟩
        have hC7 : Below w3.heap.size w3 w7 := hC6.trans (hc7.mono hC6.size)
        have hc7' : Below w6.heap.size w6 w7 := hc7
        clear hc7
        have hDO := HDO.out (enTextS A) w7 hTS (HBA.out _ (hC3.trans (hC7.mono hC3.size)))
        rw [HT1.out, HT2.out] at hDO
        have HDR : Hid (Calls Tryd.prog 12 #[.string (enTextS A)] w7 fun e w' => ∃ v, e = .returned (.tuple #[v, .bool true]) ∧ OwnEn w' w7.heap.size w'.heap.size v A ∧ Below w7.heap.size w7 w') := hDO
        clear hDO HDO HT1 HT2
        go_wp2_with fail
        refine HDR.out.mono ?_
        rintro e w8 ⟨vc, rfl, hoc8, hc8⟩
        have hC8 : Below w3.heap.size w3 w8 := hC7.trans (hc8.mono hC7.size)
        have hc8' : Below w6.heap.size w6 w8 := hc7'.trans (hc8.mono hc7'.size)
        have HRC : Hid (∀ W, Below w8.heap.size w8 W → RdEn W vc A) := fun W h => hoc8.rd.below h
        clear hoc8 hc8 hc7' HDR hC7 hC6
        go_wp2_with fail
        refine (dirTextX_impl vb D _ (by omega) (HRB.out _ hc8')).mono ?_
        rintro e w9 ⟨rfl, hc9⟩
        have hC9 : Below w3.heap.size w3 w9 := hC8.trans (hc9.mono hC8.size)
        have hc9' : Below w6.heap.size w6 w9 := hc8'.trans (hc9.mono hc8'.size)
        have he9 : Below w8.heap.size w8 w9 := hc9
        clear hc9 hc8' hC8
        go_wp2_with fail
        refine (dirTextX_impl _ D _ (by omega) (HRD.out _ (hC3.trans (hC9.mono hC3.size)))).mono ?_
        rintro e w10 ⟨rfl, hc10⟩
        have hC10 : Below w3.heap.size w3 w10 := hC9.trans (hc10.mono hC9.size)
        have hc10' : Below w6.heap.size w6 w10 := hc9'.trans (hc10.mono hc9'.size)
        have he10 : Below w8.heap.size w8 w10 := he9.trans (hc10.mono he9.size)
        clear hc10 hc9' he9 hC9
        have hq1 : ((enTextS D).toList == (enTextS D).toList) = true := by simp
        have hq2 : ((enTextS A).toList == (enTextS A).toList) = true := by simp
        go_wp2_with fail
        refine (dirFindX_impl vb D s _ (by omega) (HRB.out _ hc10')).mono ?_
        rintro e w11 ⟨rfl, hc11⟩
        rw [HF5.out]
        have hC11 : Below w3.heap.size w3 w11 := hC10.trans (hc11.mono hC10.size)
        have he11 : Below w8.heap.size w8 w11 := he10.trans (hc11.mono he10.size)
        clear hc11 hc10' he10 hC10
        go_wp2_with fail
        refine (dirTextX_impl vc A _ hszA (HRC.out _ he11)).mono ?_
        rintro e w12 ⟨rfl, hc12⟩
        have hC12 : Below w3.heap.size w3 w12 := hC11.trans (hc12.mono hC11.size)
        clear hc12 he11 hC11
        go_wp2_with fail
        refine (dirTextX_impl va A _ hszA (HRA.out _ hC12)).mono ?_
        rintro e w13 ⟨rfl, hc13⟩
        have hB13 := HBA.out _ (hC3.trans ((hC12.trans (hc13.mono hC12.size)).mono hC3.size))
        clear hc13 hC12
        go_wp2
        go_ret
        exact ⟨rfl, hB13⟩

set_option maxRecDepth 100000 in
theorem lifted (os : Os) (started : os.Started) (H : Type) (enc : TypeId × Value → H) :
    ReturnsInHanded {} Tryd.checked os 3 .any (fun w args => (Rows.fnEntriesSpec.pre enc Tryd.prog Tryd.f3 Rows.fnEntriesRow.domain false w args ∧ laidMetH Tryd.prog Rows.fnEntriesRow.laid w) ∧ sizedMet enc Tryd.prog Tryd.f3 (OpenSpec.ofChange Rows.fnEntriesSpec) false w args) (Rows.fnEntriesSpec.post enc Tryd.prog Tryd.f3 false true false false) := by
  refine returnsInHanded_of_change_and (C := Tryd.checked) (X := fun w _ => laidMetH Tryd.prog Rows.fnEntriesRow.laid w) (fun _ _ _ hh h => h.of_heap hh) own started (by kernel_rfl) Tryd.func3
    (ChangeSpec.witness_shaped (enc := enc) (C := Tryd.checked) (os := os) (X := fun w _ => laidMetH Tryd.prog Rows.fnEntriesRow.laid w) false (World.doorLaid Tryd.prog 28 os) #[.slice none 0 0] 8 rfl (World.shaped_of_RefB (by kernel_rfl) (by kernel_rfl)) (by kernel_rfl) (by kernel_rfl) (by kernel_rfl) (door_met os _)) ?_
  intro W base args ds gs before hval0 hW _ _ hL _
  have hval : ∀ (j : Nat) t v, Tryd.f3.params[j]? = some t → args[j]? = some v → Value.okWide Tryd.prog W .any base t v := hval0
  have hW' := hW
  obtain ⟨p, q, hA0, hV, rfl, hfz, hnd⟩ := hW
  have hA : DataW.TrodAll enc Tryd.prog W 0 (fun _ => true) true Tryd.f3.params.toList args.toList ds p := hA0
  rw [Tryd.params3] at hA hval
  obtain ⟨v0, vs0, d0, ds0, p0, q0, hargs, rfl, rfl, h0, rr0⟩ := trodAll_cons hA
  obtain ⟨rfl, rfl, rfl⟩ := trodAll_nil rr0
  obtain rfl : args = #[v0] := by cases args; simp_all
  have hV1 : DataW.TrodVars enc Tryd.prog W (fun _ => true) ["loop.example/g00483/impl.errNoNum"] gs q := hV
  obtain ⟨xv, hv0⟩ := errVar (Rows.fnEntriesRow.laid) rfl hL
  obtain ⟨rfl, rfl⟩ := hV1.unique (vars_read1 enc gErr tErr Tryd.underlying83 hv0 trivial _)
  have k0 := h0
  have lt0 : ∀ x ∈ p0, x.block < W.heap.size := by obtain ⟨m, hm⟩ := k0; exact DataW.trod_lt m _ _ _ hm
  obtain ⟨a0, cap0, l0, rfl, u0, r0⟩ := open_Bytes (hval 0 22 v0 rfl rfl) h0
  clear hA0 hval0
  refine (walk a0 cap0 l0 u0 W r0 hL).mono fun e W' ⟨he, bel⟩ => ?_
  subst he
  exact ⟨_, rfl, _, _, _, [], _, [.cell errG 0], hW', trodAll_mk1 (shut_bool Tryd.underlying4 _), (trodAll_cons_mk (Below.trod laidOut (by kernel_rfl) (of_decide_eq_true (by kernel_rfl)) k0 bel lt0) trodAll_mk0), vars_read1 enc gErr tErr Tryd.underlying83 (Joins.var_stays gErr hv0 bel (Nat.le_refl _)) trivial _, bel.frame _, fun h => by cases h⟩

theorem over : Rows.fnEntriesRow.holds Tryd.pinned (OpenSpec.ofChange Rows.fnEntriesSpec) :=
  OpenClaim.holds_of_wide 3 Tryd.f3 rfl rfl rfl rfl rfl rfl rfl ⟨rfl, rfl, rfl, rfl, rfl⟩ rfl rfl rfl rfl rfl (by kernel_rfl) Tryd.func3 (by kernel_rfl)
    (of_decide_eq_true (by kernel_rfl)) (by unfold Func.isWrapper; first | (rw [if_pos (by decide +kernel)]; kernel_rfl) | (rw [if_neg (by decide +kernel)]; exact ⟨rfl, rfl⟩))
    (fun os started H enc _ => lifted os started H enc)

theorem plain (f : FuncId) (fn : Func) (hf : Tryd.pinned.checked.prog.funcNamed "loop.example/g00483/laws.FnEntries" = some f) (hfn : Tryd.pinned.checked.prog.funcs[f]? = some fn) :
    false = Tryd.pinned.checked.prog.looks [] ∧ ∀ (j : Nat) t, fn.params[j]? = some t → Tryd.pinned.checked.prog.wantsStandIn t = false := by
  obtain rfl : f = 3 := Option.some.inj ((show Tryd.prog.funcNamed "loop.example/g00483/laws.FnEntries" = some 3 by kernel_rfl).symm.trans hf) |>.symm
  obtain rfl : fn = Tryd.f3 := (Option.some.inj (Tryd.func3.symm.trans hfn)).symm
  refine ⟨by kernel_rfl, fun j t ht => ?_⟩
  rw [Tryd.params3] at ht
  have hm : t ∈ [22] := by simpa using Array.mem_of_getElem? ht
  have hall : ([22].all fun u => !Tryd.prog.wantsStandIn u) = true := by kernel_rfl
  exact (show Tryd.prog.wantsStandIn t = false by simpa using List.all_eq_true.1 hall t hm)

theorem card : Rows.FnEntriesCardSaid :=
  Claim7.holds_tied_plain_at .later [] _ _ _ _ over (fun _ h => by cases h) (by kernel_rfl) (fun _ h => by cases h) fnEntries_row_tie rfl ⟨rfl, rfl⟩ (by kernel_rfl) rfl plain (by kernel_rfl)
#print axioms card
end Go.Proofs.YtogpgocldgdeaaaDoor.fnEntries
