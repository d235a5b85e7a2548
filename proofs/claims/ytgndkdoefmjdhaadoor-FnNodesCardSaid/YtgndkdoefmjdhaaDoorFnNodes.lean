/-
  For every slice of bytes the law FnNodes returns true (a node is read from its text as it was; a text that is read is that node's text), and what came in reads behind the call as it read before; the program's error variable holds what the program's text lays.
-/
import Derived.Test.YtgndkdoefmjdhaaDoorDTextNW
import Derived.Test.YtgndkdoefmjdhaaDoorNodeBig
import Derived.Test.YtgndkdoefmjdhaaDoorOpenB
import Derived.Test.YtgndkdoefmjdhaaDoorINodeOfW
import Derived.Test.YtgndkdoefmjdhaaDoorSNodeSW
import Derived.Test.YtgndkdoefmjdhaaDoorCards
import Derived.Test.YtgndkdoefmjdhaaDoorTie
import Derived.LaidMore
import Derived.Stop.Joined
import Derived.Stop.LaidErr
import Derived.Lib.LaidTab
import Derived.Lib.SmallJoins
import Derived.SevenTiedAt
import Derived.WalkKit
import Derived.ProofKit
import Derived.OpenShut
import Derived.ShutString
import Derived.ChangeOld
import Derived.Below
namespace Go.Proofs.YtgndkdoefmjdhaaDoor.fnNodes
open Go.ChangeShapes Go.WideShapes Go.ChangeAt Go.RowKit
open Go.ChangeMaps (open_string shut_string)
set_option linter.unusedVariables false

theorem own : ownKnob Tryd.prog.godebug = none := by kernel_rfl
theorem door_met (os : Os) (args : Array Value) : laidMetH Tryd.prog Rows.fnNodesRow.laid ((World.doorLaid Tryd.prog 28 os).forCall (fun _ _ => 0) ⟨#[], args, []⟩).memory :=
  laidMetH_of_parts3 (fuel := 8) (laidMet_of_run' 8 (by kernel_rfl) (by kernel_rfl)) (by kernel_rfl) (by kernel_rfl)
theorem laidOut : laidOutB Tryd.prog = true := by kernel_rfl

set_option maxRecDepth 20000 in
set_option maxHeartbeats 8000000 in
theorem walk (a0 : Option Addr) (cap0 : Nat) (l0 : List Int) (u0 : U8 l0) (w : World) (r0 : Rd .u8 w a0 l0) (hL : laidMetH Tryd.prog Rows.fnNodesRow.laid w) :
    Calls Tryd.prog 3 #[.slice a0 l0.length cap0] w fun e w' => e = .returned (.bool true) ∧ Below w.heap.size w w' := by
  obtain ⟨aE, hv⟩ := errVar (Rows.fnNodesRow.laid) rfl hL
  have hgc : w.cell? ⟨errG, 0, none⟩ = some (.iface 60 (.pointer (some aE))) := by simpa using World.var?_cell gErr hv 0
  have HEA : Hid (ErrAt aE w) := ⟨World.block_lt_of_cell? w _ hgc, hgc⟩
  clear hL hv hgc
  by_cases hbig : 1048576 < l0.length
  · have hbg : decide ((1048576 : Int) < (l0.length : Int)) = true := by simp; omega
    go_enter Tryd.func3, Tryd.ntmps3
    go_wp2_with (go_at_call 5; refine (bigN _ _ _ _).mono ?_; rintro e w1 ⟨rfl, hw1⟩; subst w1; rw [hbg])
    go_ret
    exact ⟨rfl, Below.refl _ _⟩
  have hbg : decide ((1048576 : Int) < (l0.length : Int)) = false := by simp; omega
  have HR0 : Hid (Rd .u8 w a0 l0) := r0
  have HU : Hid (U8 l0) := u0
  clear r0 u0
  have IC : Hid (∀ s W, s.size ≤ 1048576 → Below w.heap.size w W → Calls Tryd.prog 7 #[.string s] W fun e w' => ∃ v, e = .returned (.tuple #[v, .bool (ofOk s)]) ∧ OwnN w' W.heap.size v (ofN s) ∧ Below W.heap.size W w') := fun s W hs h => implNodeOf s aE W hs (HEA.out.below h)
  clear HEA
  go_enter Tryd.func3, Tryd.ntmps3
  go_wp2_with fail
  refine (bigN _ _ _ _).mono ?_
  rintro e w0 ⟨rfl, hw0⟩
  subst w0
  rw [hbg]
  go_wp2_with fail
  refine (drawNT _ _ l0 _ (by omega) HU.out HR0.out).mono ?_
  rintro e w1 ⟨v1, N, rfl, ho1, hn6, hb1⟩
  obtain ⟨aN, cN, rfl⟩ := ho1.lay
  have HVN1 : Hid (Var (w1.alloc (.cells #[.int .i64 N.k, .int .i64 N.g, .int .i64 N.t, .int .i64 N.s, .slice aN N.b.length cN] 26)) w1.heap.size #[.int .i64 N.k, .int .i64 N.g, .int .i64 N.t, .int .i64 N.s, .slice aN N.b.length cN] 26) := Var.made _ _ _
  have HON1 : Hid (OwnN (w1.alloc (.cells #[.int .i64 N.k, .int .i64 N.g, .int .i64 N.t, .int .i64 N.s, .slice aN N.b.length cN] 26)) w.heap.size (.agg #[.int .i64 N.k, .int .i64 N.g, .int .i64 N.t, .int .i64 N.s, .slice aN N.b.length cN]) N) := ho1.below (below1 _ _)
  have HB1 : Hid (Below w.heap.size w (w1.alloc (.cells #[.int .i64 N.k, .int .i64 N.g, .int .i64 N.t, .int .i64 N.s, .slice aN N.b.length cN] 26))) := hb1.alloc hb1.size _
  obtain ⟨HK1, HK2⟩ := of_ndText N
  have HT9 := ndText_small N
  clear hb1 ho1
  have yN0 := HVN1.out.cell 0
  have yN1 := HVN1.out.cell 1
  have yN2 := HVN1.out.cell 2
  have yN3 := HVN1.out.cell 3
  have yN4 := HVN1.out.cell 4
  simp at yN0 yN1 yN2 yN3 yN4
  go_wp2_with fail
  refine (implNodeText _ N _ (by omega) HON1.out.rd).mono ?_
  generalize hX1 : (w1.alloc (.cells #[.int .i64 N.k, .int .i64 N.g, .int .i64 N.t, .int .i64 N.s, .slice aN N.b.length cN] 26)) = X1 at *
  clear hX1
  rintro e w2 ⟨rfl, hb2⟩
  clear yN0 yN1 yN2 yN3 yN4
  have HB2 : Hid (Below w.heap.size w w2) := HB1.out.trans (hb2.mono HB1.out.size)
  have HC2 : Hid (Below X1.heap.size X1 w2) := hb2
  clear hb2
  obtain ⟨TX, hTX⟩ : ∃ TX, ndText N = TX := ⟨_, rfl⟩
  rw [hTX] at HK1 HK2 HT9 ⊢
  go_wp2_with fail
  refine (IC.out TX _ HT9 HB2.out).mono ?_
  rintro e w3 ⟨v3, rfl, ho3, hb3⟩
  obtain ⟨qN, hqN⟩ : ∃ q, ndOk N = q := ⟨_, rfl⟩
  rw [HK1, hqN]
  obtain ⟨M, hM⟩ : ∃ M, ofN TX = M := ⟨_, rfl⟩
  rw [hM] at ho3
  have HMN : Hid (qN = true → M = N) := by intro h; rw [← hM]; exact HK2 (by rw [hqN, h])
  obtain ⟨aM, cM, rfl⟩ := ho3.lay
  have hs2 : X1.heap.size ≤ w2.heap.size := HC2.out.size
  have HVM3 : Hid (Var (w3.alloc (.cells #[.int .i64 M.k, .int .i64 M.g, .int .i64 M.t, .int .i64 M.s, .slice aM M.b.length cM] 26)) w3.heap.size #[.int .i64 M.k, .int .i64 M.g, .int .i64 M.t, .int .i64 M.s, .slice aM M.b.length cM] 26) := Var.made _ _ _
  have HOM3 : Hid (OwnN (w3.alloc (.cells #[.int .i64 M.k, .int .i64 M.g, .int .i64 M.t, .int .i64 M.s, .slice aM M.b.length cM] 26)) w2.heap.size (.agg #[.int .i64 M.k, .int .i64 M.g, .int .i64 M.t, .int .i64 M.s, .slice aM M.b.length cM]) M) := ho3.below (below1 _ _)
  have hC3 : Below w2.heap.size w2 (w3.alloc (.cells #[.int .i64 M.k, .int .i64 M.g, .int .i64 M.t, .int .i64 M.s, .slice aM M.b.length cM] 26)) := hb3.alloc hb3.size _
  have HB3 : Hid (Below w.heap.size w (w3.alloc (.cells #[.int .i64 M.k, .int .i64 M.g, .int .i64 M.t, .int .i64 M.s, .slice aM M.b.length cM] 26))) := HB2.out.trans (hC3.mono HB2.out.size)
  have HC3 : Hid (Below X1.heap.size X1 (w3.alloc (.cells #[.int .i64 M.k, .int .i64 M.g, .int .i64 M.t, .int .i64 M.s, .slice aM M.b.length cM] 26))) := HC2.out.trans (hC3.mono HC2.out.size)
  have HQN : Hid (ndOk N = qN) := hqN
  have HM5 : Hid (M.b.length ≤ 5) := by rw [← hM]; exact ofN_len TX
  clear hb3 ho3 hC3 HC2 HB2 hqN hM HK1 HK2 HT9 hTX
  go_wp2_with fail
  refine (drawNO _ _ l0 _ (by omega) HU.out (HR0.out.below HB3.out (Nat.le_refl _))).mono ?_
  generalize hX3 : (w3.alloc (.cells #[.int .i64 M.k, .int .i64 M.g, .int .i64 M.t, .int .i64 M.s, .slice aM M.b.length cM] 26)) = X3 at *
  clear hX3
  rintro e w4 ⟨s, rfl, hs4, hb4⟩
  have HB4 : Hid (Below w.heap.size w w4) := HB3.out.trans (hb4.mono HB3.out.size)
  have HD4 : Hid (Below X3.heap.size X3 w4) := hb4
  clear hb4
  go_wp2_with fail
  refine (IC.out s _ hs4 HB4.out).mono ?_
  rintro e w5 ⟨v5, rfl, ho5, hb5⟩
  have HTS : Hid (ofOk s = true → ndText (ofN s) = s ∧ ndOk (ofN s) = true) := fun h => ⟨(text_of h).1, ndOk_yes (text_of h).2⟩
  have HSO : Hid (∀ W, Calls Tryd.prog 10 #[.string s] W fun e w' => ∃ v, e = .returned (.tuple #[v, .bool (ofOk s)]) ∧ OwnN w' W.heap.size v (ofN s) ∧ Below W.heap.size W w') := fun W => specNodeOf s W hs4
  have HK5 : Hid ((ofN s).b.length ≤ 5) := ofN_len s
  generalize ofOk s = q at *
  generalize ofN s = K at *
  obtain ⟨aK, cK, rfl⟩ := ho5.lay
  have HVK5 : Hid (Var (w5.alloc (.cells #[.int .i64 K.k, .int .i64 K.g, .int .i64 K.t, .int .i64 K.s, .slice aK K.b.length cK] 26)) w5.heap.size #[.int .i64 K.k, .int .i64 K.g, .int .i64 K.t, .int .i64 K.s, .slice aK K.b.length cK] 26) := Var.made _ _ _
  have HOK5 : Hid (OwnN (w5.alloc (.cells #[.int .i64 K.k, .int .i64 K.g, .int .i64 K.t, .int .i64 K.s, .slice aK K.b.length cK] 26)) w4.heap.size (.agg #[.int .i64 K.k, .int .i64 K.g, .int .i64 K.t, .int .i64 K.s, .slice aK K.b.length cK]) K) := ho5.below (below1 _ _)
  have hC5 : Below w4.heap.size w4 (w5.alloc (.cells #[.int .i64 K.k, .int .i64 K.g, .int .i64 K.t, .int .i64 K.s, .slice aK K.b.length cK] 26)) := hb5.alloc hb5.size _
  have HB5 : Hid (Below w.heap.size w (w5.alloc (.cells #[.int .i64 K.k, .int .i64 K.g, .int .i64 K.t, .int .i64 K.s, .slice aK K.b.length cK] 26))) := HB4.out.trans (hC5.mono HB4.out.size)
  have HD5 : Hid (Below X3.heap.size X3 (w5.alloc (.cells #[.int .i64 K.k, .int .i64 K.g, .int .i64 K.t, .int .i64 K.s, .slice aK K.b.length cK] 26))) := HD4.out.trans (hC5.mono HD4.out.size)
  clear hb5 ho5 hC5 HD4 HB4 IC
  go_wp2_with fail
  refine (HSO.out _).mono ?_
  generalize hX5 : (w5.alloc (.cells #[.int .i64 K.k, .int .i64 K.g, .int .i64 K.t, .int .i64 K.s, .slice aK K.b.length cK] 26)) = X5 at *
  clear hX5
  rintro e w6 ⟨v6, rfl, ho6, hb6⟩
  obtain ⟨aS, cS, rfl⟩ := ho6.lay
  have hC6 : Below X5.heap.size X5 (w6.alloc (.cells #[.int .i64 K.k, .int .i64 K.g, .int .i64 K.t, .int .i64 K.s, .slice aS K.b.length cS] 26)) := hb6.alloc hb6.size _
  have HB6 : Hid (Below w.heap.size w (w6.alloc (.cells #[.int .i64 K.k, .int .i64 K.g, .int .i64 K.t, .int .i64 K.s, .slice aS K.b.length cS] 26))) := HB5.out.trans (hC6.mono HB5.out.size)
  have HD6 : Hid (Below X3.heap.size X3 (w6.alloc (.cells #[.int .i64 K.k, .int .i64 K.g, .int .i64 K.t, .int .i64 K.s, .slice aS K.b.length cS] 26))) := HD5.out.trans (hC6.mono HD5.out.size)
  have HE6 : Hid (Below X5.heap.size X5 (w6.alloc (.cells #[.int .i64 K.k, .int .i64 K.g, .int .i64 K.t, .int .i64 K.s, .slice aS K.b.length cS] 26))) := hC6
  clear hb6 ho6 hC6 HB5 HD5
  have HVN6 : Hid (Var (w6.alloc (.cells #[.int .i64 K.k, .int .i64 K.g, .int .i64 K.t, .int .i64 K.s, .slice aS K.b.length cS] 26)) w1.heap.size #[.int .i64 N.k, .int .i64 N.g, .int .i64 N.t, .int .i64 N.s, .slice aN N.b.length cN] 26) := (HVN1.out.new HC3.out).new HD6.out
  have HON6 : Hid (OwnN (w6.alloc (.cells #[.int .i64 K.k, .int .i64 K.g, .int .i64 K.t, .int .i64 K.s, .slice aS K.b.length cS] 26)) w.heap.size (.agg #[.int .i64 N.k, .int .i64 N.g, .int .i64 N.t, .int .i64 N.s, .slice aN N.b.length cN]) N) := (HON1.out.below HC3.out).below HD6.out
  have HVM6 : Hid (Var (w6.alloc (.cells #[.int .i64 K.k, .int .i64 K.g, .int .i64 K.t, .int .i64 K.s, .slice aS K.b.length cS] 26)) w3.heap.size #[.int .i64 M.k, .int .i64 M.g, .int .i64 M.t, .int .i64 M.s, .slice aM M.b.length cM] 26) := HVM3.out.new HD6.out
  have HOM6 : Hid (OwnN (w6.alloc (.cells #[.int .i64 K.k, .int .i64 K.g, .int .i64 K.t, .int .i64 K.s, .slice aS K.b.length cS] 26)) w2.heap.size (.agg #[.int .i64 M.k, .int .i64 M.g, .int .i64 M.t, .int .i64 M.s, .slice aM M.b.length cM]) M) := HOM3.out.below HD6.out
  have HVK6 : Hid (Var (w6.alloc (.cells #[.int .i64 K.k, .int .i64 K.g, .int .i64 K.t, .int .i64 K.s, .slice aS K.b.length cS] 26)) w5.heap.size #[.int .i64 K.k, .int .i64 K.g, .int .i64 K.t, .int .i64 K.s, .slice aK K.b.length cK] 26) := HVK5.out.new HE6.out
  have HOK6 : Hid (OwnN (w6.alloc (.cells #[.int .i64 K.k, .int .i64 K.g, .int .i64 K.t, .int .i64 K.s, .slice aS K.b.length cS] 26)) w4.heap.size (.agg #[.int .i64 K.k, .int .i64 K.g, .int .i64 K.t, .int .i64 K.s, .slice aK K.b.length cK]) K) := HOK5.out.below HE6.out
  have yN0 := HVN6.out.cell 0
  have yN1 := HVN6.out.cell 1
  have yN2 := HVN6.out.cell 2
  have yN3 := HVN6.out.cell 3
  have yN4 := HVN6.out.cell 4
  simp at yN0 yN1 yN2 yN3 yN4
  go_wp2_with fail
  refine (specNodeOk _ N _ (by omega) HON6.out.rd).mono ?_
  generalize hX6 : (w6.alloc (.cells #[.int .i64 K.k, .int .i64 K.g, .int .i64 K.t, .int .i64 K.s, .slice aS K.b.length cS] 26)) = X6 at *
  clear hX6
  rintro e w7 ⟨rfl, hb7⟩
  clear yN0 yN1 yN2 yN3 yN4
  rw [HQN.out]
  have HB7 : Hid (Below w.heap.size w w7) := HB6.out.trans (hb7.mono HB6.out.size)
  have HVN7 : Hid (Var w7 w1.heap.size #[.int .i64 N.k, .int .i64 N.g, .int .i64 N.t, .int .i64 N.s, .slice aN N.b.length cN] 26) := HVN6.out.new hb7
  have HON7 : Hid (OwnN w7 w.heap.size (.agg #[.int .i64 N.k, .int .i64 N.g, .int .i64 N.t, .int .i64 N.s, .slice aN N.b.length cN]) N) := HON6.out.below hb7
  have HVM7 : Hid (Var w7 w3.heap.size #[.int .i64 M.k, .int .i64 M.g, .int .i64 M.t, .int .i64 M.s, .slice aM M.b.length cM] 26) := HVM6.out.new hb7
  have HOM7 : Hid (OwnN w7 w2.heap.size (.agg #[.int .i64 M.k, .int .i64 M.g, .int .i64 M.t, .int .i64 M.s, .slice aM M.b.length cM]) M) := HOM6.out.below hb7
  have HVK7 : Hid (Var w7 w5.heap.size #[.int .i64 K.k, .int .i64 K.g, .int .i64 K.t, .int .i64 K.s, .slice aK K.b.length cK] 26) := HVK6.out.new hb7
  have HOK7 : Hid (OwnN w7 w4.heap.size (.agg #[.int .i64 K.k, .int .i64 K.g, .int .i64 K.t, .int .i64 K.s, .slice aK K.b.length cK]) K) := HOK6.out.below hb7
  clear hb7 HVN6 HON6 HVM6 HOM6 HVK6 HOK6 HE6 HD6 HB6 HVK5 HOK5 HVM3 HOM3 HVN1 HON1 HC3 HB3 HB1
  cases qN with
  | false =>
    clear HMN HVN7 HON7 HVM7 HOM7
    cases q with
    | false =>
      have hbz := HB7.out
      go_wp2
      go_ret
      exact ⟨rfl, hbz⟩
    | true =>
      obtain ⟨hk1, hk2⟩ := HTS.out rfl
      have HNT : Hid (∀ v W, RdN W v K → Calls Tryd.prog 8 #[v] W fun e w' => e = .returned (.string s) ∧ Below W.heap.size W w') := by
        intro v W h
        have := implNodeText v K W (by have := HK5.out; omega) h
        rwa [hk1] at this
      have HNO : Hid (∀ v W, RdN W v K → Calls Tryd.prog 13 #[v] W fun e w' => e = .returned (.bool true) ∧ Below W.heap.size W w') := by
        intro v W h
        have := implNodeOk v K W (by have := HK5.out; omega) h
        rwa [hk2] at this
      clear hk1 hk2 HTS HSO
      have yK0 := HVK7.out.cell 0
      have yK1 := HVK7.out.cell 1
      have yK2 := HVK7.out.cell 2
      have yK3 := HVK7.out.cell 3
      have yK4 := HVK7.out.cell 4
      simp at yK0 yK1 yK2 yK3 yK4
      go_wp2_with fail
      refine (HNT.out _ _ HOK7.out.rd).mono ?_
      rintro e w9 ⟨rfl, hb9⟩
      clear yK0 yK1 yK2 yK3 yK4
      have hVK9 := HVK7.out.new hb9
      have hOK9 := HOK7.out.below hb9
      have hB9 : Below w.heap.size w w9 := HB7.out.trans (hb9.mono HB7.out.size)
      have yK0 := hVK9.cell 0
      have yK1 := hVK9.cell 1
      have yK2 := hVK9.cell 2
      have yK3 := hVK9.cell 3
      have yK4 := hVK9.cell 4
      simp at yK0 yK1 yK2 yK3 yK4
      go_wp2_with fail
      refine (HNO.out _ _ hOK9.rd).mono ?_
      rintro e w10 ⟨rfl, hb10⟩
      have hB10 : Below w.heap.size w w10 := hB9.trans (hb10.mono hB9.size)
      clear hb9 hb10 hVK9 hOK9 hB9 yK0 yK1 yK2 yK3 yK4
      go_wp2
      go_ret
      exact ⟨rfl, hB10⟩
  | true =>
    obtain rfl := HMN.out rfl
    have HSS : Hid (∀ v u W, RdN W v M → RdN W u M → Calls Tryd.prog 12 #[v, u] W fun e w' => e = .returned (.bool true) ∧ Below W.heap.size W w') := by
      intro v u W h1 h2
      have := specNodeSame v u M M W (by have := HM5.out; omega) h1 h2
      rwa [ndSame_refl] at this
    have yM0 := HVM7.out.cell 0
    have yM1 := HVM7.out.cell 1
    have yM2 := HVM7.out.cell 2
    have yM3 := HVM7.out.cell 3
    have yM4 := HVM7.out.cell 4
    simp at yM0 yM1 yM2 yM3 yM4
    have yN0 := HVN7.out.cell 0
    have yN1 := HVN7.out.cell 1
    have yN2 := HVN7.out.cell 2
    have yN3 := HVN7.out.cell 3
    have yN4 := HVN7.out.cell 4
    simp at yN0 yN1 yN2 yN3 yN4
    go_wp2_with fail
    refine (HSS.out _ _ _ HOM7.out.rd HON7.out.rd).mono ?_
    rintro e w8 ⟨rfl, hb8⟩
    clear yM0 yM1 yM2 yM3 yM4 yN0 yN1 yN2 yN3 yN4
    have HVK8 : Hid (Var w8 w5.heap.size #[.int .i64 K.k, .int .i64 K.g, .int .i64 K.t, .int .i64 K.s, .slice aK K.b.length cK] 26) := HVK7.out.new hb8
    have HOK8 : Hid (OwnN w8 w4.heap.size (.agg #[.int .i64 K.k, .int .i64 K.g, .int .i64 K.t, .int .i64 K.s, .slice aK K.b.length cK]) K) := HOK7.out.below hb8
    have HB8 : Hid (Below w.heap.size w w8) := HB7.out.trans (hb8.mono HB7.out.size)
    clear hb8 HVK7 HOK7 HB7 HVN7 HON7 HVM7 HOM7 HSS HMN
    cases q with
    | false =>
      have hbz := HB8.out
      go_wp2
      go_ret
      exact ⟨rfl, hbz⟩
    | true =>
      obtain ⟨hk1, hk2⟩ := HTS.out rfl
      have HNT : Hid (∀ v W, RdN W v K → Calls Tryd.prog 8 #[v] W fun e w' => e = .returned (.string s) ∧ Below W.heap.size W w') := by
        intro v W h
        have := implNodeText v K W (by have := HK5.out; omega) h
        rwa [hk1] at this
      have HNO : Hid (∀ v W, RdN W v K → Calls Tryd.prog 13 #[v] W fun e w' => e = .returned (.bool true) ∧ Below W.heap.size W w') := by
        intro v W h
        have := implNodeOk v K W (by have := HK5.out; omega) h
        rwa [hk2] at this
      clear hk1 hk2 HTS HSO
      have yK0 := HVK8.out.cell 0
      have yK1 := HVK8.out.cell 1
      have yK2 := HVK8.out.cell 2
      have yK3 := HVK8.out.cell 3
      have yK4 := HVK8.out.cell 4
      simp at yK0 yK1 yK2 yK3 yK4
      go_wp2_with fail
      refine (HNT.out _ _ HOK8.out.rd).mono ?_
      rintro e w9 ⟨rfl, hb9⟩
      clear yK0 yK1 yK2 yK3 yK4
      have hVK9 := HVK8.out.new hb9
      have hOK9 := HOK8.out.below hb9
      have hB9 : Below w.heap.size w w9 := HB8.out.trans (hb9.mono HB8.out.size)
      have yK0 := hVK9.cell 0
      have yK1 := hVK9.cell 1
      have yK2 := hVK9.cell 2
      have yK3 := hVK9.cell 3
      have yK4 := hVK9.cell 4
      simp at yK0 yK1 yK2 yK3 yK4
      go_wp2_with fail
      refine (HNO.out _ _ hOK9.rd).mono ?_
      rintro e w10 ⟨rfl, hb10⟩
      have hB10 : Below w.heap.size w w10 := hB9.trans (hb10.mono hB9.size)
      clear hb9 hb10 hVK9 hOK9 hB9 yK0 yK1 yK2 yK3 yK4
      go_wp2
      go_ret
      exact ⟨rfl, hB10⟩

set_option maxRecDepth 100000 in
theorem lifted (os : Os) (started : os.Started) (H : Type) (enc : TypeId × Value → H) :
    ReturnsInHanded {} Tryd.checked os 3 .any (fun w args => (Rows.fnNodesSpec.pre enc Tryd.prog Tryd.f3 Rows.fnNodesRow.domain false w args ∧ laidMetH Tryd.prog Rows.fnNodesRow.laid w) ∧ sizedMet enc Tryd.prog Tryd.f3 (OpenSpec.ofChange Rows.fnNodesSpec) false w args) (Rows.fnNodesSpec.post enc Tryd.prog Tryd.f3 false true false false) := by
  refine returnsInHanded_of_change_and (C := Tryd.checked) (X := fun w _ => laidMetH Tryd.prog Rows.fnNodesRow.laid w) (fun _ _ _ hh h => h.of_heap hh) own started (by kernel_rfl) Tryd.func3
    (ChangeSpec.witness_shaped (enc := enc) (C := Tryd.checked) (os := os) (X := fun w _ => laidMetH Tryd.prog Rows.fnNodesRow.laid w) false (World.doorLaid Tryd.prog 28 os) #[.slice none 0 0] 8 rfl (World.shaped_of_RefB (by kernel_rfl) (by kernel_rfl)) (by kernel_rfl) (by kernel_rfl) (by kernel_rfl) (door_met os _)) ?_
  intro W base args ds gs before hval0 hW _ _ hL _
  have hval : ∀ (j : Nat) t v, Tryd.f3.params[j]? = some t → args[j]? = some v → Value.okWide Tryd.prog W .any base t v := hval0
  have hW' := hW
  obtain ⟨p, q, hA0, hV, rfl, hfz, hnd⟩ := hW
  have hA : DataW.TrodAll enc Tryd.prog W 0 (fun _ => true) true Tryd.f3.params.toList args.toList ds p := hA0
  rw [Tryd.params3] at hA hval
  obtain ⟨v0, vs0, d0, ds0, p0, q0, hargs, rfl, rfl, h0, rr0⟩ := trodAll_cons hA
  obtain ⟨rfl, rfl, rfl⟩ := trodAll_nil rr0
  obtain rfl : args = #[v0] := by cases args; simp_all
  have hV1 : DataW.TrodVars enc Tryd.prog W (fun _ => true) ["loop.example/g00483/impl.errNoNum"] gs q := hV
  obtain ⟨xv, hv0⟩ := errVar (Rows.fnNodesRow.laid) rfl hL
  obtain ⟨rfl, rfl⟩ := hV1.unique (vars_read1 enc gErr tErr Tryd.underlying59 hv0 trivial _)
  have k0 := h0
  have lt0 : ∀ x ∈ p0, x.block < W.heap.size := by obtain ⟨m, hm⟩ := k0; exact DataW.trod_lt m _ _ _ hm
  obtain ⟨a0, cap0, l0, rfl, u0, r0⟩ := open_Bytes (hval 0 22 v0 rfl rfl) h0
  clear hA0 hval0
  refine (walk a0 cap0 l0 u0 W r0 hL).mono fun e W' ⟨he, bel⟩ => ?_
  subst he
  exact ⟨_, rfl, _, _, _, [], _, [.cell errG 0], hW', trodAll_mk1 (shut_bool Tryd.underlying4 _), (trodAll_cons_mk (Below.trod laidOut (by kernel_rfl) (of_decide_eq_true (by kernel_rfl)) k0 bel lt0) trodAll_mk0), vars_read1 enc gErr tErr Tryd.underlying59 (Joins.var_stays gErr hv0 bel (Nat.le_refl _)) trivial _, bel.frame _, fun h => by cases h⟩

theorem over : Rows.fnNodesRow.holds Tryd.pinned (OpenSpec.ofChange Rows.fnNodesSpec) :=
  OpenClaim.holds_of_wide 3 Tryd.f3 rfl rfl rfl rfl rfl rfl rfl ⟨rfl, rfl, rfl, rfl, rfl⟩ rfl rfl rfl rfl rfl (by kernel_rfl) Tryd.func3 (by kernel_rfl)
    (of_decide_eq_true (by kernel_rfl)) (by unfold Func.isWrapper; first | (rw [if_pos (by decide +kernel)]; kernel_rfl) | (rw [if_neg (by decide +kernel)]; exact ⟨rfl, rfl⟩))
    (fun os started H enc _ => lifted os started H enc)

theorem plain (f : FuncId) (fn : Func) (hf : Tryd.pinned.checked.prog.funcNamed "loop.example/g00483/laws.FnNodes" = some f) (hfn : Tryd.pinned.checked.prog.funcs[f]? = some fn) :
    false = Tryd.pinned.checked.prog.looks [] ∧ ∀ (j : Nat) t, fn.params[j]? = some t → Tryd.pinned.checked.prog.wantsStandIn t = false := by
  obtain rfl : f = 3 := Option.some.inj ((show Tryd.prog.funcNamed "loop.example/g00483/laws.FnNodes" = some 3 by kernel_rfl).symm.trans hf) |>.symm
  obtain rfl : fn = Tryd.f3 := (Option.some.inj (Tryd.func3.symm.trans hfn)).symm
  refine ⟨by kernel_rfl, fun j t ht => ?_⟩
  rw [Tryd.params3] at ht
  have hm : t ∈ [22] := by simpa using Array.mem_of_getElem? ht
  have hall : ([22].all fun u => !Tryd.prog.wantsStandIn u) = true := by kernel_rfl
  exact (show Tryd.prog.wantsStandIn t = false by simpa using List.all_eq_true.1 hall t hm)

theorem card : Rows.FnNodesCardSaid :=
  Claim7.holds_tied_plain_at .later [] _ _ _ _ over (fun _ h => by cases h) (by kernel_rfl) (fun _ h => by cases h) fnNodes_row_tie rfl ⟨rfl, rfl⟩ (by kernel_rfl) rfl plain (by kernel_rfl)
#print axioms card
end Go.Proofs.YtgndkdoefmjdhaaDoor.fnNodes
