/-
  For every slice of bytes and every place the law FnExactGetText returns true, and what came in reads behind the call as it read before; the program's error variable holds what the program's text lays.
-/
import Derived.Test.YtgibihacbhjlnaaDoorGetTextW
import Derived.Test.YtgibihacbhjlnaaDoorSpecTextW
import Derived.Test.YtgibihacbhjlnaaDoorBytesW
import Derived.Test.YtgibihacbhjlnaaDoorCards
import Derived.Test.YtgibihacbhjlnaaDoorTie
import Derived.LaidMore
import Derived.Stop.Joined
import Derived.Stop.LaidErr
import Derived.Lib.LaidTab
import Derived.Lib.SmallJoins
import Derived.SevenTiedAt
import Derived.WalkKit
import Derived.ProofKit
import Derived.OpenShut
import Derived.ShutString
import Derived.ChangeOld
import Derived.Below
namespace Go.Proofs.YtgibihacbhjlnaaDoor.fnExactGetText
open Go.ChangeShapes Go.WideShapes Go.ChangeAt Go.RowKit
open Go.ChangeMaps (open_string shut_string)
set_option linter.unusedVariables false

theorem own : ownKnob Tryd.prog.godebug = none := by kernel_rfl
theorem door_met (os : Os) (args : Array Value) : laidMetH Tryd.prog Rows.fnExactGetTextRow.laid ((World.doorLaid Tryd.prog 81 os).forCall (fun _ _ => 0) ⟨#[], args, []⟩).memory :=
  laidMetH_of_parts3 (fuel := 8) (laidMet_of_run' 8 (by kernel_rfl) (by kernel_rfl)) (by kernel_rfl) (by kernel_rfl)
theorem laidOut : laidOutB Tryd.prog = true := by kernel_rfl

/-- What is known of a slice that came in. -/
def IsRow (k : IntKind) (w : World) (a : Option Addr) (len cap : Nat) (zs : List Int) : Prop :=
  (a = none ∧ len = 0 ∧ cap = 0 ∧ zs = []) ∨
  ∃ x, a = some x ∧ len ≤ cap ∧ cap ≤ maxLen ∧ zs.length = cap ∧ (∀ i, i < zs.length → w.cell? (x.add i) = some (.int k (zs.getD i 0))) ∧ ∀ n ∈ zs, (Lit.int k n).wf = true

set_option maxRecDepth 20000 in
set_option maxHeartbeats 1000000 in
theorem walk (a0 : Option Addr) (len0 cap0 : Nat) (z0 : List Int) (a1 : Int) (w : World) (w0 : IsRow .u8 w a0 len0 cap0 z0) (w1 : (Lit.int .i64 a1).wf = true) (hL : laidMetH Tryd.prog Rows.fnExactGetTextRow.laid w) :
    Calls Tryd.prog 7 #[.slice a0 len0 cap0, .int .i64 a1] w fun e w' => e = .returned (.bool true) ∧ Below w.heap.size w w' := by
  obtain ⟨a, hv⟩ := errVar (Rows.fnExactGetTextRow.laid) rfl hL
  have hgc : w.cell? ⟨errG, 0, none⟩ = some (.iface 91 (.pointer (some a))) := by simpa using World.var?_cell gErr hv 0
  have hgl : errG < w.heap.size := World.block_lt_of_cell? w _ hgc
  have HG : Hid (w.cell? ⟨errG, 0, none⟩ = some (.iface 91 (.pointer (some a)))) := hgc
  have ha1 := bounds_i64 w1
  clear hL hv hgc w1
  obtain ⟨l, rfl, hu, hr⟩ := rd_of_row w0
  by_cases hbig : 1048576 < l.length
  · go_enter Tryd.func7, Tryd.ntmps7
    go_wp2
    go_ret
    exact ⟨rfl, Below.refl _ _⟩
  have hl : l.length ≤ 1048576 := by omega
  have HR : Hid (Rd .u8 w a0 l) := hr
  have HU : Hid (U8 l) := hu
  clear hr hu w0
  go_enter Tryd.func7, Tryd.ntmps7
  go_wp2_with fail
  refine (toB _ _ l _ hl (by exact HR.out)).mono ?_
  rintro e x1 ⟨g1, rfl, hg1, hr1, hb1⟩
  go_wp2_with fail
  refine (specGetText _ _ l a1 _ (by omega) HU.out (Nat.le_refl _) (by exact hr1) ha1.2).mono ?_
  rintro e x2 ⟨hspec, rfl⟩
  have HSP : Hid ((∃ s fin, GoodT l a1 s fin ∧ e = .returned (.tuple #[.string s, .int .i64 (fin : Nat), .bool true])) ∨ ((∀ s fin, ¬ GoodT l a1 s fin) ∧ e = .returned (.tuple #[.string ⟨#[]⟩, .int .i64 0, .bool false]))) := hspec
  clear hspec
  obtain ⟨s, fin, ok, rfl, HR2⟩ : ∃ (s : ByteArray) (fin : Nat) (ok : Bool), e = .returned (.tuple #[.string s, .int .i64 (fin : Nat), .bool ok]) ∧ Hid ((ok = true ∧ GoodT l a1 s fin) ∨ (ok = false ∧ s = ⟨#[]⟩ ∧ fin = 0 ∧ ∀ s fin, ¬ GoodT l a1 s fin)) := by
    rcases HSP.out with ⟨s, fin, h, rfl⟩ | ⟨h, rfl⟩
    · exact ⟨s, fin, true, rfl, .inl ⟨rfl, h⟩⟩
    · exact ⟨⟨#[]⟩, 0, false, rfl, .inr ⟨rfl, rfl, rfl, h⟩⟩
  clear HSP
  go_wp2_with fail
  refine (toB _ _ l _ hl (by exact HR.out.below hb1 (Nat.le_refl _))).mono ?_
  rintro e x3 ⟨g3, rfl, hg3, hr3, hb3⟩
  have hb13 := hb1.trans (hb3.mono hb1.size)
  go_wp2_with fail
  refine (implGetText _ _ l a1 a _ ⟨by omega, HU.out, Nat.le_refl _, by unfold maxLen; omega, hr3⟩ (by have := hb13.size; omega) (by rw [hb13.cell (by exact hgl)]; exact HG.out)).mono ?_
  rintro e x4 ⟨himp, hb4⟩
  obtain rfl : e = .returned (.tuple #[.string s, .int .i64 (fin : Nat), .bool ok]) := by
    rcases HR2.out with ⟨rfl, h1⟩ | ⟨rfl, rfl, rfl, h1⟩
    · rcases himp with ⟨n2, next2, h2, rfl⟩ | ⟨h2, _⟩
      · obtain ⟨rfl, rfl⟩ := h1.unique h2; rfl
      · exact absurd h1 (h2 _ _)
    · rcases himp with ⟨n2, next2, h2, _⟩ | ⟨_, rfl⟩
      · exact absurd h2 (h1 _ _)
      · rfl
  clear himp HR2
  have hb14 := hb13.trans (hb4.mono hb13.size)
  have hr34 := hr3.below hb4 (Nat.le_refl _)
  go_wp2_with fail
  refine (toB _ _ l _ hl (by exact HR.out.below hb14 (Nat.le_refl _))).mono ?_
  rintro e x5 ⟨g5, rfl, hg5, hr5, hb5⟩
  go_wp2_with fail
  refine (eqB _ _ _ _ l _ (by omega) HU.out (by exact hr34.below hb5 (Nat.le_refl _)) (by exact hr5)).mono ?_
  rintro e x6 ⟨rfl, hb6⟩
  have hb15 := hb14.trans (hb5.mono hb14.size)
  have hb16 := hb15.trans (hb6.mono hb15.size)
  go_wp2
  go_ret
  exact ⟨rfl, hb16⟩

set_option maxRecDepth 100000 in
theorem lifted (os : Os) (started : os.Started) (H : Type) (enc : TypeId × Value → H) :
    ReturnsInHanded {} Tryd.checked os 7 .any (fun w args => (Rows.fnExactGetTextSpec.pre enc Tryd.prog Tryd.f7 Rows.fnExactGetTextRow.domain false w args ∧ laidMetH Tryd.prog Rows.fnExactGetTextRow.laid w) ∧ sizedMet enc Tryd.prog Tryd.f7 (OpenSpec.ofChange Rows.fnExactGetTextSpec) false w args) (Rows.fnExactGetTextSpec.post enc Tryd.prog Tryd.f7 false true false false) := by
  refine returnsInHanded_of_change_and (C := Tryd.checked) (X := fun w _ => laidMetH Tryd.prog Rows.fnExactGetTextRow.laid w) (fun _ _ _ hh h => h.of_heap hh) own started (by kernel_rfl) Tryd.func7
    (ChangeSpec.witness_shaped (enc := enc) (C := Tryd.checked) (os := os) (X := fun w _ => laidMetH Tryd.prog Rows.fnExactGetTextRow.laid w) false (World.doorLaid Tryd.prog 81 os) #[.slice none 0 0, .int .i64 0] 8 rfl (World.shaped_of_RefB (by kernel_rfl) (by kernel_rfl)) (by kernel_rfl) (by kernel_rfl) (by kernel_rfl) (door_met os _)) ?_
  intro W base args ds gs before hval0 hW _ _ hL _
  have hval : ∀ (j : Nat) t v, Tryd.f7.params[j]? = some t → args[j]? = some v → Value.okWide Tryd.prog W .any base t v := hval0
  have hW' := hW
  obtain ⟨p, q, hA0, hV, rfl, hfz, hnd⟩ := hW
  have hA : DataW.TrodAll enc Tryd.prog W 0 (fun _ => true) true Tryd.f7.params.toList args.toList ds p := hA0
  rw [Tryd.params7] at hA hval
  obtain ⟨v0, vs0, d0, ds0, p0, q0, hargs, rfl, rfl, h0, r0⟩ := trodAll_cons hA
  obtain ⟨v1, vs1, d1, ds1, p1, q1, rfl, rfl, rfl, h1, r1⟩ := trodAll_cons r0
  obtain ⟨rfl, rfl, rfl⟩ := trodAll_nil r1
  obtain rfl : args = #[v0, v1] := by cases args; simp_all
  have hV1 : DataW.TrodVars enc Tryd.prog W (fun _ => true) ["loop.example/g00483/impl.errNoNum"] gs q := hV
  obtain ⟨xv, hv0⟩ := errVar (Rows.fnExactGetTextRow.laid) rfl hL
  obtain ⟨rfl, rfl⟩ := hV1.unique (vars_read1 enc gErr tErr Tryd.underlying59 hv0 trivial _)
  obtain ⟨a0, len0, cap0, rfl⟩ := okWide_slice Tryd.underlying22 (hval 0 22 v0 rfl rfl)
  have k0 := h0
  have lt0 : ∀ x ∈ p0, x.block < W.heap.size := by obtain ⟨m, hm⟩ := k0; exact DataW.trod_lt m _ _ _ hm
  obtain ⟨z0, w0⟩ : ∃ zs, IsRow .u8 W a0 len0 cap0 zs := by
    obtain ⟨fuel, hf⟩ := h0
    rcases open_ints Tryd.underlying22 Tryd.underlying5 (by kernel_rfl) hf with ⟨hcs, _⟩ | ⟨x, l, c, zs, hcs, _, hl, hm, hz, _, hcell, hwz⟩
    · simp [Value.cells] at hcs
      obtain ⟨rfl, rfl, rfl⟩ := hcs
      exact ⟨[], .inl ⟨rfl, rfl, rfl, rfl⟩⟩
    · simp [Value.cells] at hcs
      obtain ⟨rfl, rfl, rfl⟩ := hcs
      exact ⟨zs, .inr ⟨_, rfl, hl, hm, by simpa using hz, hcell, hwz⟩⟩
  obtain ⟨a1, rfl, rfl, rfl, w1⟩ := open_int Tryd.underlying3 (hval 1 3 v1 rfl rfl) h1
  clear hA0 hval0
  refine (walk a0 len0 cap0 z0 a1 W w0 w1 hL).mono fun e W' ⟨he, bel⟩ => ?_
  subst he
  exact ⟨_, rfl, _, _, _, [], _, [.cell errG 0], hW', trodAll_mk1 (shut_bool Tryd.underlying4 _), (trodAll_cons_mk (Below.trod laidOut (by kernel_rfl) (of_decide_eq_true (by kernel_rfl)) k0 bel lt0) (trodAll_cons_mk (shut_int Tryd.underlying3 w1) trodAll_mk0)), vars_read1 enc gErr tErr Tryd.underlying59 (Joins.var_stays gErr hv0 bel (Nat.le_refl _)) trivial _, bel.frame _, fun h => by cases h⟩

theorem over : Rows.fnExactGetTextRow.holds Tryd.pinned (OpenSpec.ofChange Rows.fnExactGetTextSpec) :=
  OpenClaim.holds_of_wide 7 Tryd.f7 rfl rfl rfl rfl rfl rfl rfl ⟨rfl, rfl, rfl, rfl, rfl⟩ rfl rfl rfl rfl rfl (by kernel_rfl) Tryd.func7 (by kernel_rfl)
    (of_decide_eq_true (by kernel_rfl)) (by unfold Func.isWrapper; first | (rw [if_pos (by decide +kernel)]; kernel_rfl) | (rw [if_neg (by decide +kernel)]; exact ⟨rfl, rfl⟩))
    (fun os started H enc _ => lifted os started H enc)

theorem plain (f : FuncId) (fn : Func) (hf : Tryd.pinned.checked.prog.funcNamed "loop.example/g00483/laws.FnExactGetText" = some f) (hfn : Tryd.pinned.checked.prog.funcs[f]? = some fn) :
    true = Tryd.pinned.checked.prog.looks [] ∧ ∀ (j : Nat) t, fn.params[j]? = some t → Tryd.pinned.checked.prog.wantsStandIn t = false := by
  obtain rfl : f = 7 := Option.some.inj ((show Tryd.prog.funcNamed "loop.example/g00483/laws.FnExactGetText" = some 7 by kernel_rfl).symm.trans hf) |>.symm
  obtain rfl : fn = Tryd.f7 := (Option.some.inj (Tryd.func7.symm.trans hfn)).symm
  refine ⟨by kernel_rfl, fun j t ht => ?_⟩
  rw [Tryd.params7] at ht
  have hm : t ∈ [22, 3] := by simpa using Array.mem_of_getElem? ht
  have hall : ([22, 3].all fun u => !Tryd.prog.wantsStandIn u) = true := by kernel_rfl
  exact (show Tryd.prog.wantsStandIn t = false by simpa using List.all_eq_true.1 hall t hm)

theorem card : Rows.FnExactGetTextCardSaid :=
  Claim7.holds_tied_plain_at .later [] _ _ _ _ over (fun _ h => by cases h) (by kernel_rfl) (fun _ h => by cases h) fnExactGetText_row_tie rfl ⟨rfl, rfl⟩ (by kernel_rfl) rfl plain (by kernel_rfl)
#print axioms card
end Go.Proofs.YtgibihacbhjlnaaDoor.fnExactGetText
