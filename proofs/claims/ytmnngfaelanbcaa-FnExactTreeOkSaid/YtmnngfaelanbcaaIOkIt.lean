/-
  Own text: an item that is right by itself.
-/
import Derived.Test.YtmnngfaelanbcaaITreeGW
import Derived.Test.YtmnngfaelanbcaaIToldW
import Derived.Test.YtmnngfaelanbcaaAboveW
namespace Go.Proofs.Ytmnngfaelanbcaa
open Go.RowKit

theorem upToI (x hi : Int) (w : World) :
    Calls Try.prog 56 #[.int .i64 x, .int .i64 hi] w fun e w' => e = .returned (.bool (decide (0 ≤ x) && decide (x ≤ hi))) ∧ w' = w := by
  by_cases h1 : 0 ≤ x <;> by_cases h2 : x ≤ hi
  all_goals
    go_enter Try.func56, Try.ntmps56
    go_wp2
    go_ret
    exact ⟨by simp [h1, h2], rfl⟩
theorem usedKI (kind : Int) (w : World) : Calls Try.prog 55 #[.int .i64 kind] w fun e w' => e = .returned (.bool (decide (1 ≤ kind) && decide (kind ≤ 3))) ∧ w' = w := by
  have hk : kind = 1 ∨ kind = 2 ∨ kind = 3 ∨ (¬ kind = 1 ∧ ¬ kind = 2 ∧ ¬ kind = 3) := by omega
  rcases hk with rfl | rfl | rfl | ⟨h1, h2, h3⟩
  · go_enter Try.func55, Try.ntmps55
    go_wp2
    go_ret
    exact ⟨rfl, rfl⟩
  · go_enter Try.func55, Try.ntmps55
    go_wp2
    go_ret
    exact ⟨rfl, rfl⟩
  · go_enter Try.func55, Try.ntmps55
    go_wp2
    go_ret
    exact ⟨rfl, rfl⟩
  · have HQ : Hid ((decide (1 ≤ kind) && decide (kind ≤ 3)) = false) := by
      show _ = _
      rw [Bool.and_eq_false_iff]
      by_cases h : 1 ≤ kind
      · right; exact decide_eq_false (by omega)
      · left; exact decide_eq_false h
    have e1 : (kind == 1) = false := by simpa using h1
    have e2 : (kind == 2) = false := by simpa using h2
    have e3 : (kind == 3) = false := by simpa using h3
    go_enter Try.func55, Try.ntmps55
    go_wp2
    go_ret
    exact ⟨by rw [HQ.out]; rfl, rfl⟩

/-- An item that is right by itself. -/
def itOk (x : ItD) : Bool := !(decide (x.k = 2) && (!decide (x.d = ⟨#[]⟩) || !decide (x.t = 0))) && (ptOk (bt x.p) && ((decide (1 ≤ x.k) && decide (x.k ≤ 3)) && (decide (x.d.size ≤ 80) && (decide (0 ≤ x.t) && decide (x.t ≤ 100000)))))

set_option maxHeartbeats 1000000 in
set_option maxRecDepth 20000 in
theorem implItOk (b o : Nat) (x : ItD) (w : World) (hp : x.p.size ≤ 1048576) (hd : x.d.size ≤ 1048576) (hb : b < w.heap.size) (hc : ItAt w b o x) :
    Calls Try.prog 46 #[.pointer (some ⟨b, o, none⟩)] w fun e w' => e = .returned (.bool (itOk x)) ∧ Below w.heap.size w w' := by
  obtain ⟨c0, c1, c2, c3⟩ := hc
  have HE : Hid (itOk x = (!(decide (x.k = 2) && (!decide (x.d = ⟨#[]⟩) || !decide (x.t = 0))) && (ptOk (bt x.p) && ((decide (1 ≤ x.k) && decide (x.k ≤ 3)) && (decide (x.d.size ≤ 80) && (decide (0 ≤ x.t) && decide (x.t ≤ 100000))))))) := rfl
  have HP : Hid (∀ W, Calls Try.prog 51 #[.string x.p] W fun e w' => e = .returned (.bool (ptOk (bt x.p))) ∧ Below W.heap.size W w') := fun W => implPath x.p W (by omega)
  have HU : Hid (∀ W, Calls Try.prog 55 #[.int .i64 x.k] W fun e w' => e = .returned (.bool (decide (1 ≤ x.k) && decide (x.k ≤ 3))) ∧ w' = W) := fun W => usedKI x.k W
  have HT : Hid (∀ W, Calls Try.prog 56 #[.int .i64 x.t, .int .i64 100000] W fun e w' => e = .returned (.bool (decide (0 ≤ x.t) && decide (x.t ≤ 100000))) ∧ w' = W) := fun W => upToI x.t 100000 W
  obtain ⟨xp, xk, xd, xt⟩ := x
  simp only at c0 c1 c2 c3 hp hd HE HP HU HT
  generalize hq1 : ptOk (bt xp) = q1 at HE HP
  generalize hq2 : (decide (1 ≤ xk) && decide (xk ≤ 3)) = q2 at HE HU
  generalize hq4 : (decide (0 ≤ xt) && decide (xt ≤ 100000)) = q4 at HE HT
  clear hp hd hq1
  by_cases hk : xk = 2
  · subst hk
    have hq2' : q2 = true := by rw [← hq2]; rfl
    subst hq2'
    clear hq2
    by_cases hd : xd = ⟨#[]⟩
    · subst hd
      by_cases ht : xt = 0
      · subst ht
        have hq4' : q4 = true := by rw [← hq4]; rfl
        subst hq4'
        clear hq4
        have HF : Hid (itOk ⟨xp, 2, ⟨#[]⟩, 0⟩ = q1) := by show _ = _; rw [HE.out]; cases q1 <;> rfl
        clear HE
        cases q1
        · go_enter Try.func46, Try.ntmps46
          go_wp2_with (first
    | (go_at_call 51; refine (HP.out _).mono ?_; rintro e w1 ⟨rfl, hb1⟩; have d1 := (hb1.cell (p := ⟨b, o + 1, none⟩) hb).trans c1; have d2 := (hb1.cell (p := ⟨b, o + 2, none⟩) hb).trans c2; have d3 := (hb1.cell (p := ⟨b, o + 3, none⟩) hb).trans c3)
    | (go_at_call 55; refine (HU.out _).mono ?_; rintro e w2 ⟨rfl, rfl⟩)
    | (go_at_call 56; refine (HT.out _).mono ?_; rintro e w3 ⟨rfl, rfl⟩))
          go_ret
          exact ⟨congrArg (fun q => Ending.returned (.bool q)) (HF.out.symm), hb1⟩
        · go_enter Try.func46, Try.ntmps46
          go_wp2_with (first
    | (go_at_call 51; refine (HP.out _).mono ?_; rintro e w1 ⟨rfl, hb1⟩; have d1 := (hb1.cell (p := ⟨b, o + 1, none⟩) hb).trans c1; have d2 := (hb1.cell (p := ⟨b, o + 2, none⟩) hb).trans c2; have d3 := (hb1.cell (p := ⟨b, o + 3, none⟩) hb).trans c3)
    | (go_at_call 55; refine (HU.out _).mono ?_; rintro e w2 ⟨rfl, rfl⟩)
    | (go_at_call 56; refine (HT.out _).mono ?_; rintro e w3 ⟨rfl, rfl⟩))
          go_ret
          exact ⟨congrArg (fun q => Ending.returned (.bool q)) (HF.out.symm), hb1⟩
      · have hx : (xt != 0) = true := by simpa using ht
        have HF : Hid (itOk ⟨xp, 2, ⟨#[]⟩, xt⟩ = false) := by show _ = _; rw [HE.out, decide_eq_false ht]; rfl
        clear HE hq4
        go_enter Try.func46, Try.ntmps46
        go_wp2_with (first
    | (go_at_call 51; refine (HP.out _).mono ?_; rintro e w1 ⟨rfl, hb1⟩; have d1 := (hb1.cell (p := ⟨b, o + 1, none⟩) hb).trans c1; have d2 := (hb1.cell (p := ⟨b, o + 2, none⟩) hb).trans c2; have d3 := (hb1.cell (p := ⟨b, o + 3, none⟩) hb).trans c3)
    | (go_at_call 55; refine (HU.out _).mono ?_; rintro e w2 ⟨rfl, rfl⟩)
    | (go_at_call 56; refine (HT.out _).mono ?_; rintro e w3 ⟨rfl, rfl⟩))
        go_ret
        exact ⟨congrArg (fun q => Ending.returned (.bool q)) (HF.out.symm), Below.refl _ _⟩
    · have hx : ¬ xd.toList = [] := by
        intro e
        rw [ByteArray.toList_eq] at e
        exact hd (Go.WideShapes.bytes_inj (b := ⟨#[]⟩) e)
      have hx2 : (xd.toList == []) = false := by simpa using hx
      have HF : Hid (itOk ⟨xp, 2, xd, xt⟩ = false) := by show _ = _; rw [HE.out, decide_eq_false hd]; rfl
      clear HE hq4
      go_enter Try.func46, Try.ntmps46
      go_wp2_with (first
    | (go_at_call 51; refine (HP.out _).mono ?_; rintro e w1 ⟨rfl, hb1⟩; have d1 := (hb1.cell (p := ⟨b, o + 1, none⟩) hb).trans c1; have d2 := (hb1.cell (p := ⟨b, o + 2, none⟩) hb).trans c2; have d3 := (hb1.cell (p := ⟨b, o + 3, none⟩) hb).trans c3)
    | (go_at_call 55; refine (HU.out _).mono ?_; rintro e w2 ⟨rfl, rfl⟩)
    | (go_at_call 56; refine (HT.out _).mono ?_; rintro e w3 ⟨rfl, rfl⟩))
      go_ret
      exact ⟨congrArg (fun q => Ending.returned (.bool q)) (HF.out.symm), Below.refl _ _⟩
  · have hx : (xk == 2) = false := by simpa using hk
    have HF : Hid (itOk ⟨xp, xk, xd, xt⟩ = (q1 && (q2 && (decide (xd.size ≤ 80) && q4)))) := by show _ = _; rw [HE.out, decide_eq_false hk]; rfl
    clear HE hq4 hq2
    cases q1
    · go_enter Try.func46, Try.ntmps46
      go_wp2_with (first
    | (go_at_call 51; refine (HP.out _).mono ?_; rintro e w1 ⟨rfl, hb1⟩; have d1 := (hb1.cell (p := ⟨b, o + 1, none⟩) hb).trans c1; have d2 := (hb1.cell (p := ⟨b, o + 2, none⟩) hb).trans c2; have d3 := (hb1.cell (p := ⟨b, o + 3, none⟩) hb).trans c3)
    | (go_at_call 55; refine (HU.out _).mono ?_; rintro e w2 ⟨rfl, rfl⟩)
    | (go_at_call 56; refine (HT.out _).mono ?_; rintro e w3 ⟨rfl, rfl⟩))
      go_ret
      exact ⟨congrArg (fun q => Ending.returned (.bool q)) (HF.out.symm), hb1⟩
    · cases q2
      · go_enter Try.func46, Try.ntmps46
        go_wp2_with (first
    | (go_at_call 51; refine (HP.out _).mono ?_; rintro e w1 ⟨rfl, hb1⟩; have d1 := (hb1.cell (p := ⟨b, o + 1, none⟩) hb).trans c1; have d2 := (hb1.cell (p := ⟨b, o + 2, none⟩) hb).trans c2; have d3 := (hb1.cell (p := ⟨b, o + 3, none⟩) hb).trans c3)
    | (go_at_call 55; refine (HU.out _).mono ?_; rintro e w2 ⟨rfl, rfl⟩)
    | (go_at_call 56; refine (HT.out _).mono ?_; rintro e w3 ⟨rfl, rfl⟩))
        go_ret
        exact ⟨congrArg (fun q => Ending.returned (.bool q)) (HF.out.symm), hb1⟩
      · by_cases hs : xd.size ≤ 80
        · have hs2 : (xd.size : Int) ≤ 80 := by omega
          have HG : Hid (itOk ⟨xp, xk, xd, xt⟩ = q4) := by show _ = _; rw [HF.out, decide_eq_true hs]; rfl
          clear HF
          go_enter Try.func46, Try.ntmps46
          go_wp2_with (first
    | (go_at_call 51; refine (HP.out _).mono ?_; rintro e w1 ⟨rfl, hb1⟩; have d1 := (hb1.cell (p := ⟨b, o + 1, none⟩) hb).trans c1; have d2 := (hb1.cell (p := ⟨b, o + 2, none⟩) hb).trans c2; have d3 := (hb1.cell (p := ⟨b, o + 3, none⟩) hb).trans c3)
    | (go_at_call 55; refine (HU.out _).mono ?_; rintro e w2 ⟨rfl, rfl⟩)
    | (go_at_call 56; refine (HT.out _).mono ?_; rintro e w3 ⟨rfl, rfl⟩))
          go_ret
          exact ⟨congrArg (fun q => Ending.returned (.bool q)) (HG.out.symm), hb1⟩
        · have hs2 : ¬ (xd.size : Int) ≤ 80 := by omega
          have HG : Hid (itOk ⟨xp, xk, xd, xt⟩ = false) := by show _ = _; rw [HF.out, decide_eq_false hs]; rfl
          clear HF
          go_enter Try.func46, Try.ntmps46
          go_wp2_with (first
    | (go_at_call 51; refine (HP.out _).mono ?_; rintro e w1 ⟨rfl, hb1⟩; have d1 := (hb1.cell (p := ⟨b, o + 1, none⟩) hb).trans c1; have d2 := (hb1.cell (p := ⟨b, o + 2, none⟩) hb).trans c2; have d3 := (hb1.cell (p := ⟨b, o + 3, none⟩) hb).trans c3)
    | (go_at_call 55; refine (HU.out _).mono ?_; rintro e w2 ⟨rfl, rfl⟩)
    | (go_at_call 56; refine (HT.out _).mono ?_; rintro e w3 ⟨rfl, rfl⟩))
          go_ret
          exact ⟨congrArg (fun q => Ending.returned (.bool q)) (HG.out.symm), hb1⟩
end Go.Proofs.Ytmnngfaelanbcaa
