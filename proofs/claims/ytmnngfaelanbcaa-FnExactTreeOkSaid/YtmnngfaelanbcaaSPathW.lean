/-
  Own text: whether a text is a path: the other way, part by part.
-/
import Derived.Test.YtmnngfaelanbcaaPathW
import Derived.Test.YtmnngfaelanbcaaPathBase
namespace Go.Proofs.Ytmnngfaelanbcaa
open Go.RowKit

theorem tails_len {L : List ByteArray} (h : ¬ (2 ≤ L.length ∧ L.length ≤ 5)) : tailsOk (L.map bt) = false := by
  rw [Bool.eq_false_iff]
  intro ht
  obtain ⟨r, e, h1, h2, _⟩ := tailsOk_iff.1 ht
  have := congrArg List.length e
  simp at this
  omega
theorem tails_head {L : List ByteArray} (h0 : 0 < L.length) (h : ¬ bt L[0] = []) : tailsOk (L.map bt) = false := by
  rw [Bool.eq_false_iff]
  intro ht
  obtain ⟨r, e, _⟩ := tailsOk_iff.1 ht
  cases L with
  | nil => simp at h0
  | cons x L => simp at e h; exact h e.1
theorem tails_bad {L : List ByteArray} {k : Nat} (hk : k < L.length) (h1 : 1 ≤ k) (h : nmOk (bt L[k]) = false) : tailsOk (L.map bt) = false := by
  rw [Bool.eq_false_iff]
  intro ht
  obtain ⟨r, e, _, _, ha⟩ := tailsOk_iff.1 ht
  cases L with
  | nil => simp at hk
  | cons x L =>
    simp at e
    obtain ⟨j, rfl⟩ : ∃ j, k = j + 1 := ⟨k - 1, by omega⟩
    simp at hk h
    rw [List.all_eq_true] at ha
    have := ha (bt L[j]) (by rw [← e.2]; exact List.mem_map_of_mem (List.getElem_mem hk))
    rw [h] at this
    cases this
theorem tails_all {L : List ByteArray} (h2 : 2 ≤ L.length) (h5 : L.length ≤ 5) (h0 : bt L[0] = []) (h : ∀ j (hj : j < L.length), 1 ≤ j → nmOk (bt L[j]) = true) : tailsOk (L.map bt) = true := by
  cases L with
  | nil => simp at h2
  | cons x L =>
    simp at h2 h5 h0
    refine tailsOk_iff.2 ⟨L.map bt, by simp [h0], by simp; omega, by simp; omega, ?_⟩
    rw [List.all_eq_true]
    intro y hy
    obtain ⟨z, hz, rfl⟩ := List.mem_map.1 hy
    obtain ⟨j, hj, rfl⟩ := List.mem_iff_getElem.1 hz
    have := h (j + 1) (by simp; omega) (by omega)
    simpa using this

/-- The cell of a row that can be read. -/
theorem RdS.cellS {w : World} {a : Option Addr} {l : List ByteArray} (h : RdS w a l) (k : Nat) (hk : k < l.length) : ∃ b off, a = some ⟨b, off, none⟩ ∧ b < w.heap.size ∧ w.cell? ⟨b, off + k, none⟩ = some (.string l[k]) := by
  rcases h with rfl | ⟨b, off, rfl, hlt, hc⟩
  · simp at hk
  · exact ⟨b, off, rfl, hlt, hc k hk⟩

set_option maxRecDepth 20000 in
set_option maxHeartbeats 1000000 in
theorem specPath (s : ByteArray) (w : World) (hs : s.size ≤ 4194304) :
    Calls Try.prog 24 #[.string s] w fun e w' => e = .returned (.bool (ptOk (bt s))) ∧ Below w.heap.size w w' := by
  by_cases hr : bt s = [47]
  · have hst : (s.toList == [47]) = true := lit_same hr
    have HE : Hid (ptOk (bt s) = true) := by show _ = _; rw [hr]; exact ptOk_root
    go_enter Try.func24, Try.ntmps24
    go_wp2
    go_ret
    exact ⟨by rw [HE.out]; rfl, Below.refl _ _⟩
  have hst : (s.toList == [47]) = false := lit_other hr
  have HE : Hid (ptOk (bt s) = tailsOk ((parts s 47).map bt)) := by show _ = _; rw [parts_cut]; simp [ptOk, hr]
  have hlen : (parts s 47).length ≤ 4194305 := by have := (pst_le s 47 (s.size + 1)).2; unfold parts; omega
  clear hr
  go_enter Try.func24, Try.ntmps24
  go_wp2_with fail
  refine (specParts s 47 _ hs).mono ?_
  rintro e w1 ⟨v1, rfl, ho1, hb1⟩
  obtain ⟨a, cap, rfl, _, hr1⟩ := own_rdS ho1
  have HC : Hid (∀ k (hk : k < (parts s 47).length), ∃ b off, a = some ⟨b, off, none⟩ ∧ b < w1.heap.size ∧ w1.cell? ⟨b, off + k, none⟩ = some (.string (parts s 47)[k])) := fun k hk => hr1.cellS k hk
  clear ho1 hr1
  generalize parts s 47 = L at *
  by_cases h25 : 2 ≤ L.length ∧ L.length ≤ 5
  · obtain ⟨h2, h5⟩ := h25
    have hin : (decide ((2 : Int) ≤ (L.length : Int)) && decide ((L.length : Int) ≤ 5)) = true := by simp; omega
    obtain ⟨b, off, rfl, hblt, hcell⟩ := HC.out 0 (by omega)
    have HT0 : Hid (¬ bt L[0] = [] → tailsOk (L.map bt) = false) := tails_head (by omega)
    have HTA : Hid (bt L[0] = [] → (∀ j (hj : j < L.length), 1 ≤ j → nmOk (bt L[j]) = true) → tailsOk (L.map bt) = true) := tails_all h2 h5
    have HTB : Hid (∀ k (hk : k < L.length), 1 ≤ k → nmOk (bt L[k]) = false → tailsOk (L.map bt) = false) := fun k hk h1 h => tails_bad hk h1 h
    have hcell' : w1.cell? ⟨b, off, none⟩ = some (.string L[0]) := hcell
    clear hcell
    generalize L[0] = x at *
    by_cases hx : bt x = []
    · have hxl : (x.toList == []) = true := lit_same hx
      go_wp2_with (go_at_call 25; refine (inW _ _ _ _).mono ?_; rintro e w2 ⟨rfl, hw1⟩; subst w2; rw [hin])
      go_loopw [4] (fun i wr => ∃ k : Nat, 1 ≤ k ∧ k ≤ L.length ∧ i = .int .i64 k ∧ wr = w1 ∧ Hid (∀ j (hj : j < L.length), 1 ≤ j → j < k → nmOk (bt L[j]) = true)) (fun i _ => L.length - (intOf i).toNat)
      case atStart => exact ⟨1, Nat.le_refl _, by omega, rfl, rfl, fun j hj h1 h2 => by omega⟩
      case round =>
        obtain ⟨k, hk1, hk, rfl, hwr, HA⟩ := hrel
        subst hwr
        by_cases hlt : k < L.length
        · obtain ⟨b', off', hbo, _, hck⟩ := HC.out k hlt
          simp at hbo
          obtain ⟨rfl, rfl⟩ := hbo
          have HB : Hid (nmOk (bt L[k]) = false → tailsOk (L.map bt) = false) := HTB.out k hlt hk1
          have HN : Hid (nmOk (bt L[k]) = true → ∀ j (hj : j < L.length), 1 ≤ j → j < k + 1 → nmOk (bt L[j]) = true) := by
            intro h j hj h1 h2
            by_cases e : j = k
            · subst e; exact h
            · exact HA.out j hj h1 (by omega)
          generalize L[k] = y at *
          cases hy : nmOk (bt y) with
          | true =>
            go_wp2_with (go_at_call 42; refine (specName _ _).mono ?_; rintro e w2 ⟨rfl, hw1⟩; subst w2; rw [hy])
            go_roundw
            case rel => exact ⟨k + 1, by omega, by omega, by go_num, by trivial, HN.out hy⟩
            case measure => simp [intOf]; omega
          | false =>
            go_wp2_with (go_at_call 42; refine (specName _ _).mono ?_; rintro e w2 ⟨rfl, hw1⟩; subst w2; rw [hy])
            go_ret
            exact ⟨by rw [HE.out, HB.out hy]; rfl, hb1⟩
        · obtain rfl : k = L.length := by omega
          have HT := HTA.out hx (fun j hj h1 => HA.out j hj h1 hj)
          have HT' : Hid (tailsOk (L.map bt) = true) := HT
          clear HT
          go_wp2
          go_ret
          exact ⟨by rw [HE.out, HT'.out]; rfl, hb1⟩
    · have hxl : (x.toList == []) = false := lit_other hx
      have HF : Hid (tailsOk (L.map bt) = false) := HT0.out hx
      go_wp2_with (go_at_call 25; refine (inW _ _ _ _).mono ?_; rintro e w2 ⟨rfl, hw1⟩; subst w2; rw [hin])
      go_ret
      exact ⟨by rw [HE.out, HF.out]; rfl, hb1⟩
  · have hin : (decide ((2 : Int) ≤ (L.length : Int)) && decide ((L.length : Int) ≤ 5)) = false := by simp; omega
    have HF : Hid (tailsOk (L.map bt) = false) := tails_len h25
    go_wp2_with (go_at_call 25; refine (inW _ _ _ _).mono ?_; rintro e w2 ⟨rfl, hw1⟩; subst w2; rw [hin])
    go_ret
    exact ⟨by rw [HE.out, HF.out]; rfl, hb1⟩
end Go.Proofs.Ytmnngfaelanbcaa
