/-
  Own text, plain: what FnRecovered leans on.
-/
import Derived.Test.YtlidmnehpcodkaaDoorDRcW
namespace Go.Proofs.YtlidmnehpcodkaaDoor
open Go.RowKit

theorem same_self (d : DiskD) : dkSame d d = true := by simp [dkSame]
theorem rec_fine {d : DiskD} {n : Int} (h : d.1.length ≤ 4194303 ∧ d.2.length ≤ 4194303) (hs : SmD d) : (recD d n).1.length ≤ 4194303 ∧ (recD d n).2.length ≤ 4194303 ∧ SmD (recD d n) := by
  cases hk : okJ d n with
  | false => rw [recD_no hk]; exact ⟨h.1, h.2, hs⟩
  | true =>
    unfold recD
    rw [if_pos hk]
    refine ⟨by rw [recS_len]; exact h.1, by simp, fun s hs => ?_, smP_nil⟩
    have := recS_small (n := n) (dkOk_iff.1 (okJ_iff.1 hk).1).2.2.1 s hs
    omega
theorem rec_again (d : DiskD) (n : Int) : recD (recD d n) n = recD d n := by
  cases hk : okJ d n with
  | false => rw [recD_no hk, recD_no hk]
  | true => exact rec_twice d n hk
theorem fall_fine {d : DiskD} (h : d.1.length ≤ 4194303 ∧ d.2.length ≤ 4194303) (hs : SmD d) : (dkFall d []).1.length ≤ 4194303 ∧ (dkFall d []).2.length ≤ 4194303 ∧ SmD (dkFall d []) := by
  cases hk : dkOk d with
  | false => rw [fall_bad hk]; exact ⟨h.1, h.2, hs⟩
  | true => rw [fall_nil hk]; exact ⟨h.1, by simp, hs.1, smP_nil⟩
/-- Where a recovery behind the fall is another one, the disk is right and is none for n home blocks. -/
theorem rec_other {d R : DiskD} {n : Int} (hR : recD d n = R) (hq : dkSame (recD (dkFall d []) n) R = false) (hf : FitN d n) : dkOk d = true ∧ ¬ (d.1.length : Int) = IntKind.i64.wrap (IntKind.i64.wrap (2 * n) + 1) := by
  subst hR
  cases hk : okJ d n with
  | true =>
    rw [rec_fallen d n hk, same_self] at hq
    cases hq
  | false =>
    cases hd : dkOk d with
    | false =>
      rw [fall_bad hd, same_self] at hq
      cases hq
    | true =>
      refine ⟨rfl, fun he => ?_⟩
      rcases hf with ⟨h1, h2⟩ | ⟨h1, h2, h3⟩
      · have e : IntKind.i64.wrap (IntKind.i64.wrap (2 * n) + 1) = 2 * n + 1 := by rw [IntKind.wrap_i64, IntKind.wrap_i64]; omega
        rw [e] at he
        rw [okJ_iff.2 ⟨hd, h1, h2, he⟩] at hk
        cases hk
      · rw [IntKind.wrap_i64, IntKind.wrap_i64] at he
        rcases h1 with rfl | rfl | rfl | rfl <;> omega
end Go.Proofs.YtlidmnehpcodkaaDoor
