/-
  Own text: the path of names, the program's and the other one's.
-/
import Derived.Test.YtmnngfaelanbcaaNamesW
namespace Go.Proofs.Ytmnngfaelanbcaa
open Go.RowKit

/-- How many bytes names take, each with its slash. -/
def szL (l : List ByteArray) : Nat := (joinL (l.map bt)).length
theorem tx_app (a b : List UInt8) : tx a ++ tx b = tx (a ++ b) := bt_inj (by rw [bt_app, bt_tx, bt_tx, bt_tx])
theorem join_take {l : List ByteArray} {k : Nat} (h : k < l.length) : joinL ((l.take (k + 1)).map bt) = joinL ((l.take k).map bt) ++ 47 :: bt l[k] := by
  rw [List.take_succ_eq_append_getElem h, List.map_append, joinL_app]
  simp [joinL]
theorem join_le {l : List ByteArray} (k : Nat) : (joinL ((l.take k).map bt)).length ≤ szL l := by
  unfold szL
  conv => rhs; rw [← List.take_append_drop k l, List.map_append, joinL_app, List.length_append]
  omega
theorem name_size {y : ByteArray} (h : nmOk (bt y) = true) : y.size ≤ 6 := by
  rw [← bt_len]
  simp [nmOk] at h
  omega
theorem join_small {l : List ByteArray} {k : Nat} (h4 : ¬ 4 < l.length) (h : ∀ j (hj : j < l.length), j < k → nmOk (bt l[j]) = true) : (joinL ((l.take k).map bt)).length ≤ 28 := by
  have : ((l.take k).map bt).all nmOk = true := by
    rw [List.all_eq_true]
    intro y hy
    obtain ⟨z, hz, rfl⟩ := List.mem_map.1 hy
    obtain ⟨j, hj, rfl⟩ := List.mem_iff_getElem.1 hz
    simp at hj
    rw [List.getElem_take]
    exact h j (by omega) (by omega)
  have h2 := join_len this
  rw [List.length_map, List.length_take] at h2
  omega
theorem join_all (l : List ByteArray) : joinL ((l.take l.length).map bt) = joinL (l.map bt) := by rw [List.take_length]
theorem ptOf_bad {l : List ByteArray} {k : Nat} (h : k < l.length) (hb : nmOk (bt l[k]) = false) : ptOf (l.map bt) = [] := by
  unfold ptOf
  rw [if_neg (by intro e; simp at e; subst e; simp at h)]
  have : (l.map bt).all nmOk = false := by
    rw [List.all_eq_false]
    exact ⟨bt l[k], List.mem_map_of_mem (List.getElem_mem h), by simp [hb]⟩
  rw [this]
  simp
theorem ptOf_long {l : List ByteArray} (h : 4 < l.length) : ptOf (l.map bt) = [] := by
  unfold ptOf
  rw [if_neg (by intro e; simp at e; subst e; simp at h)]
  simp [show ¬ l.length ≤ 4 by omega]
theorem all_of {l : List ByteArray} (h : ∀ j (hj : j < l.length), nmOk (bt l[j]) = true) : (l.map bt).all nmOk = true := by
  rw [List.all_eq_true]
  intro y hy
  obtain ⟨z, hz, rfl⟩ := List.mem_map.1 hy
  obtain ⟨j, hj, rfl⟩ := List.mem_iff_getElem.1 hz
  exact h j hj

set_option maxRecDepth 20000 in
set_option maxHeartbeats 400000 in
theorem implPathOf (a : Option Addr) (cap : Nat) (l : List ByteArray) (w : World) (hl : l.length ≤ 4194304) (hr : RdS w a l) :
    Calls Try.prog 53 #[.slice a l.length cap] w fun e w' => e = .returned (.string (tx (ptOf (l.map bt)))) ∧ Below w.heap.size w w' := by
  have HC : Hid (∀ k (hk : k < l.length), ∃ b off, a = some ⟨b, off, none⟩ ∧ b < w.heap.size ∧ w.cell? ⟨b, off + k, none⟩ = some (.string l[k])) := fun k hk => hr.cellS k hk
  clear hr
  by_cases h0 : l.length = 0
  · have HE : Hid (ptOf (l.map bt) = [47]) := by
      show _ = _
      rw [List.eq_nil_of_length_eq_zero h0]; exact ptOf_nil
    rw [h0]
    go_enter Try.func53, Try.ntmps53
    go_wp2
    go_ret
    exact ⟨by rw [HE.out]; rfl, Below.refl _ _⟩
  have h0' : ¬ (l.length : Int) = 0 := by omega
  by_cases h4 : 4 < l.length
  · have HE : Hid (ptOf (l.map bt) = []) := ptOf_long h4
    have h4' : (4 : Int) < (l.length : Int) := by omega
    go_enter Try.func53, Try.ntmps53
    go_wp2
    go_ret
    exact ⟨by rw [HE.out]; rfl, Below.refl _ _⟩
  have h4' : ¬ (4 : Int) < (l.length : Int) := by omega
  go_enter Try.func53, Try.ntmps53
  go_wp2
  go_loopw [3, 14] (fun x i wr => ∃ (k : Nat) (p : ByteArray), k ≤ l.length ∧ x = .string p ∧ i = .int .i64 k ∧ Below w.heap.size w wr ∧ Hid (bt p = joinL ((l.take k).map bt)) ∧ Hid (∀ j (hj : j < l.length), j < k → nmOk (bt l[j]) = true)) (fun _ i _ => l.length - (intOf i).toNat)
  case atStart => exact ⟨0, ⟨#[]⟩, Nat.zero_le _, rfl, rfl, Below.refl _ _, by show _ = _; simp [joinL, bt], fun j hj h => by omega⟩
  case round =>
    obtain ⟨k, p, hk, rfl, rfl, hbel, HP, HA⟩ := hrel
    by_cases hlt : k < l.length
    · obtain ⟨b, off, rfl, hblt, hck⟩ := HC.out k hlt
      have hcr : wr.cell? ⟨b, off + k, none⟩ = some (.string l[k]) := (hbel.cell hblt).trans hck
      have HB : Hid (nmOk (bt l[k]) = false → ptOf (l.map bt) = []) := ptOf_bad hlt
      have HJ : Hid (joinL ((l.take (k + 1)).map bt) = joinL ((l.take k).map bt) ++ 47 :: bt l[k]) := join_take hlt
      have HN : Hid (nmOk (bt l[k]) = true → ∀ j (hj : j < l.length), j < k + 1 → nmOk (bt l[j]) = true) := by
        intro h j hj h2
        by_cases e : j = k
        · subst e; exact h
        · exact HA.out j hj (by omega)
      generalize l[k] = y at *
      clear hck
      cases hy : nmOk (bt y) with
      | true =>
        have hys := name_size hy
        have hps : p.size ≤ 28 := by rw [← bt_len, HP.out]; exact join_small h4 HA.out
        go_wp2_with (go_at_call 63; refine (implName _ _).mono ?_; rintro e w2 ⟨rfl, hb2⟩; rw [hy])
        go_roundw
        case rel => exact ⟨k + 1, p ++ (⟨#[47]⟩ ++ y), by omega, rfl, by go_num, hbel.trans (hb2.mono hbel.size), by show _ = _; rw [HJ.out, bt_app, bt_app, HP.out]; rfl, HN.out hy⟩
        case measure => simp [intOf]; omega
      | false =>
        go_wp2_with (go_at_call 63; refine (implName _ _).mono ?_; rintro e w2 ⟨rfl, hb2⟩; rw [hy])
        go_ret
        exact ⟨by rw [HB.out hy]; rfl, hbel.trans (hb2.mono hbel.size)⟩
    · obtain rfl : k = l.length := by omega
      have HE : Hid (tx (ptOf (l.map bt)) = p) := by
        show _ = _
        rw [ptOf_ok (by simp; omega) (by simp; omega) (all_of fun j hj => HA.out j hj hj), ← join_all, ← HP.out, tx_bt]
      go_wp2
      go_ret
      exact ⟨by rw [HE.out]; rfl, hbel⟩

set_option maxRecDepth 20000 in
set_option maxHeartbeats 400000 in
theorem specPathOf (a : Option Addr) (cap : Nat) (l : List ByteArray) (w : World) (hl : l.length ≤ 4194304) (hz : szL l ≤ 4194304) (hr : RdS w a l) :
    Calls Try.prog 44 #[.slice a l.length cap] w fun e w' => e = .returned (.string (tx (ptOf (l.map bt)))) ∧ Below w.heap.size w w' := by
  have HC : Hid (∀ k (hk : k < l.length), ∃ b off, a = some ⟨b, off, none⟩ ∧ b < w.heap.size ∧ w.cell? ⟨b, off + k, none⟩ = some (.string l[k])) := fun k hk => hr.cellS k hk
  have HZ : Hid (szL l ≤ 4194304) := hz
  clear hr hz
  go_enter Try.func44, Try.ntmps44
  go_wp2
  go_loopw [3, 4] (fun x i wr => ∃ (k : Nat) (p : ByteArray), k ≤ l.length ∧ x = .string p ∧ i = .int .i64 k ∧ wr = w ∧ Hid (bt p = joinL ((l.take k).map bt))) (fun _ i _ => l.length - (intOf i).toNat)
  case atStart => exact ⟨0, ⟨#[]⟩, Nat.zero_le _, rfl, rfl, rfl, by show _ = _; simp [joinL, bt]⟩
  case round =>
    obtain ⟨k, p, hk, rfl, rfl, hwr, HP⟩ := hrel
    subst hwr
    by_cases hlt : k < l.length
    · obtain ⟨b, off, rfl, hblt, hck⟩ := HC.out k hlt
      have HJ : Hid (joinL ((l.take (k + 1)).map bt) = joinL ((l.take k).map bt) ++ 47 :: bt l[k]) := join_take hlt
      have hsz : p.size + (1 + (l[k]).size) ≤ 4194304 := by
        have := join_le (l := l) (k + 1)
        rw [HJ.out, ← HP.out, List.length_append, List.length_cons, bt_len, bt_len] at this
        have := HZ.out
        omega
      generalize l[k] = y at *
      go_wp2
      go_roundw
      case rel => exact ⟨k + 1, p ++ ⟨#[47]⟩ ++ y, by omega, rfl, by go_num, by trivial, by show _ = _; rw [HJ.out, bt_app, bt_app, HP.out, List.append_assoc]; rfl⟩
      case measure => simp [intOf]; omega
    · obtain rfl : k = l.length := by omega
      have HP' : Hid (bt p = joinL (l.map bt)) := by show _ = _; rw [HP.out, join_all]
      clear HP
      by_cases h0 : l.length = 0
      · have hl0 : l = [] := List.eq_nil_of_length_eq_zero h0
        subst hl0
        have hok : ptOk (bt ⟨#[47]⟩) = true := ptOk_root
        have hnm : nmT ⟨#[47]⟩ = [] := nmT_none nms_root
        clear HP' HC HZ
        simp only [List.length_nil]
        go_wp2_with (go_at_call 24; refine (specPath _ _ (by decide)).mono ?_; rintro e w2 ⟨rfl, hb2⟩; rw [hok])
        go_wp2_with fail
        refine (specNames _ _ (by decide)).mono ?_
        rintro e w3 ⟨v3, rfl, ho3, hb3⟩
        rw [hnm] at ho3
        obtain ⟨a3, c3, rfl, _, _⟩ := own_rdS ho3
        go_wp2
        go_ret
        exact ⟨rfl, hb2.trans (hb3.mono hb2.size)⟩
      · have h0' : ¬ (l.length : Int) = 0 := by omega
        have hne : l.map bt ≠ [] := by intro e; simp at e; subst e; simp at h0
        have HO : Hid (ptOf (l.map bt) = if ptOk (bt p) = true ∧ (nms (bt p)).length = l.length then bt p else []) := by
          show _ = _
          rw [ptOf_asked _ hne, HP'.out, List.length_map]
        have hps : p.size ≤ 4194304 := by have := HZ.out; unfold szL at this; rw [← HP'.out, bt_len] at this; exact this
        cases hok : ptOk (bt p) with
        | false =>
          have HF : Hid (ptOf (l.map bt) = []) := by show _ = _; rw [HO.out, if_neg (by rw [hok]; simp)]
          go_wp2_with (go_at_call 24; refine (specPath _ _ hps).mono ?_; rintro e w2 ⟨rfl, hb2⟩; rw [hok])
          go_ret
          exact ⟨by rw [HF.out]; rfl, hb2⟩
        | true =>
          by_cases hq : (nmT p).length = l.length
          · have HF : Hid (tx (ptOf (l.map bt)) = p) := by show _ = _; rw [HO.out, if_pos ⟨hok, by rw [← nmT_len]; exact hq⟩, tx_bt]
            go_wp2_with (go_at_call 24; refine (specPath _ _ hps).mono ?_; rintro e w2 ⟨rfl, hb2⟩; rw [hok])
            go_wp2_with fail
            refine (specNames _ _ hps).mono ?_
            rintro e w3 ⟨v3, rfl, ho3, hb3⟩
            obtain ⟨a3, c3, rfl, _, _⟩ := own_rdS ho3
            rw [hq]
            go_wp2
            go_ret
            exact ⟨by rw [HF.out]; rfl, hb2.trans (hb3.mono hb2.size)⟩
          · have HF : Hid (ptOf (l.map bt) = []) := by show _ = _; rw [HO.out, if_neg (by rw [← nmT_len]; exact fun h => hq h.2)]
            have hq' : ¬ ((nmT p).length : Int) = (l.length : Int) := by omega
            have hle := nmT_le p
            go_wp2_with (go_at_call 24; refine (specPath _ _ hps).mono ?_; rintro e w2 ⟨rfl, hb2⟩; rw [hok])
            go_wp2_with fail
            refine (specNames _ _ hps).mono ?_
            rintro e w3 ⟨v3, rfl, ho3, hb3⟩
            obtain ⟨a3, c3, rfl, _, _⟩ := own_rdS ho3
            go_wp2
            go_ret
            exact ⟨by rw [HF.out]; rfl, hb2.trans (hb3.mono hb2.size)⟩
end Go.Proofs.Ytmnngfaelanbcaa
