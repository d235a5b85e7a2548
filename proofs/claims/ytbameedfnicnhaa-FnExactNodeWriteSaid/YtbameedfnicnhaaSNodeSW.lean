/-
  Own text: whether two nodes are the same, as the other program tells it.
-/
import Derived.Test.YtbameedfnicnhaaNodeF
import Derived.Test.YtbameedfnicnhaaRowC
import Derived.BigQuiet
import Derived.Deep.QuietTactic
namespace Go.Proofs.Ytbameedfnicnhaa
open Go.RowKit

def ndSame (m n : NodeD) : Bool := decide (m.k = n.k) && decide (m.g = n.g) && decide (m.t = n.t) && decide (m.s = n.s) && decide (m.b = n.b)
theorem ndSame_refl (n : NodeD) : ndSame n n = true := by simp [ndSame]

set_option maxRecDepth 20000 in
set_option maxHeartbeats 1000000 in
theorem sameI (a c : Option Addr) (ca cc : Nat) (l m : List Int) (w : World) (hl : l.length ≤ 4194304) (hr : Rd .i64 w a l) (hs : Rd .i64 w c m) :
    Calls Try.prog 51 #[.slice a l.length ca, .slice c m.length cc] w fun e w' => e = .returned (.bool (decide (l = m))) ∧ Below w.heap.size w w' := by
  by_cases hne : l.length = m.length
  · have HCS : Hid (∀ k, k < l.length → ∃ b off x, a = some ⟨b, off, none⟩ ∧ b < w.heap.size ∧ w.cell? ⟨b, off + k, none⟩ = some (.int .i64 x) ∧ l[k]? = some x) := by
      intro k hk
      rcases hr with rfl | ⟨b, off, rfl, h1, h2⟩
      · simp at hk
      · exact ⟨b, off, l[k], rfl, h1, by rw [h2 k hk]; simp [List.getD, hk], by simp [hk]⟩
    have HDS : Hid (∀ k, k < l.length → ∃ b off x, c = some ⟨b, off, none⟩ ∧ b < w.heap.size ∧ w.cell? ⟨b, off + k, none⟩ = some (.int .i64 x) ∧ m[k]? = some x) := by
      intro k hk
      have hk2 : k < m.length := by omega
      rcases hs with rfl | ⟨b, off, rfl, h1, h2⟩
      · simp at hk2
      · exact ⟨b, off, m[k], rfl, h1, by rw [h2 k hk2]; simp [List.getD, hk2], by simp [hk2]⟩
    have HAL : Hid ((∀ j : Nat, j < l.length → l[j]? = m[j]?) → l = m) := by
      intro h
      apply List.ext_getElem?
      intro j
      by_cases hj : j < l.length
      · exact h j hj
      · rw [List.getElem?_eq_none (by omega), List.getElem?_eq_none (by omega)]
    have HNE : Hid (∀ (j : Nat) (x y : Int), l[j]? = some x → m[j]? = some y → x ≠ y → decide (l = m) = false) := by
      intro j x y h1 h2 h3
      refine decide_eq_false fun h => h3 ?_
      rw [h, h2] at h1
      injection h1 with h1
      exact h1.symm
    clear hr hs
    rw [← hne]
    clear hne
    generalize hL : l.length = L at *
    go_enter Try.func51, Try.ntmps51
    go_wp2
    go_loopw [5] (fun i wr => ∃ k : Nat, k ≤ L ∧ i = .int .i64 k ∧ Hid (∀ j, j < k → l[j]? = m[j]?) ∧ Hid (Below w.heap.size w wr)) (fun i _ => L - (intOf i).toNat)
    case atStart => exact ⟨0, Nat.zero_le _, rfl, fun j h => by omega, Below.refl _ _⟩
    case round =>
      obtain ⟨k, hk, rfl, HA, HB⟩ := hrel
      by_cases hlt : k < L
      · obtain ⟨b, off, x, rfl, hb, hcx, hx⟩ := HCS.out k hlt
        obtain ⟨b2, off2, y, rfl, hb2, hcy, hy⟩ := HDS.out k hlt
        have zx := (HB.out.cell hb).trans hcx
        have zy := (HB.out.cell hb2).trans hcy
        have HX : Hid (l[k]? = some x ∧ m[k]? = some y) := ⟨hx, hy⟩
        have HBN : Hid (∀ q, Below w.heap.size w (wr.drewN q)) := fun q => HB.out.trans ⟨rfl, rfl, rfl, Nat.le_refl _, fun _ _ => rfl⟩
        have j0 : (0 : Int) ≤ (k : Int) := by omega
        have j1 : (k : Int) < (L : Int) := by omega
        clear hcx hcy hx hy
        by_cases he : x = y
        · have HA2 : Hid (∀ j, j < k + 1 → l[j]? = m[j]?) := by
            intro j hj
            by_cases e : j = k
            · rw [e, HX.out.1, HX.out.2, he]
            · exact HA.out j (by omega)
          subst he
          clear HA HX
          go_wp2
          go_quiet (fail)
          go_wp2
          go_roundw
          case rel => exact ⟨k + 1, by omega, by go_num, HA2, HBN.out _⟩
          case measure => simp [intOf]; omega
        · have HF : Hid (decide (l = m) = false) := HNE.out k x y HX.out.1 HX.out.2 he
          have e1 : decide (x = y) = false := decide_eq_false he
          have e2 : (x == y) = false := by simpa using he
          have e3 : (x != y) = true := by simpa using he
          clear HA HX
          go_wp2
          go_quiet (fail)
          go_wp2
          go_ret
          exact ⟨by rw [HF.out]; rfl, HBN.out _⟩
      · obtain rfl : k = L := by omega
        have HT : Hid (decide (l = m) = true) := decide_eq_true (HAL.out HA.out)
        have hb := HB.out
        go_wp2
        go_ret
        exact ⟨by rw [HT.out]; rfl, hb⟩
  · have HF : Hid (decide (l = m) = false) := decide_eq_false fun h => hne (by rw [h])
    have e1 : ¬ (l.length : Int) = (m.length : Int) := by omega
    go_enter Try.func51, Try.ntmps51
    go_wp2
    go_ret
    exact ⟨by rw [HF.out]; rfl, Below.refl _ _⟩

set_option maxRecDepth 20000 in
set_option maxHeartbeats 2000000 in
theorem specNodeSame (v u : Value) (m n : NodeD) (w : World) (hl : m.b.length ≤ 4194304) (hr : RdN w v m) (hs : RdN w u n) :
    Calls Try.prog 16 #[v, u] w fun e w' => e = .returned (.bool (ndSame m n)) ∧ Below w.heap.size w w' := by
  obtain ⟨a, c, rfl, _, _, hr⟩ := hr
  obtain ⟨a', c', rfl, _, _, hs⟩ := hs
  have HZ : Hid (ndSame m n = (decide (m.k = n.k) && decide (m.g = n.g) && decide (m.t = n.t) && decide (m.s = n.s) && decide (m.b = n.b))) := rfl
  have HSI : Hid (∀ W, Below w.heap.size w W → Calls Try.prog 51 #[.slice a m.b.length c, .slice a' n.b.length c'] W fun e w' => e = .returned (.bool (decide (m.b = n.b))) ∧ Below W.heap.size W w') :=
    fun W h => sameI a a' c c' m.b n.b W hl (hr.below h (Nat.le_refl _)) (hs.below h (Nat.le_refl _))
  clear hr hs
  unfold aggN
  by_cases h0 : m.k = n.k
  rotate_left
  · have b0 : (m.k == n.k) = false := by simpa using h0
    have d0 : decide (m.k = n.k) = false := decide_eq_false h0
    have HF : Hid (ndSame m n = false) := by show _ = _; rw [HZ.out, d0]; simp
    clear h0
    go_enter Try.func16, Try.ntmps16
    go_wp2
    go_ret
    exact ⟨by rw [HF.out]; rfl, by exact below2 _ _ _⟩
  have b0 : (m.k == n.k) = true := by simpa using h0
  have d0 : decide (m.k = n.k) = true := decide_eq_true h0
  clear h0
  by_cases h1 : m.g = n.g
  rotate_left
  · have b1 : (m.g == n.g) = false := by simpa using h1
    have d1 : decide (m.g = n.g) = false := decide_eq_false h1
    have HF : Hid (ndSame m n = false) := by show _ = _; rw [HZ.out, d1]; simp
    clear h1
    go_enter Try.func16, Try.ntmps16
    go_wp2
    go_ret
    exact ⟨by rw [HF.out]; rfl, by exact below2 _ _ _⟩
  have b1 : (m.g == n.g) = true := by simpa using h1
  have d1 : decide (m.g = n.g) = true := decide_eq_true h1
  clear h1
  by_cases h2 : m.t = n.t
  rotate_left
  · have b2 : (m.t == n.t) = false := by simpa using h2
    have d2 : decide (m.t = n.t) = false := decide_eq_false h2
    have HF : Hid (ndSame m n = false) := by show _ = _; rw [HZ.out, d2]; simp
    clear h2
    go_enter Try.func16, Try.ntmps16
    go_wp2
    go_ret
    exact ⟨by rw [HF.out]; rfl, by exact below2 _ _ _⟩
  have b2 : (m.t == n.t) = true := by simpa using h2
  have d2 : decide (m.t = n.t) = true := decide_eq_true h2
  clear h2
  by_cases h3 : m.s = n.s
  rotate_left
  · have b3 : (m.s == n.s) = false := by simpa using h3
    have d3 : decide (m.s = n.s) = false := decide_eq_false h3
    have HF : Hid (ndSame m n = false) := by show _ = _; rw [HZ.out, d3]; simp
    clear h3
    go_enter Try.func16, Try.ntmps16
    go_wp2
    go_ret
    exact ⟨by rw [HF.out]; rfl, by exact below2 _ _ _⟩
  have b3 : (m.s == n.s) = true := by simpa using h3
  have d3 : decide (m.s = n.s) = true := decide_eq_true h3
  clear h3
  have HF : Hid (ndSame m n = decide (m.b = n.b)) := by show _ = _; rw [HZ.out, d0, d1, d2, d3]; simp
  clear HZ
  go_enter Try.func16, Try.ntmps16
  go_wp2_with fail
  refine (HSI.out _ (below2 _ _ _)).mono ?_
  rintro e w1 ⟨rfl, hb1⟩
  have hb2 : Below w.heap.size w w1 := (below2 w _ _).trans (hb1.mono (by simp; omega))
  generalize decide (m.b = n.b) = q at *
  go_wp2
  go_ret
  exact ⟨by rw [HF.out]; rfl, hb2⟩
end Go.Proofs.Ytbameedfnicnhaa
