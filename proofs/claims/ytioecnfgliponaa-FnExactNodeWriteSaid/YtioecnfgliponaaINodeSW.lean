/-
  Own text: the program's own helpers over rows of numbers, how many blocks a size asks for, whether two nodes are the same.
-/
import Derived.Test.YtioecnfgliponaaSNodeSW
import Derived.Test.YtioecnfgliponaaSNodeW
import Derived.Test.YtioecnfgliponaaNodeL
namespace Go.Proofs.Ytioecnfgliponaa
open Go.RowKit

theorem Rd.take {k : IntKind} {w : World} {a : Option Addr} {l : List Int} (h : Rd k w a l) (n : Nat) : Rd k w a (l.take n) := by
  rcases h with rfl | ⟨b, off, rfl, h1, h2⟩
  · left; simp
  · refine .inr ⟨b, off, rfl, h1, fun i hi => ?_⟩
    rw [List.length_take] at hi
    rw [h2 i (by omega)]
    simp [List.getD, show i < n by omega]
theorem implBlocks (s : Int) (w : World) :
    Calls Try.prog 78 #[.int .i64 s] w fun e w' => e = .returned (.int .i64 (blksFor s)) ∧ w' = w := by
  have HB : Hid (blksFor s = if s ≤ 0 then 0 else if 80 ≤ s then 5 else (s + 15) / 16) := rfl
  have hs : s < 0 ∨ s = 0 ∨ s = 80 ∨ 80 < s ∨ (0 < s ∧ s < 80) := by omega
  rcases hs with h | rfl | rfl | h | h
  · go_enter Try.func78, Try.ntmps78
    go_wp2
    go_ret
    exact ⟨by rw [HB.out, if_pos (by omega)]; rfl, rfl⟩
  · go_enter Try.func78, Try.ntmps78
    go_wp2
    go_ret
    exact ⟨by rw [HB.out]; rfl, rfl⟩
  · go_enter Try.func78, Try.ntmps78
    go_wp2
    go_ret
    exact ⟨by rw [HB.out]; rfl, rfl⟩
  · go_enter Try.func78, Try.ntmps78
    go_wp2
    go_ret
    exact ⟨by rw [HB.out, if_neg (by omega), if_pos (by omega)]; rfl, rfl⟩
  · obtain ⟨h, h'⟩ := h
    go_enter Try.func78, Try.ntmps78
    go_wp2
    go_ret
    refine ⟨?_, rfl⟩
    rw [HB.out, if_neg (by omega), if_neg (by omega), show s + 16 - 1 = s + 15 by omega]
    rfl

set_option maxRecDepth 20000 in
set_option maxHeartbeats 1000000 in
theorem eqSl (a c : Option Addr) (ca cc : Nat) (l m : List Int) (w : World) (hl : l.length ≤ 4194304) (hm : m.length ≤ maxLen) (hr : Rd .i64 w a l) (hs : Rd .i64 w c m) :
    Calls Try.prog 83 #[.slice a l.length ca, .slice c m.length cc] w fun e w' => e = .returned (.bool (decide (l = m))) ∧ ∃ q, w' = w.drewN q := by
  by_cases hne : l.length = m.length
  · have HCS : Hid (∀ k, k < l.length → ∃ b off x, a = some ⟨b, off, none⟩ ∧ w.cell? ⟨b, off + k, none⟩ = some (.int .i64 x) ∧ l[k]? = some x) := by
      intro k hk
      rcases hr with rfl | ⟨b, off, rfl, h1, h2⟩
      · simp at hk
      · exact ⟨b, off, l[k], rfl, by rw [h2 k hk]; simp [List.getD, hk], by simp [hk]⟩
    have HDS : Hid (∀ k, k < l.length → ∃ b off x, c = some ⟨b, off, none⟩ ∧ w.cell? ⟨b, off + k, none⟩ = some (.int .i64 x) ∧ m[k]? = some x) := by
      intro k hk
      have hk2 : k < m.length := by omega
      rcases hs with rfl | ⟨b, off, rfl, h1, h2⟩
      · simp at hk2
      · exact ⟨b, off, m[k], rfl, by rw [h2 k hk2]; simp [List.getD, hk2], by simp [hk2]⟩
    have HAL : Hid ((∀ j : Nat, j < l.length → l[j]? = m[j]?) → decide (l = m) = true) := by
      intro h
      refine decide_eq_true (List.ext_getElem? ?_)
      intro j
      by_cases hj : j < l.length
      · exact h j hj
      · rw [List.getElem?_eq_none (by omega), List.getElem?_eq_none (by omega)]
    have HNE : Hid (∀ (j : Nat) (x y : Int), l[j]? = some x → m[j]? = some y → x ≠ y → decide (l = m) = false) := by
      intro j x y h1 h2 h3
      refine decide_eq_false fun h => h3 ?_
      rw [h, h2] at h1
      injection h1 with h1
      exact h1.symm
    clear hr hs hm
    rw [← hne]
    clear hne
    generalize hL : l.length = L at *
    go_enter Try.func83, Try.ntmps83
    go_wp2
    go_loopw [13] (fun i wr => ∃ k : Nat, k ≤ L ∧ i = .int .i64 k ∧ Hid (∀ j, j < k → l[j]? = m[j]?) ∧ ∃ q, wr = w.drewN q) (fun i _ => L - (intOf i).toNat)
    case atStart => exact ⟨0, Nat.zero_le _, rfl, fun j h => by omega, 0, rfl⟩
    case round =>
      obtain ⟨k, hk, rfl, HA, q, hwr⟩ := hrel
      by_cases hlt : k < L
      · obtain ⟨b, off, x, rfl, hcx, hx⟩ := HCS.out k hlt
        obtain ⟨b2, off2, y, rfl, hcy, hy⟩ := HDS.out k hlt
        have zx : wr.cell? ⟨b, off + k, none⟩ = some (.int .i64 x) := by rw [hwr]; exact hcx
        have zy : wr.cell? ⟨b2, off2 + k, none⟩ = some (.int .i64 y) := by rw [hwr]; exact hcy
        have HX : Hid (l[k]? = some x ∧ m[k]? = some y) := ⟨hx, hy⟩
        have HQ : Hid (∀ p, ∃ q, wr.drewN p = w.drewN q) := fun p => ⟨q + p, by rw [hwr, World.drewN_drewN]⟩
        have j0 : (0 : Int) ≤ (k : Int) := by omega
        have j1 : (k : Int) < (L : Int) := by omega
        clear hcx hcy hx hy hwr
        by_cases he : x = y
        · have HA2 : Hid (∀ j, j < k + 1 → l[j]? = m[j]?) := by
            intro j hj
            by_cases e : j = k
            · rw [e, HX.out.1, HX.out.2, he]
            · exact HA.out j (by omega)
          subst he
          clear HA HX
          go_wp2
          go_quiet (fail)
          go_wp2
          go_roundw
          case rel => exact ⟨k + 1, by omega, by go_num, HA2, HQ.out _⟩
          case measure => simp [intOf]; omega
        · have HF : Hid (decide (l = m) = false) := HNE.out k x y HX.out.1 HX.out.2 he
          have e1 : decide (x = y) = false := decide_eq_false he
          have e2 : (x == y) = false := by simpa using he
          clear HA HX
          go_wp2
          go_quiet (fail)
          go_wp2
          go_ret
          exact ⟨by rw [HF.out]; rfl, HQ.out _⟩
      · obtain rfl : k = L := by omega
        have HT : Hid (decide (l = m) = true) := HAL.out HA.out
        go_wp2
        go_ret
        exact ⟨by rw [HT.out]; rfl, q, rfl⟩
  · have HF : Hid (decide (l = m) = false) := decide_eq_false fun h => hne (by rw [h])
    have h1 : ¬ ((l.length : Nat) : Int) = ((m.length : Nat) : Int) := by omega
    have h2 : (((l.length : Nat) : Int) == ((m.length : Nat) : Int)) = false := by simpa using h1
    go_enter Try.func83, Try.ntmps83
    go_wp2
    go_ret
    exact ⟨by rw [HF.out]; rfl, 0, rfl⟩

set_option maxRecDepth 20000 in
theorem indexI (a : Option Addr) (cap : Nat) (l : List Int) (y : Int) (w : World) (hl : l.length ≤ 4194304) (hr : Rd .i64 w a l) :
    Calls Try.prog 85 #[.slice a l.length cap, .int .i64 y] w fun e w' => ∃ i : Int, e = .returned (.int .i64 i) ∧ decide (0 ≤ i) = decide (y ∈ l) ∧ w' = w := by
  have HCS : Hid (∀ k (hk : k < l.length), ∃ b off, a = some ⟨b, off, none⟩ ∧ w.cell? ⟨b, off + k, none⟩ = some (.int .i64 l[k])) := by
    intro k hk
    obtain ⟨b, off, rfl, _, hc⟩ := hr.cellI k hk
    exact ⟨b, off, rfl, hc⟩
  clear hr
  go_enter Try.func85, Try.ntmps85
  go_wp2
  go_loopw [8] (fun i wr => ∃ k : Nat, k ≤ l.length ∧ i = .int .i64 k ∧ Hid (y ∉ l.take k) ∧ wr = w) (fun i _ => l.length - (intOf i).toNat)
  case atStart => exact ⟨0, Nat.zero_le _, rfl, by simp [Hid], rfl⟩
  case round =>
    obtain ⟨k, hk, rfl, HN, hwr⟩ := hrel
    subst wr
    by_cases hlt : k < l.length
    · obtain ⟨b, off, rfl, hc⟩ := HCS.out k hlt
      have HY : Hid (y = l[k] → decide (0 ≤ (k : Int)) = decide (y ∈ l)) := fun h => by rw [decide_eq_true (show y ∈ l by rw [h]; exact List.getElem_mem hlt), decide_eq_true (by omega)]
      have HM : Hid (y ≠ l[k] → y ∉ l.take (k + 1)) := by
        intro h hm
        rw [List.take_succ_eq_append_getElem hlt] at hm
        rcases List.mem_append.1 hm with hm | hm
        · exact HN.out hm
        · have hm2 : y = l[k] := by simpa using hm
          exact h hm2
      clear HN
      generalize l[k] = x at *
      by_cases he : y = x
      · have HT := HY.out he
        subst he
        clear HM HY
        go_wp2
        go_ret
        exact ⟨_, rfl, HT, rfl⟩
      · have HM2 : Hid (y ∉ l.take (k + 1)) := HM.out he
        have he2 : (y == x) = false := by simpa using he
        clear HM HY
        go_wp2
        go_roundw
        case rel => exact ⟨k + 1, by omega, by go_num, HM2, trivial⟩
        case measure => simp [intOf]; omega
    · obtain rfl : k = l.length := by omega
      have HF : Hid (decide (y ∈ l) = false) := by have := HN.out; rw [List.take_length] at this; exact decide_eq_false this
      go_wp2
      go_ret
      exact ⟨_, rfl, by rw [HF.out]; rfl, rfl⟩
theorem containsI (a : Option Addr) (cap : Nat) (l : List Int) (y : Int) (w : World) (hl : l.length ≤ 4194304) (hr : Rd .i64 w a l) :
    Calls Try.prog 84 #[.slice a l.length cap, .int .i64 y] w fun e w' => e = .returned (.bool (decide (y ∈ l))) ∧ w' = w := by
  have HI : Hid (Calls Try.prog 85 #[.slice a l.length cap, .int .i64 y] w fun e w' => ∃ i : Int, e = .returned (.int .i64 i) ∧ decide (0 ≤ i) = decide (y ∈ l) ∧ w' = w) := indexI a cap l y w hl hr
  clear hr hl
  generalize decide (y ∈ l) = q at *
  go_enter Try.func84, Try.ntmps84
  go_wp2_with fail
  refine HI.out.mono ?_
  rintro e w1 ⟨i, rfl, hq, hw⟩
  subst w1
  subst hq
  by_cases h : 0 ≤ i
  · go_wp2
    go_ret
    exact ⟨by simp [h], rfl⟩
  · go_wp2
    go_ret
    exact ⟨by simp, rfl⟩

set_option maxRecDepth 20000 in
set_option maxHeartbeats 4000000 in
theorem implNodeSame (v u : Value) (m n : NodeD) (w : World) (hl : m.b.length ≤ 4194304) (hr : RdN w v m) (hs : RdN w u n) :
    Calls Try.prog 76 #[v, u] w fun e w' => e = .returned (.bool (ndSame m n)) ∧ Below w.heap.size w w' := by
  obtain ⟨a, c, rfl, _, _, hr⟩ := hr
  obtain ⟨a', c', rfl, hn1, hn2, hs⟩ := hs
  have HZ : Hid (ndSame m n = (decide (m.k = n.k) && decide (m.g = n.g) && decide (m.t = n.t) && decide (m.s = n.s) && decide (m.b = n.b))) := rfl
  have HSI : Hid (∀ W, Below w.heap.size w W → Calls Try.prog 83 #[.slice a m.b.length c, .slice a' n.b.length c'] W fun e w' => e = .returned (.bool (decide (m.b = n.b))) ∧ ∃ q, w' = W.drewN q) :=
    fun W h => eqSl a a' c c' m.b n.b W hl (Nat.le_trans hn1 hn2) (hr.below h (Nat.le_refl _)) (hs.below h (Nat.le_refl _))
  clear hr hs hn1 hn2
  unfold aggN
  by_cases h0 : m.k = n.k
  rotate_left
  · have b0 : (m.k == n.k) = false := by simpa using h0
    have d0 : decide (m.k = n.k) = false := decide_eq_false h0
    have HF : Hid (ndSame m n = false) := by show _ = _; rw [HZ.out, d0]; simp
    clear h0
    go_enter Try.func76, Try.ntmps76
    go_wp2
    go_ret
    exact ⟨by rw [HF.out]; rfl, by exact below2 _ _ _⟩
  have b0 : (m.k == n.k) = true := by simpa using h0
  have d0 : decide (m.k = n.k) = true := decide_eq_true h0
  clear h0
  by_cases h1 : m.g = n.g
  rotate_left
  · have b1 : (m.g == n.g) = false := by simpa using h1
    have d1 : decide (m.g = n.g) = false := decide_eq_false h1
    have HF : Hid (ndSame m n = false) := by show _ = _; rw [HZ.out, d1]; simp
    clear h1
    go_enter Try.func76, Try.ntmps76
    go_wp2
    go_ret
    exact ⟨by rw [HF.out]; rfl, by exact below2 _ _ _⟩
  have b1 : (m.g == n.g) = true := by simpa using h1
  have d1 : decide (m.g = n.g) = true := decide_eq_true h1
  clear h1
  by_cases h2 : m.t = n.t
  rotate_left
  · have b2 : (m.t == n.t) = false := by simpa using h2
    have d2 : decide (m.t = n.t) = false := decide_eq_false h2
    have HF : Hid (ndSame m n = false) := by show _ = _; rw [HZ.out, d2]; simp
    clear h2
    go_enter Try.func76, Try.ntmps76
    go_wp2
    go_ret
    exact ⟨by rw [HF.out]; rfl, by exact below2 _ _ _⟩
  have b2 : (m.t == n.t) = true := by simpa using h2
  have d2 : decide (m.t = n.t) = true := decide_eq_true h2
  clear h2
  by_cases h3 : m.s = n.s
  rotate_left
  · have b3 : (m.s == n.s) = false := by simpa using h3
    have d3 : decide (m.s = n.s) = false := decide_eq_false h3
    have HF : Hid (ndSame m n = false) := by show _ = _; rw [HZ.out, d3]; simp
    clear h3
    go_enter Try.func76, Try.ntmps76
    go_wp2
    go_ret
    exact ⟨by rw [HF.out]; rfl, by exact below2 _ _ _⟩
  have b3 : (m.s == n.s) = true := by simpa using h3
  have d3 : decide (m.s = n.s) = true := decide_eq_true h3
  clear h3
  have HF : Hid (ndSame m n = decide (m.b = n.b)) := by show _ = _; rw [HZ.out, d0, d1, d2, d3]; simp
  clear HZ
  go_enter Try.func76, Try.ntmps76
  go_wp2_with fail
  refine (HSI.out _ (below2 _ _ _)).mono ?_
  rintro e w1 ⟨rfl, q, hw1⟩
  have hb2 : Below w.heap.size w w1 := by rw [hw1]; exact (below2 w _ _).trans ⟨rfl, rfl, rfl, by simp, fun _ _ => rfl⟩
  clear hw1
  generalize decide (m.b = n.b) = q at *
  go_wp2
  go_ret
  exact ⟨by rw [HF.out]; rfl, hb2⟩
end Go.Proofs.Ytioecnfgliponaa
