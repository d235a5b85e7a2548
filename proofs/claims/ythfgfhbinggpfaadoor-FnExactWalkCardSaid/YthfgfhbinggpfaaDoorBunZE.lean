/-
  Own texts, several together.
-/
import Derived.Test.YthfgfhbinggpfaaDoorBunZB
import Derived.Test.YthfgfhbinggpfaaDoorBunZA
import Derived.BigQuiet
import Derived.Deep.QuietTactic
import Derived.Test.YthfgfhbinggpfaaDoorSNodeW
import Derived.Test.YthfgfhbinggpfaaDoorBunZC
import Derived.Test.YthfgfhbinggpfaaDoorBunZD
import Derived.Test.YthfgfhbinggpfaaDoorSShapeW
/-
  Own text: whether two nodes are the same, as the other program tells it.
-/
namespace Go.Proofs.YthfgfhbinggpfaaDoor
open Go.RowKit

def ndSame (m n : NodeD) : Bool := decide (m.k = n.k) && decide (m.g = n.g) && decide (m.t = n.t) && decide (m.s = n.s) && decide (m.b = n.b)
theorem ndSame_refl (n : NodeD) : ndSame n n = true := by simp [ndSame]

end Go.Proofs.YthfgfhbinggpfaaDoor

/-
  Own text: the program's own helpers over rows of numbers, how many blocks a size asks for, whether two nodes are the same.
-/
namespace Go.Proofs.YthfgfhbinggpfaaDoor
open Go.RowKit

theorem Rd.take {k : IntKind} {w : World} {a : Option Addr} {l : List Int} (h : Rd k w a l) (n : Nat) : Rd k w a (l.take n) := by
  rcases h with rfl | ⟨b, off, rfl, h1, h2⟩
  · left; simp
  · refine .inr ⟨b, off, rfl, h1, fun i hi => ?_⟩
    rw [List.length_take] at hi
    rw [h2 i (by omega)]
    simp [List.getD, show i < n by omega]
theorem implBlocks (s : Int) (w : World) :
    Calls Tryd.prog 72 #[.int .i64 s] w fun e w' => e = .returned (.int .i64 (blksFor s)) ∧ w' = w := by
  have HB : Hid (blksFor s = if s ≤ 0 then 0 else if 80 ≤ s then 5 else (s + 15) / 16) := rfl
  have hs : s < 0 ∨ s = 0 ∨ s = 80 ∨ 80 < s ∨ (0 < s ∧ s < 80) := by omega
  rcases hs with h | rfl | rfl | h | h
  · go_enter Tryd.func72, Tryd.ntmps72
    go_wp2
    go_ret
    exact ⟨by rw [HB.out, if_pos (by omega)]; rfl, rfl⟩
  · go_enter Tryd.func72, Tryd.ntmps72
    go_wp2
    go_ret
    exact ⟨by rw [HB.out]; rfl, rfl⟩
  · go_enter Tryd.func72, Tryd.ntmps72
    go_wp2
    go_ret
    exact ⟨by rw [HB.out]; rfl, rfl⟩
  · go_enter Tryd.func72, Tryd.ntmps72
    go_wp2
    go_ret
    exact ⟨by rw [HB.out, if_neg (by omega), if_pos (by omega)]; rfl, rfl⟩
  · obtain ⟨h, h'⟩ := h
    go_enter Tryd.func72, Tryd.ntmps72
    go_wp2
    go_ret
    refine ⟨?_, rfl⟩
    rw [HB.out, if_neg (by omega), if_neg (by omega), show s + 16 - 1 = s + 15 by omega]
    rfl

set_option maxRecDepth 20000 in
set_option maxHeartbeats 1000000 in
theorem eqSl (a c : Option Addr) (ca cc : Nat) (l m : List Int) (w : World) (hl : l.length ≤ 4194304) (hm : m.length ≤ maxLen) (hr : Rd .i64 w a l) (hs : Rd .i64 w c m) :
    Calls Tryd.prog 88 #[.slice a l.length ca, .slice c m.length cc] w fun e w' => e = .returned (.bool (decide (l = m))) ∧ ∃ q, w' = w.drewN q := by
  by_cases hne : l.length = m.length
  · have HCS : Hid (∀ k, k < l.length → ∃ b off x, a = some ⟨b, off, none⟩ ∧ w.cell? ⟨b, off + k, none⟩ = some (.int .i64 x) ∧ l[k]? = some x) := by
      intro k hk
      rcases hr with rfl | ⟨b, off, rfl, h1, h2⟩
      · simp at hk
      · exact ⟨b, off, l[k], rfl, by rw [h2 k hk]; simp [List.getD, hk], by simp [hk]⟩
    have HDS : Hid (∀ k, k < l.length → ∃ b off x, c = some ⟨b, off, none⟩ ∧ w.cell? ⟨b, off + k, none⟩ = some (.int .i64 x) ∧ m[k]? = some x) := by
      intro k hk
      have hk2 : k < m.length := by omega
      rcases hs with rfl | ⟨b, off, rfl, h1, h2⟩
      · simp at hk2
      · exact ⟨b, off, m[k], rfl, by rw [h2 k hk2]; simp [List.getD, hk2], by simp [hk2]⟩
    have HAL : Hid ((∀ j : Nat, j < l.length → l[j]? = m[j]?) → decide (l = m) = true) := by
      intro h
      refine decide_eq_true (List.ext_getElem? ?_)
      intro j
      by_cases hj : j < l.length
      · exact h j hj
      · rw [List.getElem?_eq_none (by omega), List.getElem?_eq_none (by omega)]
    have HNE : Hid (∀ (j : Nat) (x y : Int), l[j]? = some x → m[j]? = some y → x ≠ y → decide (l = m) = false) := by
      intro j x y h1 h2 h3
      refine decide_eq_false fun h => h3 ?_
      rw [h, h2] at h1
      injection h1 with h1
      exact h1.symm
    clear hr hs hm
    rw [← hne]
    clear hne
    generalize hL : l.length = L at *
    go_enter Tryd.func88, Tryd.ntmps88
    go_wp2
    go_loopw [13] (fun i wr => ∃ k : Nat, k ≤ L ∧ i = .int .i64 k ∧ Hid (∀ j, j < k → l[j]? = m[j]?) ∧ ∃ q, wr = w.drewN q) (fun i _ => L - (intOf i).toNat)
    case atStart => exact ⟨0, Nat.zero_le _, rfl, fun j h => by omega, 0, rfl⟩
    case round =>
      obtain ⟨k, hk, rfl, HA, q, hwr⟩ := hrel
      by_cases hlt : k < L
      · obtain ⟨b, off, x, rfl, hcx, hx⟩ := HCS.out k hlt
        obtain ⟨b2, off2, y, rfl, hcy, hy⟩ := HDS.out k hlt
        have zx : wr.cell? ⟨b, off + k, none⟩ = some (.int .i64 x) := by rw [hwr]; exact hcx
        have zy : wr.cell? ⟨b2, off2 + k, none⟩ = some (.int .i64 y) := by rw [hwr]; exact hcy
        have HX : Hid (l[k]? = some x ∧ m[k]? = some y) := ⟨hx, hy⟩
        have HQ : Hid (∀ p, ∃ q, wr.drewN p = w.drewN q) := fun p => ⟨q + p, by rw [hwr, World.drewN_drewN]⟩
        have j0 : (0 : Int) ≤ (k : Int) := by omega
        have j1 : (k : Int) < (L : Int) := by omega
        clear hcx hcy hx hy hwr
        by_cases he : x = y
        · have HA2 : Hid (∀ j, j < k + 1 → l[j]? = m[j]?) := by
            intro j hj
            by_cases e : j = k
            · rw [e, HX.out.1, HX.out.2, he]
            · exact HA.out j (by omega)
          subst he
          clear HA HX
          go_wp2
          go_quiet (fail)
          go_wp2
          go_roundw
          case rel => exact ⟨k + 1, by omega, by go_num, HA2, HQ.out _⟩
          case measure => simp [intOf]; omega
        · have HF : Hid (decide (l = m) = false) := HNE.out k x y HX.out.1 HX.out.2 he
          have e1 : decide (x = y) = false := decide_eq_false he
          have e2 : (x == y) = false := by simpa using he
          clear HA HX
          go_wp2
          go_quiet (fail)
          go_wp2
          go_ret
          exact ⟨by rw [HF.out]; rfl, HQ.out _⟩
      · obtain rfl : k = L := by omega
        have HT : Hid (decide (l = m) = true) := HAL.out HA.out
        go_wp2
        go_ret
        exact ⟨by rw [HT.out]; rfl, q, rfl⟩
  · have HF : Hid (decide (l = m) = false) := decide_eq_false fun h => hne (by rw [h])
    have h1 : ¬ ((l.length : Nat) : Int) = ((m.length : Nat) : Int) := by omega
    have h2 : (((l.length : Nat) : Int) == ((m.length : Nat) : Int)) = false := by simpa using h1
    go_enter Tryd.func88, Tryd.ntmps88
    go_wp2
    go_ret
    exact ⟨by rw [HF.out]; rfl, 0, rfl⟩

set_option maxRecDepth 20000 in
theorem indexI (a : Option Addr) (cap : Nat) (l : List Int) (y : Int) (w : World) (hl : l.length ≤ 4194304) (hr : Rd .i64 w a l) :
    Calls Tryd.prog 100 #[.slice a l.length cap, .int .i64 y] w fun e w' => ∃ i : Int, e = .returned (.int .i64 i) ∧ decide (0 ≤ i) = decide (y ∈ l) ∧ w' = w := by
  have HCS : Hid (∀ k (hk : k < l.length), ∃ b off, a = some ⟨b, off, none⟩ ∧ w.cell? ⟨b, off + k, none⟩ = some (.int .i64 l[k])) := by
    intro k hk
    obtain ⟨b, off, rfl, _, hc⟩ := hr.cellI k hk
    exact ⟨b, off, rfl, hc⟩
  clear hr
  go_enter Tryd.func100, Tryd.ntmps100
  go_wp2
  go_loopw [8] (fun i wr => ∃ k : Nat, k ≤ l.length ∧ i = .int .i64 k ∧ Hid (y ∉ l.take k) ∧ wr = w) (fun i _ => l.length - (intOf i).toNat)
  case atStart => exact ⟨0, Nat.zero_le _, rfl, by simp [Hid], rfl⟩
  case round =>
    obtain ⟨k, hk, rfl, HN, hwr⟩ := hrel
    subst wr
    by_cases hlt : k < l.length
    · obtain ⟨b, off, rfl, hc⟩ := HCS.out k hlt
      have HY : Hid (y = l[k] → decide (0 ≤ (k : Int)) = decide (y ∈ l)) := fun h => by rw [decide_eq_true (show y ∈ l by rw [h]; exact List.getElem_mem hlt), decide_eq_true (by omega)]
      have HM : Hid (y ≠ l[k] → y ∉ l.take (k + 1)) := by
        intro h hm
        rw [List.take_succ_eq_append_getElem hlt] at hm
        rcases List.mem_append.1 hm with hm | hm
        · exact HN.out hm
        · have hm2 : y = l[k] := by simpa using hm
          exact h hm2
      clear HN
      generalize l[k] = x at *
      by_cases he : y = x
      · have HT := HY.out he
        subst he
        clear HM HY
        go_wp2
        go_ret
        exact ⟨_, rfl, HT, rfl⟩
      · have HM2 : Hid (y ∉ l.take (k + 1)) := HM.out he
        have he2 : (y == x) = false := by simpa using he
        clear HM HY
        go_wp2
        go_roundw
        case rel => exact ⟨k + 1, by omega, by go_num, HM2, trivial⟩
        case measure => simp [intOf]; omega
    · obtain rfl : k = l.length := by omega
      have HF : Hid (decide (y ∈ l) = false) := by have := HN.out; rw [List.take_length] at this; exact decide_eq_false this
      go_wp2
      go_ret
      exact ⟨_, rfl, by rw [HF.out]; rfl, rfl⟩
theorem containsI (a : Option Addr) (cap : Nat) (l : List Int) (y : Int) (w : World) (hl : l.length ≤ 4194304) (hr : Rd .i64 w a l) :
    Calls Tryd.prog 89 #[.slice a l.length cap, .int .i64 y] w fun e w' => e = .returned (.bool (decide (y ∈ l))) ∧ w' = w := by
  have HI : Hid (Calls Tryd.prog 100 #[.slice a l.length cap, .int .i64 y] w fun e w' => ∃ i : Int, e = .returned (.int .i64 i) ∧ decide (0 ≤ i) = decide (y ∈ l) ∧ w' = w) := indexI a cap l y w hl hr
  clear hr hl
  generalize decide (y ∈ l) = q at *
  go_enter Tryd.func89, Tryd.ntmps89
  go_wp2_with fail
  refine HI.out.mono ?_
  rintro e w1 ⟨i, rfl, hq, hw⟩
  subst w1
  subst hq
  by_cases h : 0 ≤ i
  · go_wp2
    go_ret
    exact ⟨by simp [h], rfl⟩
  · go_wp2
    go_ret
    exact ⟨by simp, rfl⟩

set_option maxRecDepth 20000 in
set_option maxHeartbeats 4000000 in
theorem implNodeSame (v u : Value) (m n : NodeD) (w : World) (hl : m.b.length ≤ 4194304) (hr : RdN w v m) (hs : RdN w u n) :
    Calls Tryd.prog 70 #[v, u] w fun e w' => e = .returned (.bool (ndSame m n)) ∧ Below w.heap.size w w' := by
  obtain ⟨a, c, rfl, _, _, hr⟩ := hr
  obtain ⟨a', c', rfl, hn1, hn2, hs⟩ := hs
  have HZ : Hid (ndSame m n = (decide (m.k = n.k) && decide (m.g = n.g) && decide (m.t = n.t) && decide (m.s = n.s) && decide (m.b = n.b))) := rfl
  have HSI : Hid (∀ W, Below w.heap.size w W → Calls Tryd.prog 88 #[.slice a m.b.length c, .slice a' n.b.length c'] W fun e w' => e = .returned (.bool (decide (m.b = n.b))) ∧ ∃ q, w' = W.drewN q) :=
    fun W h => eqSl a a' c c' m.b n.b W hl (Nat.le_trans hn1 hn2) (hr.below h (Nat.le_refl _)) (hs.below h (Nat.le_refl _))
  clear hr hs hn1 hn2
  unfold aggN
  by_cases h0 : m.k = n.k
  rotate_left
  · have b0 : (m.k == n.k) = false := by simpa using h0
    have d0 : decide (m.k = n.k) = false := decide_eq_false h0
    have HF : Hid (ndSame m n = false) := by show _ = _; rw [HZ.out, d0]; simp
    clear h0
    go_enter Tryd.func70, Tryd.ntmps70
    go_wp2
    go_ret
    exact ⟨by rw [HF.out]; rfl, by exact below2 _ _ _⟩
  have b0 : (m.k == n.k) = true := by simpa using h0
  have d0 : decide (m.k = n.k) = true := decide_eq_true h0
  clear h0
  by_cases h1 : m.g = n.g
  rotate_left
  · have b1 : (m.g == n.g) = false := by simpa using h1
    have d1 : decide (m.g = n.g) = false := decide_eq_false h1
    have HF : Hid (ndSame m n = false) := by show _ = _; rw [HZ.out, d1]; simp
    clear h1
    go_enter Tryd.func70, Tryd.ntmps70
    go_wp2
    go_ret
    exact ⟨by rw [HF.out]; rfl, by exact below2 _ _ _⟩
  have b1 : (m.g == n.g) = true := by simpa using h1
  have d1 : decide (m.g = n.g) = true := decide_eq_true h1
  clear h1
  by_cases h2 : m.t = n.t
  rotate_left
  · have b2 : (m.t == n.t) = false := by simpa using h2
    have d2 : decide (m.t = n.t) = false := decide_eq_false h2
    have HF : Hid (ndSame m n = false) := by show _ = _; rw [HZ.out, d2]; simp
    clear h2
    go_enter Tryd.func70, Tryd.ntmps70
    go_wp2
    go_ret
    exact ⟨by rw [HF.out]; rfl, by exact below2 _ _ _⟩
  have b2 : (m.t == n.t) = true := by simpa using h2
  have d2 : decide (m.t = n.t) = true := decide_eq_true h2
  clear h2
  by_cases h3 : m.s = n.s
  rotate_left
  · have b3 : (m.s == n.s) = false := by simpa using h3
    have d3 : decide (m.s = n.s) = false := decide_eq_false h3
    have HF : Hid (ndSame m n = false) := by show _ = _; rw [HZ.out, d3]; simp
    clear h3
    go_enter Tryd.func70, Tryd.ntmps70
    go_wp2
    go_ret
    exact ⟨by rw [HF.out]; rfl, by exact below2 _ _ _⟩
  have b3 : (m.s == n.s) = true := by simpa using h3
  have d3 : decide (m.s = n.s) = true := decide_eq_true h3
  clear h3
  have HF : Hid (ndSame m n = decide (m.b = n.b)) := by show _ = _; rw [HZ.out, d0, d1, d2, d3]; simp
  clear HZ
  go_enter Tryd.func70, Tryd.ntmps70
  go_wp2_with fail
  refine (HSI.out _ (below2 _ _ _)).mono ?_
  rintro e w1 ⟨rfl, q, hw1⟩
  have hb2 : Below w.heap.size w w1 := by rw [hw1]; exact (below2 w _ _).trans ⟨rfl, rfl, rfl, by simp, fun _ _ => rfl⟩
  clear hw1
  generalize decide (m.b = n.b) = q at *
  go_wp2
  go_ret
  exact ⟨by rw [HF.out]; rfl, hb2⟩
end Go.Proofs.YthfgfhbinggpfaaDoor

/-
  Own text: which nodes are right, as the program tells it.
-/
namespace Go.Proofs.YthfgfhbinggpfaaDoor
open Go.RowKit

theorem upToW (x hi : Int) (w : World) :
    Calls Tryd.prog 71 #[.int .i64 x, .int .i64 hi] w fun e w' => e = .returned (.bool (decide (0 ≤ x) && decide (x ≤ hi))) ∧ w' = w := by
  by_cases h1 : 0 ≤ x <;> by_cases h2 : x ≤ hi
  all_goals
    go_enter Tryd.func71, Tryd.ntmps71
    go_wp2
    go_ret
    exact ⟨by simp [h1, h2], rfl⟩
noncomputable def blkOk (b : List Int) : Bool := @decide (BlkP b) (Classical.propDecidable _)
theorem blkOk_yes {b : List Int} (h : BlkP b) : blkOk b = true := by unfold blkOk; exact @decide_eq_true _ (Classical.propDecidable _) h
theorem blkOk_no {b : List Int} (h : ¬ BlkP b) : blkOk b = false := by unfold blkOk; exact @decide_eq_false _ (Classical.propDecidable _) h

set_option maxRecDepth 20000 in
set_option maxHeartbeats 1000000 in
theorem blocksW (a : Option Addr) (cap : Nat) (b : List Int) (w : World) (hl : b.length ≤ 4194304) (hc1 : b.length ≤ cap) (_ : cap ≤ maxLen) (hr : Rd .i64 w a b) :
    Calls Tryd.prog 73 #[.slice a b.length cap] w fun e w' => e = .returned (.bool (blkOk b)) ∧ w' = w := by
  have HCS : Hid (∀ k (hk : k < b.length), ∃ g off, a = some ⟨g, off, none⟩ ∧ w.cell? ⟨g, off + k, none⟩ = some (.int .i64 b[k])) := by
    intro k hk
    obtain ⟨g, off, rfl, _, hc⟩ := hr.cellI k hk
    exact ⟨g, off, rfl, hc⟩
  have HUP : Hid (∀ (x : Int) Q, (decide (0 ≤ x) && decide (x ≤ 35)) = Q → Calls Tryd.prog 71 #[.int .i64 x, .int .i64 35] w fun e w' => e = .returned (.bool Q) ∧ w' = w) := by
    rintro x Q rfl
    exact upToW x 35 w
  have HCT : Hid (∀ (k : Nat) (y : Int) Q, k ≤ b.length → decide (y ∈ b.take k) = Q → Calls Tryd.prog 89 #[.slice a k cap, .int .i64 y] w fun e w' => e = .returned (.bool Q) ∧ w' = w) := by
    rintro k y Q hk rfl
    have h := containsI a cap (b.take k) y w (by rw [List.length_take]; omega) (hr.take k)
    rwa [List.length_take, Nat.min_eq_left hk] at h
  clear hr
  go_enter Tryd.func73, Tryd.ntmps73
  go_wp2
  go_loopw [3, 4, 7] (fun _ _ i wr => ∃ k : Nat, k ≤ b.length ∧ i = .int .i64 k ∧ Hid (BlkTo b k) ∧ wr = w) (fun _ _ i _ => b.length - (intOf i).toNat)
  case atStart => exact ⟨0, Nat.zero_le _, rfl, ⟨fun i _ h => by omega, fun i j _ _ _ h => by omega⟩, rfl⟩
  case round =>
    obtain ⟨k, hk, rfl, HN, hwr⟩ := hrel
    subst wr
    by_cases hlt : k < b.length
    · obtain ⟨g, off, rfl, hc⟩ := HCS.out k hlt
      have HBD : Hid ((¬ (0 ≤ b[k] ∧ b[k] ≤ 35) ∨ b[k] ∈ b.take k) → blkOk b = false) := fun h => blkOk_no (blk_bad hlt h)
      have HNX : Hid ((0 ≤ b[k] ∧ b[k] ≤ 35) → b[k] ∉ b.take k → BlkTo b (k + 1)) := fun h1 h2 => HN.out.next hlt h1 h2
      have j0 : (0 : Int) ≤ (k : Int) := by omega
      have j1 : (k : Int) < (b.length : Int) := by omega
      have j2 : (k : Int) ≤ (cap : Int) := by omega
      clear HN HCS
      generalize b[k] = x at *
      by_cases p : 0 ≤ x ∧ x ≤ 35
      · have hp : (decide (0 ≤ x) && decide (x ≤ 35)) = true := by simp [p.1, p.2]
        by_cases q : x ∈ b.take k
        · have HF : Hid (blkOk b = false) := HBD.out (.inr q)
          have hq : decide (x ∈ b.take k) = true := decide_eq_true q
          have H1 : Hid (Calls Tryd.prog 71 #[.int .i64 x, .int .i64 35] w fun e w' => e = .returned (.bool true) ∧ w' = w) := HUP.out x true hp
          have H2 : Hid (Calls Tryd.prog 89 #[.slice (some ⟨g, off, none⟩) k cap, .int .i64 x] w fun e w' => e = .returned (.bool true) ∧ w' = w) := HCT.out k x true hk hq
          clear HBD HNX p q hp hq HUP HCT
          go_wp2_with fail
          refine H1.out.mono ?_
          rintro e w1 ⟨rfl, hw1⟩
          subst w1
          go_wp2_with fail
          refine H2.out.mono ?_
          rintro e w1 ⟨rfl, hw1⟩
          subst w1
          go_wp2
          go_ret
          exact ⟨by rw [HF.out]; rfl, rfl⟩
        · have HT : Hid (BlkTo b (k + 1)) := HNX.out p q
          have hq : decide (x ∈ b.take k) = false := decide_eq_false q
          have H1 : Hid (Calls Tryd.prog 71 #[.int .i64 x, .int .i64 35] w fun e w' => e = .returned (.bool true) ∧ w' = w) := HUP.out x true hp
          have H2 : Hid (Calls Tryd.prog 89 #[.slice (some ⟨g, off, none⟩) k cap, .int .i64 x] w fun e w' => e = .returned (.bool false) ∧ w' = w) := HCT.out k x false hk hq
          clear HBD HNX p q hp hq HUP HCT
          go_wp2_with fail
          refine H1.out.mono ?_
          rintro e w1 ⟨rfl, hw1⟩
          subst w1
          go_wp2_with fail
          refine H2.out.mono ?_
          rintro e w1 ⟨rfl, hw1⟩
          subst w1
          go_wp2
          go_roundw
          case rel => exact ⟨k + 1, by omega, by go_num, HT, trivial⟩
          case measure => simp [intOf]; omega
      · have HF : Hid (blkOk b = false) := HBD.out (.inl p)
        have hp : (decide (0 ≤ x) && decide (x ≤ 35)) = false := by
          rw [Bool.and_eq_false_iff]
          by_cases h9 : 0 ≤ x
          · right; exact decide_eq_false (by omega)
          · left; exact decide_eq_false h9
        have H1 : Hid (Calls Tryd.prog 71 #[.int .i64 x, .int .i64 35] w fun e w' => e = .returned (.bool false) ∧ w' = w) := HUP.out x false hp
        clear HBD HNX p hp HUP HCT
        go_wp2_with fail
        refine H1.out.mono ?_
        rintro e w1 ⟨rfl, hw1⟩
        subst w1
        go_wp2
        go_ret
        exact ⟨by rw [HF.out]; rfl, rfl⟩
    · obtain rfl : k = b.length := by omega
      have HT : Hid (blkOk b = true) := blkOk_yes HN.out.all
      go_wp2
      go_ret
      exact ⟨by rw [HT.out]; rfl, rfl⟩

theorem and_no {x lo hi : Int} (h : ¬ (lo ≤ x ∧ x ≤ hi)) : (decide (lo ≤ x) && decide (x ≤ hi)) = false := by
  rw [Bool.and_eq_false_iff]
  by_cases h9 : lo ≤ x
  · right; exact decide_eq_false fun h8 => h ⟨h9, h8⟩
  · left; exact decide_eq_false h9
theorem same_zero {n : NodeD} (hk : n.k = 0) : ndSame n zeroN = ndOk n := by
  rw [free_ok hk]
  unfold ndSame zeroN
  simp [hk]
theorem Rd.none {w : World} {a : Option Addr} : Rd .i64 w a [] := .inl rfl

set_option maxRecDepth 20000 in
set_option maxHeartbeats 4000000 in
theorem implNodeOk (v : Value) (n : NodeD) (w : World) (hl : n.b.length ≤ 1048576) (hr : RdN w v n) :
    Calls Tryd.prog 47 #[v] w fun e w' => e = .returned (.bool (ndOk n)) ∧ Below w.heap.size w w' := by
  have hrd := hr
  obtain ⟨a, c, rfl, hcap, hcmx, hr⟩ := hr
  have HRQ : Hid (∀ q, Rd .i64 ((w.alloc (.cells #[.int .i64 n.k, .int .i64 n.g, .int .i64 n.t, .int .i64 n.s, .slice a n.b.length c] 44)).drewN q) a n.b ∧ Below w.heap.size w ((w.alloc (.cells #[.int .i64 n.k, .int .i64 n.g, .int .i64 n.t, .int .i64 n.s, .slice a n.b.length c] 44)).drewN q)) := fun q => ⟨hr.below ((below1 w _).trans ⟨rfl, rfl, rfl, Nat.le_refl _, fun _ _ => rfl⟩) (Nat.le_refl _), (below1 w _).trans ⟨rfl, rfl, rfl, by simp, fun _ _ => rfl⟩⟩
  have HSM : Hid (n.k = 0 → Calls Tryd.prog 70 #[.agg #[.int .i64 n.k, .int .i64 n.g, .int .i64 n.t, .int .i64 n.s, .slice a n.b.length c], .agg #[.int .i64 0, .int .i64 0, .int .i64 0, .int .i64 0, .slice none 0 0]] (w.alloc (.cells #[.int .i64 n.k, .int .i64 n.g, .int .i64 n.t, .int .i64 n.s, .slice a n.b.length c] 44)) fun e w' => e = .returned (.bool (ndOk n)) ∧ Below w.heap.size w w') := by
    intro hk
    rw [← same_zero hk]
    refine (implNodeSame (aggN n (.slice a n.b.length c)) (aggN zeroN (.slice none 0 0)) n zeroN (w.alloc (.cells #[.int .i64 n.k, .int .i64 n.g, .int .i64 n.t, .int .i64 n.s, .slice a n.b.length c] 44)) (by omega) (hrd.below (below1 _ _) (Nat.le_refl _)) ⟨none, 0, rfl, Nat.le_refl _, Nat.zero_le _, .inl rfl⟩).mono ?_
    rintro e w' ⟨rfl, hb⟩
    exact ⟨rfl, (below1 w _).trans (hb.mono (by simp))⟩
  have hb1 : Below w.heap.size w (w.alloc (.cells #[.int .i64 n.k, .int .i64 n.g, .int .i64 n.t, .int .i64 n.s, .slice a n.b.length c] 44)) := below1 _ _
  clear hr hrd
  unfold aggN
  by_cases hk0 : n.k = 0
  · have hk1 : (n.k == 0) = true := by simpa using hk0
    have HS := HSM.out hk0
    have HS2 : Hid (Calls Tryd.prog 70 #[.agg #[.int .i64 n.k, .int .i64 n.g, .int .i64 n.t, .int .i64 n.s, .slice a n.b.length c], .agg #[.int .i64 0, .int .i64 0, .int .i64 0, .int .i64 0, .slice none 0 0]] (w.alloc (.cells #[.int .i64 n.k, .int .i64 n.g, .int .i64 n.t, .int .i64 n.s, .slice a n.b.length c] 44)) fun e w' => e = .returned (.bool (ndOk n)) ∧ Below w.heap.size w w') := HS
    clear HS HSM hk0 HRQ hb1
    go_enter Tryd.func47, Tryd.ntmps47
    go_wp2_with fail
    refine HS2.out.mono ?_
    rintro e w1 ⟨rfl, hb⟩
    go_wp2
    go_ret
    exact ⟨rfl, hb⟩
  have hk1 : (n.k == 0) = false := by simpa using hk0
  have HNO : Hid ((NumP n → (n.k = 2 → n.g = 0 ∧ n.t = 0) → ¬ BlkP n.b) → ndOk n = false) := nod_no hk0
  clear HSM
  by_cases hk3 : 1 ≤ n.k ∧ n.k ≤ 3
  rotate_left
  · have HF : Hid (ndOk n = false) := HNO.out fun h => by have h0 := h; unfold NumP at h0; omega
    have e1 : (n.k == 1) = false := by simp; omega
    have e2 : (n.k == 2) = false := by simp; omega
    have e3 : (n.k == 3) = false := by simp; omega
    clear HNO hk3 hk0 HRQ
    go_enter Tryd.func47, Tryd.ntmps47
    go_wp2
    go_ret
    exact ⟨by rw [HF.out]; rfl, hb1⟩
  by_cases hd : n.k = 2 ∧ ¬ (n.g = 0 ∧ n.t = 0)
  · have HF : Hid (ndOk n = false) := HNO.out fun _ h => absurd (h hd.1) hd.2
    have e2 : (n.k == 2) = true := by simpa using hd.1
    by_cases hg : n.g = 0
    · have g2 : (n.t == 0) = false := by simp; exact fun h => hd.2 ⟨hg, h⟩
      rw [hg] at hb1 ⊢
      clear HNO hk3 hk0 HRQ hd hg
      go_enter Tryd.func47, Tryd.ntmps47
      go_wp2
      go_ret
      exact ⟨by rw [HF.out]; rfl, hb1⟩
    · have g1 : (n.g == 0) = false := by simpa using hg
      clear HNO hk3 hk0 HRQ hd
      go_enter Tryd.func47, Tryd.ntmps47
      go_wp2
      go_ret
      exact ⟨by rw [HF.out]; rfl, hb1⟩
  have HKK : Hid (n.k = 2 → n.g = 0 ∧ n.t = 0) := fun h => Classical.byContradiction fun h' => hd ⟨h, h'⟩
  have HUP : Hid (∀ (x hi : Int) Q W, (decide (0 ≤ x) && decide (x ≤ hi)) = Q → Calls Tryd.prog 71 #[.int .i64 x, .int .i64 hi] W fun e w' => e = .returned (.bool Q) ∧ w' = W) := by
    rintro x hi Q W rfl
    exact upToW x hi W
  have HBF : Hid (∀ W, Calls Tryd.prog 72 #[.int .i64 n.s] W fun e w' => e = .returned (.int .i64 (blksFor n.s)) ∧ w' = W) := fun W => implBlocks n.s W
  have HBO : Hid (∀ q Q, blkOk n.b = Q → Calls Tryd.prog 73 #[.slice a n.b.length c] ((w.alloc (.cells #[.int .i64 n.k, .int .i64 n.g, .int .i64 n.t, .int .i64 n.s, .slice a n.b.length c] 44)).drewN q) fun e w' => e = .returned (.bool Q) ∧ w' = (w.alloc (.cells #[.int .i64 n.k, .int .i64 n.g, .int .i64 n.t, .int .i64 n.s, .slice a n.b.length c] 44)).drewN q) := by
    rintro q Q rfl
    exact blocksW a c n.b _ (by omega) hcap hcmx (HRQ.out q).1
  have HBQ : Hid (∀ q, Below w.heap.size w ((w.alloc (.cells #[.int .i64 n.k, .int .i64 n.g, .int .i64 n.t, .int .i64 n.s, .slice a n.b.length c] 44)).drewN q)) := fun q => (HRQ.out q).2
  have HG0 : Hid (∀ W, Calls Tryd.prog 71 #[.int .i64 0, .int .i64 1000000] W fun e w' => e = .returned (.bool true) ∧ w' = W) := fun W => HUP.out 0 1000000 true W (by decide)
  have HT0 : Hid (∀ W, Calls Tryd.prog 71 #[.int .i64 0, .int .i64 100000] W fun e w' => e = .returned (.bool true) ∧ w' = W) := fun W => HUP.out 0 100000 true W (by decide)
  clear HRQ hb1 hd
  have hkc : (n.k = 1 ∨ n.k = 3) ∨ n.k = 2 := by omega
  by_cases p1 : 0 ≤ n.g ∧ n.g ≤ 1000000
  rotate_left
  · have HF : Hid (ndOk n = false) := HNO.out fun h => by have h0 := h; unfold NumP at h0; omega
    have c0 : (decide (0 ≤ n.g) && decide (n.g ≤ 1000000)) = false := and_no p1
    clear HNO p1
    rcases hkc with (hkc | hkc) | hkc
    · have e1 : (n.k == 1) = true := by simpa using hkc
      have e2 : (n.k == 2) = false := by simp; omega
      clear hkc hk3 hk0 HKK
      go_enter Tryd.func47, Tryd.ntmps47
      go_wp2
      go_quiet (first | (go_at_call_of 71 (n.g); exact Calls.quiet_of_same (HUP.out n.g 1000000 false _ c0)))
      go_wp2
      go_ret
      exact ⟨by rw [HF.out]; rfl, HBQ.out _⟩
    · have e1 : (n.k == 1) = false := by simp; omega
      have e2 : (n.k == 2) = false := by simp; omega
      have e3 : (n.k == 3) = true := by simpa using hkc
      clear hkc hk3 hk0 HKK
      go_enter Tryd.func47, Tryd.ntmps47
      go_wp2
      go_quiet (first | (go_at_call_of 71 (n.g); exact Calls.quiet_of_same (HUP.out n.g 1000000 false _ c0)))
      go_wp2
      go_ret
      exact ⟨by rw [HF.out]; rfl, HBQ.out _⟩
    · exfalso
      have := HKK.out hkc
      have hc := c0
      rw [this.1] at hc
      simp at hc
  have c0 : (decide (0 ≤ n.g) && decide (n.g ≤ 1000000)) = true := by simp [p1.1, p1.2]
  by_cases p2 : 0 ≤ n.t ∧ n.t ≤ 100000
  rotate_left
  · have HF : Hid (ndOk n = false) := HNO.out fun h => by have h0 := h; unfold NumP at h0; omega
    have c1 : (decide (0 ≤ n.t) && decide (n.t ≤ 100000)) = false := and_no p2
    clear HNO p2
    rcases hkc with (hkc | hkc) | hkc
    · have e1 : (n.k == 1) = true := by simpa using hkc
      have e2 : (n.k == 2) = false := by simp; omega
      clear hkc hk3 hk0 HKK
      go_enter Tryd.func47, Tryd.ntmps47
      go_wp2
      go_quiet (first | (go_at_call_of 71 (n.g); exact Calls.quiet_of_same (HUP.out n.g 1000000 true _ c0)) | (go_at_call_of 71 (n.t); exact Calls.quiet_of_same (HUP.out n.t 100000 false _ c1)))
      go_wp2
      go_ret
      exact ⟨by rw [HF.out]; rfl, HBQ.out _⟩
    · have e1 : (n.k == 1) = false := by simp; omega
      have e2 : (n.k == 2) = false := by simp; omega
      have e3 : (n.k == 3) = true := by simpa using hkc
      clear hkc hk3 hk0 HKK
      go_enter Tryd.func47, Tryd.ntmps47
      go_wp2
      go_quiet (first | (go_at_call_of 71 (n.g); exact Calls.quiet_of_same (HUP.out n.g 1000000 true _ c0)) | (go_at_call_of 71 (n.t); exact Calls.quiet_of_same (HUP.out n.t 100000 false _ c1)))
      go_wp2
      go_ret
      exact ⟨by rw [HF.out]; rfl, HBQ.out _⟩
    · exfalso
      have := HKK.out hkc
      have hc := c1
      rw [this.2] at hc
      simp at hc
  have c1 : (decide (0 ≤ n.t) && decide (n.t ≤ 100000)) = true := by simp [p2.1, p2.2]
  by_cases p3 : 0 ≤ n.s ∧ n.s ≤ 80
  rotate_left
  · have HF : Hid (ndOk n = false) := HNO.out fun h => by have h0 := h; unfold NumP at h0; omega
    have c2 : (decide (0 ≤ n.s) && decide (n.s ≤ 80)) = false := and_no p3
    clear HNO p3
    rcases hkc with (hkc | hkc) | hkc
    · have e1 : (n.k == 1) = true := by simpa using hkc
      have e2 : (n.k == 2) = false := by simp; omega
      clear hkc hk3 hk0 HKK
      go_enter Tryd.func47, Tryd.ntmps47
      go_wp2
      go_quiet (first | (go_at_call_of 71 (n.g); exact Calls.quiet_of_same (HUP.out n.g 1000000 true _ c0)) | (go_at_call_of 71 (n.t); exact Calls.quiet_of_same (HUP.out n.t 100000 true _ c1)) | (go_at_call_of 71 (n.s); exact Calls.quiet_of_same (HUP.out n.s 80 false _ c2)))
      go_wp2
      go_ret
      exact ⟨by rw [HF.out]; rfl, HBQ.out _⟩
    · have e1 : (n.k == 1) = false := by simp; omega
      have e2 : (n.k == 2) = false := by simp; omega
      have e3 : (n.k == 3) = true := by simpa using hkc
      clear hkc hk3 hk0 HKK
      go_enter Tryd.func47, Tryd.ntmps47
      go_wp2
      go_quiet (first | (go_at_call_of 71 (n.g); exact Calls.quiet_of_same (HUP.out n.g 1000000 true _ c0)) | (go_at_call_of 71 (n.t); exact Calls.quiet_of_same (HUP.out n.t 100000 true _ c1)) | (go_at_call_of 71 (n.s); exact Calls.quiet_of_same (HUP.out n.s 80 false _ c2)))
      go_wp2
      go_ret
      exact ⟨by rw [HF.out]; rfl, HBQ.out _⟩
    · have e2 : (n.k == 2) = true := by simpa using hkc
      obtain ⟨hg, ht⟩ := HKK.out hkc
      simp only [hg, ht] at HBQ HBO ⊢
      clear hkc hk3 hk0 HKK hg ht
      go_enter Tryd.func47, Tryd.ntmps47
      go_wp2
      go_quiet (first | (go_at_call_of 71 (1000000 : Int); exact Calls.quiet_of_same (HG0.out _)) | (go_at_call_of 71 (100000 : Int); exact Calls.quiet_of_same (HT0.out _)) | (go_at_call_of 71 (n.s); exact Calls.quiet_of_same (HUP.out n.s 80 false _ c2)))
      go_wp2
      go_ret
      exact ⟨by rw [HF.out]; rfl, HBQ.out _⟩
  have c2 : (decide (0 ≤ n.s) && decide (n.s ≤ 80)) = true := by simp [p3.1, p3.2]
  by_cases p4 : (n.b.length : Int) = blksFor n.s
  rotate_left
  · have HF : Hid (ndOk n = false) := HNO.out fun h => absurd h.2.2.2.2.2.2.2.2 p4
    have d4 : decide ((n.b.length : Int) = blksFor n.s) = false := decide_eq_false p4
    have c4 : ((n.b.length : Int) == blksFor n.s) = false := by simpa using p4
    clear HNO p1 p2 p3
    rcases hkc with (hkc | hkc) | hkc
    · have e1 : (n.k == 1) = true := by simpa using hkc
      have e2 : (n.k == 2) = false := by simp; omega
      clear hkc hk3 hk0 HKK
      go_enter Tryd.func47, Tryd.ntmps47
      go_wp2
      go_quiet (first | (go_at_call_of 71 (n.g); exact Calls.quiet_of_same (HUP.out n.g 1000000 true _ c0)) | (go_at_call_of 71 (n.t); exact Calls.quiet_of_same (HUP.out n.t 100000 true _ c1)) | (go_at_call_of 71 (n.s); exact Calls.quiet_of_same (HUP.out n.s 80 true _ c2)) | (go_at_call 72; exact Calls.quiet_of_same (HBF.out _)))
      go_wp2
      go_ret
      exact ⟨by rw [HF.out]; rfl, HBQ.out _⟩
    · have e1 : (n.k == 1) = false := by simp; omega
      have e2 : (n.k == 2) = false := by simp; omega
      have e3 : (n.k == 3) = true := by simpa using hkc
      clear hkc hk3 hk0 HKK
      go_enter Tryd.func47, Tryd.ntmps47
      go_wp2
      go_quiet (first | (go_at_call_of 71 (n.g); exact Calls.quiet_of_same (HUP.out n.g 1000000 true _ c0)) | (go_at_call_of 71 (n.t); exact Calls.quiet_of_same (HUP.out n.t 100000 true _ c1)) | (go_at_call_of 71 (n.s); exact Calls.quiet_of_same (HUP.out n.s 80 true _ c2)) | (go_at_call 72; exact Calls.quiet_of_same (HBF.out _)))
      go_wp2
      go_ret
      exact ⟨by rw [HF.out]; rfl, HBQ.out _⟩
    · have e2 : (n.k == 2) = true := by simpa using hkc
      obtain ⟨hg, ht⟩ := HKK.out hkc
      simp only [hg, ht] at HBQ HBO ⊢
      clear hkc hk3 hk0 HKK hg ht
      go_enter Tryd.func47, Tryd.ntmps47
      go_wp2
      go_quiet (first | (go_at_call_of 71 (1000000 : Int); exact Calls.quiet_of_same (HG0.out _)) | (go_at_call_of 71 (100000 : Int); exact Calls.quiet_of_same (HT0.out _)) | (go_at_call_of 71 (n.s); exact Calls.quiet_of_same (HUP.out n.s 80 true _ c2)) | (go_at_call 72; exact Calls.quiet_of_same (HBF.out _)))
      go_wp2
      go_ret
      exact ⟨by rw [HF.out]; rfl, HBQ.out _⟩
  have HNP : Hid (NumP n) := ⟨hk3.1, hk3.2, p1.1, p1.2, p2.1, p2.2, p3.1, p3.2, p4⟩
  have HF : Hid (ndOk n = blkOk n.b) := by
    show _ = _
    by_cases hB : BlkP n.b
    · rw [blkOk_yes hB, ndOk_yes (.inr ⟨HNP.out, HKK.out, hB⟩)]
    · rw [blkOk_no hB]; exact HNO.out fun _ _ => hB
  have HBG : Hid (∀ W, Calls Tryd.prog 72 #[.int .i64 n.s] W fun e w' => e = .returned (.int .i64 (n.b.length : Int)) ∧ w' = W) := by
    intro W
    rw [p4]
    exact implBlocks n.s W
  clear HNO p1 p2 p3 HNP p4
  obtain ⟨q, hq⟩ : ∃ q, blkOk n.b = q := ⟨_, rfl⟩
  rw [hq] at HF
  have HBR : Hid (∀ p, Calls Tryd.prog 73 #[.slice a n.b.length c] ((w.alloc (.cells #[.int .i64 n.k, .int .i64 n.g, .int .i64 n.t, .int .i64 n.s, .slice a n.b.length c] 44)).drewN p) fun e w' => e = .returned (.bool q) ∧ w' = (w.alloc (.cells #[.int .i64 n.k, .int .i64 n.g, .int .i64 n.t, .int .i64 n.s, .slice a n.b.length c] 44)).drewN p) := fun p => HBO.out p q hq
  clear hq HBO
  rcases hkc with (hkc | hkc) | hkc
  · have e1 : (n.k == 1) = true := by simpa using hkc
    have e2 : (n.k == 2) = false := by simp; omega
    clear hkc hk3 hk0 HKK
    go_enter Tryd.func47, Tryd.ntmps47
    go_wp2
    go_quiet (first | (go_at_call_of 71 (n.g); exact Calls.quiet_of_same (HUP.out n.g 1000000 true _ c0)) | (go_at_call_of 71 (n.t); exact Calls.quiet_of_same (HUP.out n.t 100000 true _ c1)) | (go_at_call_of 71 (n.s); exact Calls.quiet_of_same (HUP.out n.s 80 true _ c2)) | (go_at_call 72; exact Calls.quiet_of_same (HBG.out _)) | (go_at_call 73; exact Calls.quiet_of_same (HBR.out _)))
    go_wp2
    go_ret
    exact ⟨by rw [HF.out]; rfl, HBQ.out _⟩
  · have e1 : (n.k == 1) = false := by simp; omega
    have e2 : (n.k == 2) = false := by simp; omega
    have e3 : (n.k == 3) = true := by simpa using hkc
    clear hkc hk3 hk0 HKK
    go_enter Tryd.func47, Tryd.ntmps47
    go_wp2
    go_quiet (first | (go_at_call_of 71 (n.g); exact Calls.quiet_of_same (HUP.out n.g 1000000 true _ c0)) | (go_at_call_of 71 (n.t); exact Calls.quiet_of_same (HUP.out n.t 100000 true _ c1)) | (go_at_call_of 71 (n.s); exact Calls.quiet_of_same (HUP.out n.s 80 true _ c2)) | (go_at_call 72; exact Calls.quiet_of_same (HBG.out _)) | (go_at_call 73; exact Calls.quiet_of_same (HBR.out _)))
    go_wp2
    go_ret
    exact ⟨by rw [HF.out]; rfl, HBQ.out _⟩
  · have e2 : (n.k == 2) = true := by simpa using hkc
    obtain ⟨hg, ht⟩ := HKK.out hkc
    simp only [hg, ht] at HBQ HBR ⊢
    clear hkc hk3 hk0 HKK hg ht
    go_enter Tryd.func47, Tryd.ntmps47
    go_wp2
    go_quiet (first | (go_at_call_of 71 (1000000 : Int); exact Calls.quiet_of_same (HG0.out _)) | (go_at_call_of 71 (100000 : Int); exact Calls.quiet_of_same (HT0.out _)) | (go_at_call_of 71 (n.s); exact Calls.quiet_of_same (HUP.out n.s 80 true _ c2)) | (go_at_call 72; exact Calls.quiet_of_same (HBG.out _)) | (go_at_call 73; exact Calls.quiet_of_same (HBR.out _)))
    go_wp2
    go_ret
    exact ⟨by rw [HF.out]; rfl, HBQ.out _⟩
end Go.Proofs.YthfgfhbinggpfaaDoor

/-
  Own text: what the other program reads of a node.
-/
namespace Go.Proofs.YthfgfhbinggpfaaDoor
open Go.RowKit

theorem belowN {B : Nat} {v w : World} (h : Below B v w) (n : Nat) : Below B v (w.drewN n) := h.trans ⟨rfl, rfl, rfl, Nat.le_refl _, fun _ _ => rfl⟩
theorem natOf {i : Int} (h : 0 ≤ i) : ∃ k : Nat, i = (k : Int) := ⟨i.toNat, by omega⟩
theorem ndAt_nat {F : FsD} {k : Nat} (h : k < F.ns.length) : ndAt F (k : Int) = F.ns[k] := by rw [ndAt_get (by simpa using h)]; simp

/-- What is known of a right node while it is read. -/
theorem UsP.facts {F : FsD} {k : Nat} (h : UsP F (k : Int)) : ∃ hk : k < F.ns.length, F.ns[k].b.length ≤ 5 ∧ F.ds.length ≤ 36 ∧ (∀ x ∈ F.ns[k].b, 0 ≤ x ∧ x.toNat < F.ds.length) ∧ ∀ s ∈ F.ds, s.size ≤ 16 := by
  have hk : k < F.ns.length := by simpa using h.2.2.1
  refine ⟨hk, ?_, h.1.1.2.2.2, ?_, h.1.small⟩
  · have := h.nod.len; rw [ndAt_nat hk] at this; exact this
  · intro x hx
    have := h.blk x (by rw [ndAt_nat hk]; exact hx)
    exact ⟨this.1, this.2.1⟩

set_option maxRecDepth 20000 in
set_option maxHeartbeats 4000000 in
theorem specReadW (v : Value) (F : FsD) (k : Nat) (w : World) (hu : UsP F (k : Int)) (hr : RdFs w v F) :
    Calls Tryd.prog 35 #[v, .int .i64 (k : Nat)] w fun e w' => e = .returned (.string (catD F.ds (ndAt F (k : Int)).b)) ∧ Below w.heap.size w w' := by
  obtain ⟨a, ca, b, cb, rfl, _, r1, r2⟩ := hr
  obtain ⟨hk, hbl, hdl, hbx, hds⟩ := hu.facts
  rw [ndAt_nat hk]
  have hkn : F.ns.length ≤ 10 := hu.1.1.2.1
  obtain ⟨g, off, u, rfl, hblt, ⟨ab, cc, rfl, hc1, hc2, hrb⟩, c0, c1, c2, c3, c4⟩ := r1.at k hk
  have HRB : Hid (∀ W, Below w.heap.size w W → Rd .i64 W ab F.ns[k].b) := fun W h => hrb.below h (Nat.le_refl _)
  have HDS : Hid (∀ W, Below w.heap.size w W → RdS W b F.ds) := fun W h => r2.below h (Nat.le_refl _)
  have HC4 : Hid (∀ W, Below w.heap.size w W → W.cell? ⟨g, off + k * 5 + 4, none⟩ = some (.slice ab F.ns[k].b.length cc)) := fun W h => (h.cell hblt).trans c4
  have HBX : Hid (∀ x ∈ F.ns[k].b, 0 ≤ x ∧ x.toNat < F.ds.length) := hbx
  have HDZ : Hid (∀ s ∈ F.ds, s.size ≤ 16) := hds
  have HV : Hid (∀ W, Below (w.heap.size + 1) (w.alloc (.cells #[.slice (some ⟨g, off, none⟩) F.ns.length ca, .slice b F.ds.length cb] 30)) W → W.cell? ⟨w.heap.size, 0, none⟩ = some (.slice (some ⟨g, off, none⟩) F.ns.length ca) ∧ W.cell? ⟨w.heap.size, 1, none⟩ = some (.slice b F.ds.length cb) ∧ Below w.heap.size w W) := fun W h => ⟨by have := ((Var.made w #[.slice (some ⟨g, off, none⟩) F.ns.length ca, .slice b F.ds.length cb] 30).below h (by omega)).cell 0; simpa using this, by have := ((Var.made w #[.slice (some ⟨g, off, none⟩) F.ns.length ca, .slice b F.ds.length cb] 30).below h (by omega)).cell 1; simpa using this, (below1 w _).trans (h.mono (by omega))⟩
  clear hu r1 r2 hrb c0 c1 c2 c3 c4 hbx hds hc1 hc2
  generalize F.ns[k].b = B at *
  go_enter Tryd.func35, Tryd.ntmps35
  go_wp2
  go_loopw [5, 6] (fun s j wr => ∃ (m : Nat), m ≤ B.length ∧ j = .int .i64 m ∧ s = .string (catD F.ds (B.take m)) ∧ Below (w.heap.size + 1) (w.alloc (.cells #[.slice (some ⟨g, off, none⟩) F.ns.length ca, .slice b F.ds.length cb] 30)) wr) (fun _ j _ => B.length - (intOf j).toNat)
  case atStart => exact ⟨0, by omega, rfl, rfl, by have := Below.refl (w.heap.size + 1) (w.alloc (.cells #[.slice (some ⟨g, off, none⟩) F.ns.length ca, .slice b F.ds.length cb] 30)); exact this⟩
  case round =>
    obtain ⟨m, hm, rfl, rfl, hbel⟩ := hrel
    obtain ⟨y0, y1, hB⟩ := HV.out wr hbel
    have c4 := HC4.out wr hB
    by_cases hlt : m < B.length
    · obtain ⟨gb, ob, rfl, hgb, hcb⟩ := (HRB.out wr hB).cellI m hlt
      have hx := HBX.out _ (List.getElem_mem hlt)
      obtain ⟨x, hxx⟩ := natOf hx.1
      rw [hxx] at hcb
      have hxl : x < F.ds.length := by have := hx.2; rw [hxx] at this; simpa using this
      obtain ⟨gd, od, rfl, hgd, hcd⟩ := (HDS.out wr hB).cellT x hxl
      have HCT : Hid (catD F.ds (B.take (m + 1)) = catD F.ds (B.take m) ++ F.ds[x]) := by show _ = _; rw [catD_take F.ds hlt, hxx, dsAt_get (by simpa using hxl)]; simp
      have hsz : (catD F.ds (B.take m)).size ≤ 80 := by
        have h1 := catD_size (ds := F.ds) (b := B.take m) (m := 16) (fun x hx' => by
          have hx2 := HBX.out x (List.mem_of_mem_take hx')
          rw [dsAt_get hx2.2]; exact HDZ.out _ (List.getElem_mem _))
        have h2 : (B.take m).length ≤ 5 := by simp; omega
        omega
      have hs2 := HDZ.out _ (List.getElem_mem hxl)
      clear hx hxx HRB HDS
      generalize F.ds[x] = d at *
      generalize catD F.ds (B.take m) = s at *
      go_upto_region 5 with fail
      go_quiet (fail)
      clear hcb hcd c4 y0 y1 hgb hgd
      go_wp2
      go_roundw
      case rel => exact ⟨m + 1, by omega, by go_num, by rw [HCT.out], belowN hbel _⟩
      case measure => simp [intOf]; omega
    · obtain rfl : m = B.length := by omega
      rw [List.take_length]
      clear HRB HDS HC4 HBX HDZ HV hbel
      go_wp2
      go_ret
      exact ⟨rfl, hB⟩

end Go.Proofs.YthfgfhbinggpfaaDoor
