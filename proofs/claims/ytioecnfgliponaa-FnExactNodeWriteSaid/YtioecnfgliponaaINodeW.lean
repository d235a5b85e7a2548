/-
  Own text: which nodes are right, as the program tells it.
-/
import Derived.Test.YtioecnfgliponaaINodeSW
namespace Go.Proofs.Ytioecnfgliponaa
open Go.RowKit

theorem upToW (x hi : Int) (w : World) :
    Calls Try.prog 77 #[.int .i64 x, .int .i64 hi] w fun e w' => e = .returned (.bool (decide (0 ≤ x) && decide (x ≤ hi))) ∧ w' = w := by
  by_cases h1 : 0 ≤ x <;> by_cases h2 : x ≤ hi
  all_goals
    go_enter Try.func77, Try.ntmps77
    go_wp2
    go_ret
    exact ⟨by simp [h1, h2], rfl⟩
noncomputable def blkOk (b : List Int) : Bool := @decide (BlkP b) (Classical.propDecidable _)
theorem blkOk_yes {b : List Int} (h : BlkP b) : blkOk b = true := by unfold blkOk; exact @decide_eq_true _ (Classical.propDecidable _) h
theorem blkOk_no {b : List Int} (h : ¬ BlkP b) : blkOk b = false := by unfold blkOk; exact @decide_eq_false _ (Classical.propDecidable _) h

set_option maxRecDepth 20000 in
set_option maxHeartbeats 1000000 in
theorem blocksW (a : Option Addr) (cap : Nat) (b : List Int) (w : World) (hl : b.length ≤ 4194304) (hc1 : b.length ≤ cap) (_ : cap ≤ maxLen) (hr : Rd .i64 w a b) :
    Calls Try.prog 79 #[.slice a b.length cap] w fun e w' => e = .returned (.bool (blkOk b)) ∧ w' = w := by
  have HCS : Hid (∀ k (hk : k < b.length), ∃ g off, a = some ⟨g, off, none⟩ ∧ w.cell? ⟨g, off + k, none⟩ = some (.int .i64 b[k])) := by
    intro k hk
    obtain ⟨g, off, rfl, _, hc⟩ := hr.cellI k hk
    exact ⟨g, off, rfl, hc⟩
  have HUP : Hid (∀ (x : Int) Q, (decide (0 ≤ x) && decide (x ≤ 35)) = Q → Calls Try.prog 77 #[.int .i64 x, .int .i64 35] w fun e w' => e = .returned (.bool Q) ∧ w' = w) := by
    rintro x Q rfl
    exact upToW x 35 w
  have HCT : Hid (∀ (k : Nat) (y : Int) Q, k ≤ b.length → decide (y ∈ b.take k) = Q → Calls Try.prog 84 #[.slice a k cap, .int .i64 y] w fun e w' => e = .returned (.bool Q) ∧ w' = w) := by
    rintro k y Q hk rfl
    have h := containsI a cap (b.take k) y w (by rw [List.length_take]; omega) (hr.take k)
    rwa [List.length_take, Nat.min_eq_left hk] at h
  clear hr
  go_enter Try.func79, Try.ntmps79
  go_wp2
  go_loopw [3, 4, 7] (fun _ _ i wr => ∃ k : Nat, k ≤ b.length ∧ i = .int .i64 k ∧ Hid (BlkTo b k) ∧ wr = w) (fun _ _ i _ => b.length - (intOf i).toNat)
  case atStart => exact ⟨0, Nat.zero_le _, rfl, ⟨fun i _ h => by omega, fun i j _ _ _ h => by omega⟩, rfl⟩
  case round =>
    obtain ⟨k, hk, rfl, HN, hwr⟩ := hrel
    subst wr
    by_cases hlt : k < b.length
    · obtain ⟨g, off, rfl, hc⟩ := HCS.out k hlt
      have HBD : Hid ((¬ (0 ≤ b[k] ∧ b[k] ≤ 35) ∨ b[k] ∈ b.take k) → blkOk b = false) := fun h => blkOk_no (blk_bad hlt h)
      have HNX : Hid ((0 ≤ b[k] ∧ b[k] ≤ 35) → b[k] ∉ b.take k → BlkTo b (k + 1)) := fun h1 h2 => HN.out.next hlt h1 h2
      have j0 : (0 : Int) ≤ (k : Int) := by omega
      have j1 : (k : Int) < (b.length : Int) := by omega
      have j2 : (k : Int) ≤ (cap : Int) := by omega
      clear HN HCS
      generalize b[k] = x at *
      by_cases p : 0 ≤ x ∧ x ≤ 35
      · have hp : (decide (0 ≤ x) && decide (x ≤ 35)) = true := by simp [p.1, p.2]
        by_cases q : x ∈ b.take k
        · have HF : Hid (blkOk b = false) := HBD.out (.inr q)
          have hq : decide (x ∈ b.take k) = true := decide_eq_true q
          have H1 : Hid (Calls Try.prog 77 #[.int .i64 x, .int .i64 35] w fun e w' => e = .returned (.bool true) ∧ w' = w) := HUP.out x true hp
          have H2 : Hid (Calls Try.prog 84 #[.slice (some ⟨g, off, none⟩) k cap, .int .i64 x] w fun e w' => e = .returned (.bool true) ∧ w' = w) := HCT.out k x true hk hq
          clear HBD HNX p q hp hq HUP HCT
          go_wp2_with fail
          refine H1.out.mono ?_
          rintro e w1 ⟨rfl, hw1⟩
          subst w1
          go_wp2_with fail
          refine H2.out.mono ?_
          rintro e w1 ⟨rfl, hw1⟩
          subst w1
          go_wp2
          go_ret
          exact ⟨by rw [HF.out]; rfl, rfl⟩
        · have HT : Hid (BlkTo b (k + 1)) := HNX.out p q
          have hq : decide (x ∈ b.take k) = false := decide_eq_false q
          have H1 : Hid (Calls Try.prog 77 #[.int .i64 x, .int .i64 35] w fun e w' => e = .returned (.bool true) ∧ w' = w) := HUP.out x true hp
          have H2 : Hid (Calls Try.prog 84 #[.slice (some ⟨g, off, none⟩) k cap, .int .i64 x] w fun e w' => e = .returned (.bool false) ∧ w' = w) := HCT.out k x false hk hq
          clear HBD HNX p q hp hq HUP HCT
          go_wp2_with fail
          refine H1.out.mono ?_
          rintro e w1 ⟨rfl, hw1⟩
          subst w1
          go_wp2_with fail
          refine H2.out.mono ?_
          rintro e w1 ⟨rfl, hw1⟩
          subst w1
          go_wp2
          go_roundw
          case rel => exact ⟨k + 1, by omega, by go_num, HT, trivial⟩
          case measure => simp [intOf]; omega
      · have HF : Hid (blkOk b = false) := HBD.out (.inl p)
        have hp : (decide (0 ≤ x) && decide (x ≤ 35)) = false := by
          rw [Bool.and_eq_false_iff]
          by_cases h9 : 0 ≤ x
          · right; exact decide_eq_false (by omega)
          · left; exact decide_eq_false h9
        have H1 : Hid (Calls Try.prog 77 #[.int .i64 x, .int .i64 35] w fun e w' => e = .returned (.bool false) ∧ w' = w) := HUP.out x false hp
        clear HBD HNX p hp HUP HCT
        go_wp2_with fail
        refine H1.out.mono ?_
        rintro e w1 ⟨rfl, hw1⟩
        subst w1
        go_wp2
        go_ret
        exact ⟨by rw [HF.out]; rfl, rfl⟩
    · obtain rfl : k = b.length := by omega
      have HT : Hid (blkOk b = true) := blkOk_yes HN.out.all
      go_wp2
      go_ret
      exact ⟨by rw [HT.out]; rfl, rfl⟩

theorem and_no {x lo hi : Int} (h : ¬ (lo ≤ x ∧ x ≤ hi)) : (decide (lo ≤ x) && decide (x ≤ hi)) = false := by
  rw [Bool.and_eq_false_iff]
  by_cases h9 : lo ≤ x
  · right; exact decide_eq_false fun h8 => h ⟨h9, h8⟩
  · left; exact decide_eq_false h9
theorem same_zero {n : NodeD} (hk : n.k = 0) : ndSame n zeroN = ndOk n := by
  rw [free_ok hk]
  unfold ndSame zeroN
  simp [hk]
theorem Rd.none {w : World} {a : Option Addr} : Rd .i64 w a [] := .inl rfl

set_option maxRecDepth 20000 in
set_option maxHeartbeats 4000000 in
theorem implNodeOk (v : Value) (n : NodeD) (w : World) (hl : n.b.length ≤ 1048576) (hr : RdN w v n) :
    Calls Try.prog 66 #[v] w fun e w' => e = .returned (.bool (ndOk n)) ∧ Below w.heap.size w w' := by
  have hrd := hr
  obtain ⟨a, c, rfl, hcap, hcmx, hr⟩ := hr
  have HRQ : Hid (∀ q, Rd .i64 ((w.alloc (.cells #[.int .i64 n.k, .int .i64 n.g, .int .i64 n.t, .int .i64 n.s, .slice a n.b.length c] 57)).drewN q) a n.b ∧ Below w.heap.size w ((w.alloc (.cells #[.int .i64 n.k, .int .i64 n.g, .int .i64 n.t, .int .i64 n.s, .slice a n.b.length c] 57)).drewN q)) := fun q => ⟨hr.below ((below1 w _).trans ⟨rfl, rfl, rfl, Nat.le_refl _, fun _ _ => rfl⟩) (Nat.le_refl _), (below1 w _).trans ⟨rfl, rfl, rfl, by simp, fun _ _ => rfl⟩⟩
  have HSM : Hid (n.k = 0 → Calls Try.prog 76 #[.agg #[.int .i64 n.k, .int .i64 n.g, .int .i64 n.t, .int .i64 n.s, .slice a n.b.length c], .agg #[.int .i64 0, .int .i64 0, .int .i64 0, .int .i64 0, .slice none 0 0]] (w.alloc (.cells #[.int .i64 n.k, .int .i64 n.g, .int .i64 n.t, .int .i64 n.s, .slice a n.b.length c] 57)) fun e w' => e = .returned (.bool (ndOk n)) ∧ Below w.heap.size w w') := by
    intro hk
    rw [← same_zero hk]
    refine (implNodeSame (aggN n (.slice a n.b.length c)) (aggN zeroN (.slice none 0 0)) n zeroN (w.alloc (.cells #[.int .i64 n.k, .int .i64 n.g, .int .i64 n.t, .int .i64 n.s, .slice a n.b.length c] 57)) (by omega) (hrd.below (below1 _ _) (Nat.le_refl _)) ⟨none, 0, rfl, Nat.le_refl _, Nat.zero_le _, .inl rfl⟩).mono ?_
    rintro e w' ⟨rfl, hb⟩
    exact ⟨rfl, (below1 w _).trans (hb.mono (by simp))⟩
  have hb1 : Below w.heap.size w (w.alloc (.cells #[.int .i64 n.k, .int .i64 n.g, .int .i64 n.t, .int .i64 n.s, .slice a n.b.length c] 57)) := below1 _ _
  clear hr hrd
  unfold aggN
  by_cases hk0 : n.k = 0
  · have hk1 : (n.k == 0) = true := by simpa using hk0
    have HS := HSM.out hk0
    have HS2 : Hid (Calls Try.prog 76 #[.agg #[.int .i64 n.k, .int .i64 n.g, .int .i64 n.t, .int .i64 n.s, .slice a n.b.length c], .agg #[.int .i64 0, .int .i64 0, .int .i64 0, .int .i64 0, .slice none 0 0]] (w.alloc (.cells #[.int .i64 n.k, .int .i64 n.g, .int .i64 n.t, .int .i64 n.s, .slice a n.b.length c] 57)) fun e w' => e = .returned (.bool (ndOk n)) ∧ Below w.heap.size w w') := HS
    clear HS HSM hk0 HRQ hb1
    go_enter Try.func66, Try.ntmps66
    go_wp2_with fail
    refine HS2.out.mono ?_
    rintro e w1 ⟨rfl, hb⟩
    go_wp2
    go_ret
    exact ⟨rfl, hb⟩
  have hk1 : (n.k == 0) = false := by simpa using hk0
  have HNO : Hid ((NumP n → (n.k = 2 → n.g = 0 ∧ n.t = 0) → ¬ BlkP n.b) → ndOk n = false) := nod_no hk0
  clear HSM
  by_cases hk3 : 1 ≤ n.k ∧ n.k ≤ 3
  rotate_left
  · have HF : Hid (ndOk n = false) := HNO.out fun h => by have h0 := h; unfold NumP at h0; omega
    have e1 : (n.k == 1) = false := by simp; omega
    have e2 : (n.k == 2) = false := by simp; omega
    have e3 : (n.k == 3) = false := by simp; omega
    clear HNO hk3 hk0 HRQ
    go_enter Try.func66, Try.ntmps66
    go_wp2
    go_ret
    exact ⟨by rw [HF.out]; rfl, hb1⟩
  by_cases hd : n.k = 2 ∧ ¬ (n.g = 0 ∧ n.t = 0)
  · have HF : Hid (ndOk n = false) := HNO.out fun _ h => absurd (h hd.1) hd.2
    have e2 : (n.k == 2) = true := by simpa using hd.1
    by_cases hg : n.g = 0
    · have g2 : (n.t == 0) = false := by simp; exact fun h => hd.2 ⟨hg, h⟩
      rw [hg] at hb1 ⊢
      clear HNO hk3 hk0 HRQ hd hg
      go_enter Try.func66, Try.ntmps66
      go_wp2
      go_ret
      exact ⟨by rw [HF.out]; rfl, hb1⟩
    · have g1 : (n.g == 0) = false := by simpa using hg
      clear HNO hk3 hk0 HRQ hd
      go_enter Try.func66, Try.ntmps66
      go_wp2
      go_ret
      exact ⟨by rw [HF.out]; rfl, hb1⟩
  have HKK : Hid (n.k = 2 → n.g = 0 ∧ n.t = 0) := fun h => Classical.byContradiction fun h' => hd ⟨h, h'⟩
  have HUP : Hid (∀ (x hi : Int) Q W, (decide (0 ≤ x) && decide (x ≤ hi)) = Q → Calls Try.prog 77 #[.int .i64 x, .int .i64 hi] W fun e w' => e = .returned (.bool Q) ∧ w' = W) := by
    rintro x hi Q W rfl
    exact upToW x hi W
  have HBF : Hid (∀ W, Calls Try.prog 78 #[.int .i64 n.s] W fun e w' => e = .returned (.int .i64 (blksFor n.s)) ∧ w' = W) := fun W => implBlocks n.s W
  have HBO : Hid (∀ q Q, blkOk n.b = Q → Calls Try.prog 79 #[.slice a n.b.length c] ((w.alloc (.cells #[.int .i64 n.k, .int .i64 n.g, .int .i64 n.t, .int .i64 n.s, .slice a n.b.length c] 57)).drewN q) fun e w' => e = .returned (.bool Q) ∧ w' = (w.alloc (.cells #[.int .i64 n.k, .int .i64 n.g, .int .i64 n.t, .int .i64 n.s, .slice a n.b.length c] 57)).drewN q) := by
    rintro q Q rfl
    exact blocksW a c n.b _ (by omega) hcap hcmx (HRQ.out q).1
  have HBQ : Hid (∀ q, Below w.heap.size w ((w.alloc (.cells #[.int .i64 n.k, .int .i64 n.g, .int .i64 n.t, .int .i64 n.s, .slice a n.b.length c] 57)).drewN q)) := fun q => (HRQ.out q).2
  have HG0 : Hid (∀ W, Calls Try.prog 77 #[.int .i64 0, .int .i64 1000000] W fun e w' => e = .returned (.bool true) ∧ w' = W) := fun W => HUP.out 0 1000000 true W (by decide)
  have HT0 : Hid (∀ W, Calls Try.prog 77 #[.int .i64 0, .int .i64 100000] W fun e w' => e = .returned (.bool true) ∧ w' = W) := fun W => HUP.out 0 100000 true W (by decide)
  clear HRQ hb1 hd
  have hkc : (n.k = 1 ∨ n.k = 3) ∨ n.k = 2 := by omega
  by_cases p1 : 0 ≤ n.g ∧ n.g ≤ 1000000
  rotate_left
  · have HF : Hid (ndOk n = false) := HNO.out fun h => by have h0 := h; unfold NumP at h0; omega
    have c0 : (decide (0 ≤ n.g) && decide (n.g ≤ 1000000)) = false := and_no p1
    clear HNO p1
    rcases hkc with (hkc | hkc) | hkc
    · have e1 : (n.k == 1) = true := by simpa using hkc
      have e2 : (n.k == 2) = false := by simp; omega
      clear hkc hk3 hk0 HKK
      go_enter Try.func66, Try.ntmps66
      go_wp2
      go_quiet (first | (go_at_call_of 77 (n.g); exact Calls.quiet_of_same (HUP.out n.g 1000000 false _ c0)))
      go_wp2
      go_ret
      exact ⟨by rw [HF.out]; rfl, HBQ.out _⟩
    · have e1 : (n.k == 1) = false := by simp; omega
      have e2 : (n.k == 2) = false := by simp; omega
      have e3 : (n.k == 3) = true := by simpa using hkc
      clear hkc hk3 hk0 HKK
      go_enter Try.func66, Try.ntmps66
      go_wp2
      go_quiet (first | (go_at_call_of 77 (n.g); exact Calls.quiet_of_same (HUP.out n.g 1000000 false _ c0)))
      go_wp2
      go_ret
      exact ⟨by rw [HF.out]; rfl, HBQ.out _⟩
    · exfalso
      have := HKK.out hkc
      have hc := c0
      rw [this.1] at hc
      simp at hc
  have c0 : (decide (0 ≤ n.g) && decide (n.g ≤ 1000000)) = true := by simp [p1.1, p1.2]
  by_cases p2 : 0 ≤ n.t ∧ n.t ≤ 100000
  rotate_left
  · have HF : Hid (ndOk n = false) := HNO.out fun h => by have h0 := h; unfold NumP at h0; omega
    have c1 : (decide (0 ≤ n.t) && decide (n.t ≤ 100000)) = false := and_no p2
    clear HNO p2
    rcases hkc with (hkc | hkc) | hkc
    · have e1 : (n.k == 1) = true := by simpa using hkc
      have e2 : (n.k == 2) = false := by simp; omega
      clear hkc hk3 hk0 HKK
      go_enter Try.func66, Try.ntmps66
      go_wp2
      go_quiet (first | (go_at_call_of 77 (n.g); exact Calls.quiet_of_same (HUP.out n.g 1000000 true _ c0)) | (go_at_call_of 77 (n.t); exact Calls.quiet_of_same (HUP.out n.t 100000 false _ c1)))
      go_wp2
      go_ret
      exact ⟨by rw [HF.out]; rfl, HBQ.out _⟩
    · have e1 : (n.k == 1) = false := by simp; omega
      have e2 : (n.k == 2) = false := by simp; omega
      have e3 : (n.k == 3) = true := by simpa using hkc
      clear hkc hk3 hk0 HKK
      go_enter Try.func66, Try.ntmps66
      go_wp2
      go_quiet (first | (go_at_call_of 77 (n.g); exact Calls.quiet_of_same (HUP.out n.g 1000000 true _ c0)) | (go_at_call_of 77 (n.t); exact Calls.quiet_of_same (HUP.out n.t 100000 false _ c1)))
      go_wp2
      go_ret
      exact ⟨by rw [HF.out]; rfl, HBQ.out _⟩
    · exfalso
      have := HKK.out hkc
      have hc := c1
      rw [this.2] at hc
      simp at hc
  have c1 : (decide (0 ≤ n.t) && decide (n.t ≤ 100000)) = true := by simp [p2.1, p2.2]
  by_cases p3 : 0 ≤ n.s ∧ n.s ≤ 80
  rotate_left
  · have HF : Hid (ndOk n = false) := HNO.out fun h => by have h0 := h; unfold NumP at h0; omega
    have c2 : (decide (0 ≤ n.s) && decide (n.s ≤ 80)) = false := and_no p3
    clear HNO p3
    rcases hkc with (hkc | hkc) | hkc
    · have e1 : (n.k == 1) = true := by simpa using hkc
      have e2 : (n.k == 2) = false := by simp; omega
      clear hkc hk3 hk0 HKK
      go_enter Try.func66, Try.ntmps66
      go_wp2
      go_quiet (first | (go_at_call_of 77 (n.g); exact Calls.quiet_of_same (HUP.out n.g 1000000 true _ c0)) | (go_at_call_of 77 (n.t); exact Calls.quiet_of_same (HUP.out n.t 100000 true _ c1)) | (go_at_call_of 77 (n.s); exact Calls.quiet_of_same (HUP.out n.s 80 false _ c2)))
      go_wp2
      go_ret
      exact ⟨by rw [HF.out]; rfl, HBQ.out _⟩
    · have e1 : (n.k == 1) = false := by simp; omega
      have e2 : (n.k == 2) = false := by simp; omega
      have e3 : (n.k == 3) = true := by simpa using hkc
      clear hkc hk3 hk0 HKK
      go_enter Try.func66, Try.ntmps66
      go_wp2
      go_quiet (first | (go_at_call_of 77 (n.g); exact Calls.quiet_of_same (HUP.out n.g 1000000 true _ c0)) | (go_at_call_of 77 (n.t); exact Calls.quiet_of_same (HUP.out n.t 100000 true _ c1)) | (go_at_call_of 77 (n.s); exact Calls.quiet_of_same (HUP.out n.s 80 false _ c2)))
      go_wp2
      go_ret
      exact ⟨by rw [HF.out]; rfl, HBQ.out _⟩
    · have e2 : (n.k == 2) = true := by simpa using hkc
      obtain ⟨hg, ht⟩ := HKK.out hkc
      simp only [hg, ht] at HBQ HBO ⊢
      clear hkc hk3 hk0 HKK hg ht
      go_enter Try.func66, Try.ntmps66
      go_wp2
      go_quiet (first | (go_at_call_of 77 (1000000 : Int); exact Calls.quiet_of_same (HG0.out _)) | (go_at_call_of 77 (100000 : Int); exact Calls.quiet_of_same (HT0.out _)) | (go_at_call_of 77 (n.s); exact Calls.quiet_of_same (HUP.out n.s 80 false _ c2)))
      go_wp2
      go_ret
      exact ⟨by rw [HF.out]; rfl, HBQ.out _⟩
  have c2 : (decide (0 ≤ n.s) && decide (n.s ≤ 80)) = true := by simp [p3.1, p3.2]
  by_cases p4 : (n.b.length : Int) = blksFor n.s
  rotate_left
  · have HF : Hid (ndOk n = false) := HNO.out fun h => absurd h.2.2.2.2.2.2.2.2 p4
    have d4 : decide ((n.b.length : Int) = blksFor n.s) = false := decide_eq_false p4
    have c4 : ((n.b.length : Int) == blksFor n.s) = false := by simpa using p4
    clear HNO p1 p2 p3
    rcases hkc with (hkc | hkc) | hkc
    · have e1 : (n.k == 1) = true := by simpa using hkc
      have e2 : (n.k == 2) = false := by simp; omega
      clear hkc hk3 hk0 HKK
      go_enter Try.func66, Try.ntmps66
      go_wp2
      go_quiet (first | (go_at_call_of 77 (n.g); exact Calls.quiet_of_same (HUP.out n.g 1000000 true _ c0)) | (go_at_call_of 77 (n.t); exact Calls.quiet_of_same (HUP.out n.t 100000 true _ c1)) | (go_at_call_of 77 (n.s); exact Calls.quiet_of_same (HUP.out n.s 80 true _ c2)) | (go_at_call 78; exact Calls.quiet_of_same (HBF.out _)))
      go_wp2
      go_ret
      exact ⟨by rw [HF.out]; rfl, HBQ.out _⟩
    · have e1 : (n.k == 1) = false := by simp; omega
      have e2 : (n.k == 2) = false := by simp; omega
      have e3 : (n.k == 3) = true := by simpa using hkc
      clear hkc hk3 hk0 HKK
      go_enter Try.func66, Try.ntmps66
      go_wp2
      go_quiet (first | (go_at_call_of 77 (n.g); exact Calls.quiet_of_same (HUP.out n.g 1000000 true _ c0)) | (go_at_call_of 77 (n.t); exact Calls.quiet_of_same (HUP.out n.t 100000 true _ c1)) | (go_at_call_of 77 (n.s); exact Calls.quiet_of_same (HUP.out n.s 80 true _ c2)) | (go_at_call 78; exact Calls.quiet_of_same (HBF.out _)))
      go_wp2
      go_ret
      exact ⟨by rw [HF.out]; rfl, HBQ.out _⟩
    · have e2 : (n.k == 2) = true := by simpa using hkc
      obtain ⟨hg, ht⟩ := HKK.out hkc
      simp only [hg, ht] at HBQ HBO ⊢
      clear hkc hk3 hk0 HKK hg ht
      go_enter Try.func66, Try.ntmps66
      go_wp2
      go_quiet (first | (go_at_call_of 77 (1000000 : Int); exact Calls.quiet_of_same (HG0.out _)) | (go_at_call_of 77 (100000 : Int); exact Calls.quiet_of_same (HT0.out _)) | (go_at_call_of 77 (n.s); exact Calls.quiet_of_same (HUP.out n.s 80 true _ c2)) | (go_at_call 78; exact Calls.quiet_of_same (HBF.out _)))
      go_wp2
      go_ret
      exact ⟨by rw [HF.out]; rfl, HBQ.out _⟩
  have HNP : Hid (NumP n) := ⟨hk3.1, hk3.2, p1.1, p1.2, p2.1, p2.2, p3.1, p3.2, p4⟩
  have HF : Hid (ndOk n = blkOk n.b) := by
    show _ = _
    by_cases hB : BlkP n.b
    · rw [blkOk_yes hB, ndOk_yes (.inr ⟨HNP.out, HKK.out, hB⟩)]
    · rw [blkOk_no hB]; exact HNO.out fun _ _ => hB
  have HBG : Hid (∀ W, Calls Try.prog 78 #[.int .i64 n.s] W fun e w' => e = .returned (.int .i64 (n.b.length : Int)) ∧ w' = W) := by
    intro W
    rw [p4]
    exact implBlocks n.s W
  clear HNO p1 p2 p3 HNP p4
  obtain ⟨q, hq⟩ : ∃ q, blkOk n.b = q := ⟨_, rfl⟩
  rw [hq] at HF
  have HBR : Hid (∀ p, Calls Try.prog 79 #[.slice a n.b.length c] ((w.alloc (.cells #[.int .i64 n.k, .int .i64 n.g, .int .i64 n.t, .int .i64 n.s, .slice a n.b.length c] 57)).drewN p) fun e w' => e = .returned (.bool q) ∧ w' = (w.alloc (.cells #[.int .i64 n.k, .int .i64 n.g, .int .i64 n.t, .int .i64 n.s, .slice a n.b.length c] 57)).drewN p) := fun p => HBO.out p q hq
  clear hq HBO
  rcases hkc with (hkc | hkc) | hkc
  · have e1 : (n.k == 1) = true := by simpa using hkc
    have e2 : (n.k == 2) = false := by simp; omega
    clear hkc hk3 hk0 HKK
    go_enter Try.func66, Try.ntmps66
    go_wp2
    go_quiet (first | (go_at_call_of 77 (n.g); exact Calls.quiet_of_same (HUP.out n.g 1000000 true _ c0)) | (go_at_call_of 77 (n.t); exact Calls.quiet_of_same (HUP.out n.t 100000 true _ c1)) | (go_at_call_of 77 (n.s); exact Calls.quiet_of_same (HUP.out n.s 80 true _ c2)) | (go_at_call 78; exact Calls.quiet_of_same (HBG.out _)) | (go_at_call 79; exact Calls.quiet_of_same (HBR.out _)))
    go_wp2
    go_ret
    exact ⟨by rw [HF.out]; rfl, HBQ.out _⟩
  · have e1 : (n.k == 1) = false := by simp; omega
    have e2 : (n.k == 2) = false := by simp; omega
    have e3 : (n.k == 3) = true := by simpa using hkc
    clear hkc hk3 hk0 HKK
    go_enter Try.func66, Try.ntmps66
    go_wp2
    go_quiet (first | (go_at_call_of 77 (n.g); exact Calls.quiet_of_same (HUP.out n.g 1000000 true _ c0)) | (go_at_call_of 77 (n.t); exact Calls.quiet_of_same (HUP.out n.t 100000 true _ c1)) | (go_at_call_of 77 (n.s); exact Calls.quiet_of_same (HUP.out n.s 80 true _ c2)) | (go_at_call 78; exact Calls.quiet_of_same (HBG.out _)) | (go_at_call 79; exact Calls.quiet_of_same (HBR.out _)))
    go_wp2
    go_ret
    exact ⟨by rw [HF.out]; rfl, HBQ.out _⟩
  · have e2 : (n.k == 2) = true := by simpa using hkc
    obtain ⟨hg, ht⟩ := HKK.out hkc
    simp only [hg, ht] at HBQ HBR ⊢
    clear hkc hk3 hk0 HKK hg ht
    go_enter Try.func66, Try.ntmps66
    go_wp2
    go_quiet (first | (go_at_call_of 77 (1000000 : Int); exact Calls.quiet_of_same (HG0.out _)) | (go_at_call_of 77 (100000 : Int); exact Calls.quiet_of_same (HT0.out _)) | (go_at_call_of 77 (n.s); exact Calls.quiet_of_same (HUP.out n.s 80 true _ c2)) | (go_at_call 78; exact Calls.quiet_of_same (HBG.out _)) | (go_at_call 79; exact Calls.quiet_of_same (HBR.out _)))
    go_wp2
    go_ret
    exact ⟨by rw [HF.out]; rfl, HBQ.out _⟩
end Go.Proofs.Ytioecnfgliponaa
