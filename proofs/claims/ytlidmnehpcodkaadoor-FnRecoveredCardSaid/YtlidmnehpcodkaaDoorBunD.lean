/-
  Own texts, several together.
-/
import Derived.Test.YtlidmnehpcodkaaDoorRows
import Derived.Test.YtlidmnehpcodkaaDoorBunA
import Derived.WalkLawsBesides
import Derived.Test.YtlidmnehpcodkaaDoorBunS
/-
  Own text: the cursor from which the laws draw: it is made, and gives a byte.
-/
namespace Go.Proofs.YtlidmnehpcodkaaDoor
open Go.RowKit

theorem and_small (x : Int) (m : Nat) (hm : m < 4611686018427387904) : ∃ r : Nat, bits .and .i64 x (m : Int) = (r : Int) ∧ r ≤ m := by
  have h2 : (BitVec.ofInt 64 (m : Int)).toNat = m := by rw [BitVec.ofInt_natCast, BitVec.toNat_ofNat]; omega
  have h3 : bits .and .i64 x (m : Int) = IntKind.wrap .i64 ((BitVec.ofInt 64 x &&& BitVec.ofInt 64 (m : Int)).toNat : Int) := by rfl
  have h4 : (BitVec.ofInt 64 x).toNat &&& m ≤ m := Nat.and_le_right
  refine ⟨(BitVec.ofInt 64 x).toNat &&& m, ?_, h4⟩
  rw [h3, BitVec.toNat_and, h2, IntKind.wrap_i64]
  omega

/-- The cursor in block P: what it draws from, how far it is, its number. -/
def Cur (w : World) (P : Nat) (a : Option Addr) (len cap : Nat) (i : Nat) (h : Int) : Prop :=
  w.heap[P]? = some (.cells #[.slice a len cap, .int .i64 i, .int .i64 h] 107 (0, 0))
theorem Cur.lt {w : World} {P : Nat} {a : Option Addr} {len cap i : Nat} {h : Int} (hc : Cur w P a len cap i h) : P < w.heap.size := (Array.getElem?_eq_some_iff.1 hc).1

set_option maxRecDepth 20000 in
set_option maxHeartbeats 400000 in
theorem newCur (x : Option Addr) (cap : Nat) (l : List Int) (w : World) (hl : l.length ≤ 1048576) (hu : U8 l) (hr : Rd .u8 w x l) :
    Calls Tryd.prog 38 #[.slice x l.length cap] w fun e w' => ∃ P h, e = .returned (.pointer (some ⟨P, 0, none⟩)) ∧ w.heap.size ≤ P ∧ Cur w' P x l.length cap 0 h ∧ Below w.heap.size w w' := by
  have HR : Hid (Rd .u8 w x l) := hr
  have HU : Hid (U8 l) := hu
  clear hr hu
  go_enter Tryd.func38, Tryd.ntmps38
  go_wp2
  go_loop [3, 4] (fun h i => ∃ (k H : Nat), k ≤ l.length ∧ i = .int .i64 k ∧ h = .int .i64 H ∧ H ≤ 1073741823) (fun _ i => l.length - (intOf i).toNat)
  case atStart => exact ⟨0, 26583 + l.length, Nat.zero_le _, rfl, by go_num, by omega⟩
  case round =>
    obtain ⟨k, H, hk, rfl, rfl, hH⟩ := hrel
    by_cases hlt : k < l.length ∧ k < 4000
    · obtain ⟨hlt, h4⟩ := hlt
      obtain ⟨b, off, rfl, hb, hc⟩ : ∃ b off, x = some ⟨b, off, none⟩ ∧ b < w.heap.size ∧ ∀ i, i < l.length → w.cell? ⟨b, off + i, none⟩ = some (.int .u8 (l.getD i 0)) := by
        rcases HR.out with h | h
        · subst h; simp at hlt
        · exact h
      have hcell := hc k hlt
      clear hc
      have hub := HU.out.at k
      generalize l.getD k 0 = c at *
      obtain ⟨hub0, hub1⟩ := hub
      obtain ⟨r, hr, hle⟩ := and_small ((H : Int) * 131 + c + 7) 1073741823 (by omega)
      have hr' : bits .and .i64 ((H : Int) * 131 + c + 7) 1073741823 = (r : Int) := hr
      clear hr
      go_wp2
      go_round
      case rel => exact ⟨k + 1, r, by omega, by go_num, rfl, hle⟩
      case measure => simp [intOf]; omega
    · by_cases h4 : k < l.length
      · have h5 : 4000 ≤ k := by omega
        clear hlt
        go_wp2
        go_ret
        exact ⟨w.heap.size, rfl, Nat.le_refl _, ⟨_, heap_alloc_new w _⟩, (Below.refl _ _).alloc (Nat.le_refl _) _⟩
      · clear hlt
        go_wp2
        go_ret
        exact ⟨w.heap.size, rfl, Nat.le_refl _, ⟨_, heap_alloc_new w _⟩, (Below.refl _ _).alloc (Nat.le_refl _) _⟩

set_option maxRecDepth 20000 in
set_option maxHeartbeats 800000 in
theorem byteCur (P : Nat) (x : Option Addr) (cap : Nat) (l : List Int) (i : Nat) (h : Int) (w : World) (hl : l.length ≤ 1048576) (hu : U8 l) (hP : ∀ b off, x = some ⟨b, off, none⟩ → l ≠ [] → b < P) (hi : i ≤ l.length) (hr : Rd .u8 w x l) (hc : Cur w P x l.length cap i h) :
    Calls Tryd.prog 93 #[.pointer (some ⟨P, 0, none⟩)] w fun e w' => ∃ (r i' : Nat) (h' : Int), e = .returned (.int .i64 r) ∧ r < 256 ∧ i' ≤ l.length ∧ Cur w' P x l.length cap i' h' ∧ w.grownBy w' (some P) := by
  have HR : Hid (Rd .u8 w x l) := hr
  have HU : Hid (U8 l) := hu
  have HC : Hid (Cur w P x l.length cap i h) := hc
  have c0 : w.cell? ⟨P, 0, none⟩ = some (.slice x l.length cap) := by rw [cell_of_row w P 0 _ _ _ hc]; rfl
  have c1 : w.cell? ⟨P, 1, none⟩ = some (.int .i64 i) := by rw [cell_of_row w P 1 _ _ _ hc]; rfl
  have c2 : w.cell? ⟨P, 2, none⟩ = some (.int .i64 h) := by rw [cell_of_row w P 2 _ _ _ hc]; rfl
  have f1 : w.frozen? ⟨P, 1, none⟩ = false := frozen_of_row w P 1 _ _ hc
  have f2 : w.frozen? ⟨P, 2, none⟩ = false := frozen_of_row w P 2 _ _ hc
  clear hr hu hc
  by_cases hlt : i < l.length
  · obtain ⟨b, off, rfl, hb, hcl⟩ : ∃ b off, x = some ⟨b, off, none⟩ ∧ b < w.heap.size ∧ ∀ i, i < l.length → w.cell? ⟨b, off + i, none⟩ = some (.int .u8 (l.getD i 0)) := by
      rcases HR.out with h | h
      · subst h; simp at hlt
      · exact h
    have hbP := hP b off rfl (by intro h; subst h; simp at hlt)
    have hcell := hcl i hlt
    clear hcl hP
    have hub := HU.out.at i
    generalize l.getD i 0 = c at *
    obtain ⟨hub0, hub1⟩ := hub
    obtain ⟨H2, hH2⟩ : ∃ H2, wrap64 (wrap64 (h * 6364136223846793005) + 1442695040888963407) = H2 := ⟨_, rfl⟩
    obtain ⟨r1, hr1, hl1⟩ := and_small (bits .xor .i64 (H2 / 8589934592) (H2 / 35184372088832)) 255 (by omega)
    obtain ⟨r2, hr2, hl2⟩ := and_small ((r1 : Int) + c) 255 (by omega)
    have hr1' : bits .and .i64 (bits .xor .i64 (H2 / 8589934592) (H2 / 35184372088832)) 255 = (r1 : Int) := hr1
    have hr2' : bits .and .i64 ((r1 : Int) + c) 255 = (r2 : Int) := hr2
    clear hr1 hr2
    have HE : Hid (Cur ((w.setCell ⟨P, 2, none⟩ (.int .i64 H2)).setCell ⟨P, 1, none⟩ (.int .i64 ((i : Int) + 1))) P (some ⟨b, off, none⟩) l.length cap (i + 1) H2) := by
      show _ = _
      rw [heap_setCell_same _ P 1 _ _ _ (heap_setCell_same w P 2 _ _ _ HC.out)]
      rfl
    have HGR : Hid (w.grownBy ((w.setCell ⟨P, 2, none⟩ (.int .i64 H2)).setCell ⟨P, 1, none⟩ (.int .i64 ((i : Int) + 1))) (some P)) :=
      ⟨rfl, rfl, rfl, by simp, fun k _ hk => (heap_setCell_other _ _ k _ (fun e => hk (by simp [e]))).trans (heap_setCell_other _ _ k _ (fun e => hk (by simp [e])))⟩
    go_enter Tryd.func93, Tryd.ntmps93
    go_wp2
    go_region
    all_goals (go_wp2; go_region)
    all_goals (go_wp2; go_region)
    all_goals go_wp2
    all_goals go_ret
    all_goals exact ⟨r2, i + 1, H2, rfl, by omega, by omega, HE.out, ⟨HGR.out.os, HGR.out.tape, HGR.out.output, HGR.out.size, HGR.out.block⟩⟩
  · obtain ⟨H2, hH2⟩ : ∃ H2, wrap64 (wrap64 (h * 6364136223846793005) + 1442695040888963407) = H2 := ⟨_, rfl⟩
    obtain ⟨r1, hr1, hl1⟩ := and_small (bits .xor .i64 (H2 / 8589934592) (H2 / 35184372088832)) 255 (by omega)
    have hr1' : bits .and .i64 (bits .xor .i64 (H2 / 8589934592) (H2 / 35184372088832)) 255 = (r1 : Int) := hr1
    clear hr1 hP
    have HE : Hid (Cur (w.setCell ⟨P, 2, none⟩ (.int .i64 H2)) P x l.length cap i H2) := by
      show _ = _
      rw [heap_setCell_same w P 2 _ _ _ HC.out]
      rfl
    have HGR : Hid (w.grownBy (w.setCell ⟨P, 2, none⟩ (.int .i64 H2)) (some P)) :=
      ⟨rfl, rfl, rfl, by simp, fun k _ hk => heap_setCell_other _ _ k _ (fun e => hk (by simp [e]))⟩
    go_enter Tryd.func93, Tryd.ntmps93
    go_wp2
    go_region
    all_goals (go_wp2; go_region)
    all_goals go_wp2
    all_goals go_ret
    all_goals exact ⟨r1, i, H2, rfl, by omega, by omega, HE.out, ⟨HGR.out.os, HGR.out.tape, HGR.out.output, HGR.out.size, HGR.out.block⟩⟩

/-- Below a bound, from the cursor on. -/
theorem belowCur (P : Nat) (x : Option Addr) (cap : Nat) (l : List Int) (i : Nat) (h : Int) (n : Nat) (w : World) (hl : l.length ≤ 1048576) (hu : U8 l) (hP : ∀ b off, x = some ⟨b, off, none⟩ → l ≠ [] → b < P) (hi : i ≤ l.length) (hr : Rd .u8 w x l) (hc : Cur w P x l.length cap i h) (hn : 1 ≤ n) (hn2 : n ≤ 256) :
    Calls Tryd.prog 40 #[.pointer (some ⟨P, 0, none⟩), .int .i64 n] w fun e w' => ∃ (r i' : Nat) (h' : Int), e = .returned (.int .i64 r) ∧ r < n ∧ i' ≤ l.length ∧ Cur w' P x l.length cap i' h' ∧ w.grownBy w' (some P) := by
  have HR : Hid (Rd .u8 w x l) := hr
  have HU : Hid (U8 l) := hu
  have HC : Hid (Cur w P x l.length cap i h) := hc
  have HP : Hid (∀ b off, x = some ⟨b, off, none⟩ → l ≠ [] → b < P) := hP
  clear hr hu hc hP
  have hn0 : ¬ (n : Int) ≤ 0 := by omega
  have hn1 : (n : Int) ≤ 256 := by omega
  go_enter Tryd.func40, Tryd.ntmps40
  go_wp2_with fail
  refine (byteCur P x cap l i h _ hl HU.out HP.out hi HR.out HC.out).mono ?_
  rintro e w1 ⟨r, i', h', rfl, hr, hi', hc1, hg1⟩
  have HC1 : Hid (Cur w1 P x l.length cap i' h') := hc1
  clear hc1
  go_wp2
  go_ret
  exact ⟨r % n, i', h', by go_num, Nat.mod_lt _ (by omega), hi', HC1.out, hg1⟩
end Go.Proofs.YtlidmnehpcodkaaDoor

/-
  Own text: what is drawn from the cursor: a number below a bound, yes or no, an element of a row; what stays of the cursor.
-/
namespace Go.Proofs.YtlidmnehpcodkaaDoor
open Go.RowKit

set_option maxRecDepth 20000 in
set_option maxHeartbeats 400000 in
theorem pickInt (P Q : Nat) (x : Option Addr) (cap : Nat) (l : List Int) (i : Nat) (h : Int) (L : List Int) (w : World) (hl : l.length ≤ 1048576) (hu : U8 l) (hP : ∀ b off, x = some ⟨b, off, none⟩ → l ≠ [] → b < P) (hi : i ≤ l.length) (hr : Rd .u8 w x l) (hc : Cur w P x l.length cap i h) (n : Nat) (hLn : L.length = n) (hn : 1 ≤ n) (hn2 : n ≤ 256)
    (hQ : Q ≠ P) (hL : ∀ j, j < L.length → w.cell? ⟨Q, j, none⟩ = some (.int .i64 (L.getD j 0))) :
    Calls Tryd.prog 42 #[.pointer (some ⟨P, 0, none⟩), .slice (some ⟨Q, 0, none⟩) n n] w fun e w' => ∃ (r i' : Nat) (h' : Int), r < L.length ∧ e = .returned (.int .i64 (L.getD r 0)) ∧ i' ≤ l.length ∧ Cur w' P x l.length cap i' h' ∧ w.grownBy w' (some P) := by
  subst hLn
  have HR : Hid (Rd .u8 w x l) := hr
  have HU : Hid (U8 l) := hu
  have HC : Hid (Cur w P x l.length cap i h) := hc
  have HP : Hid (∀ b off, x = some ⟨b, off, none⟩ → l ≠ [] → b < P) := hP
  have HL : Hid (∀ j, j < L.length → w.cell? ⟨Q, j, none⟩ = some (.int .i64 (L.getD j 0))) := hL
  clear hr hu hc hP hL
  go_enter Tryd.func42, Tryd.ntmps42
  go_wp2_with fail
  refine (belowCur P x cap l i h L.length _ hl HU.out HP.out hi HR.out HC.out hn hn2).mono ?_
  rintro e w1 ⟨r, i', h', rfl, hr, hi', hc1, hg1⟩
  have hcell : w1.cell? ⟨Q, r, none⟩ = some (.int .i64 (L.getD r 0)) := hg1.cell (HL.out r hr) (by simpa using hQ)
  have HC1 : Hid (Cur w1 P x l.length cap i' h') := hc1
  clear hc1
  generalize hv : L.getD r 0 = v at *
  have HV : Hid (L.getD r 0 = v) := hv
  clear hv
  go_wp2
  go_ret
  exact ⟨r, i', h', hr, by rw [HV.out]; rfl, hi', HC1.out, hg1⟩

set_option maxRecDepth 20000 in
set_option maxHeartbeats 400000 in
theorem pickStr (P Q : Nat) (x : Option Addr) (cap : Nat) (l : List Int) (i : Nat) (h : Int) (L : List ByteArray) (w : World) (hl : l.length ≤ 1048576) (hu : U8 l) (hP : ∀ b off, x = some ⟨b, off, none⟩ → l ≠ [] → b < P) (hi : i ≤ l.length) (hr : Rd .u8 w x l) (hc : Cur w P x l.length cap i h) (n : Nat) (hLn : L.length = n) (hn : 1 ≤ n) (hn2 : n ≤ 256)
    (hQ : Q ≠ P) (hL : ∀ j, j < L.length → w.cell? ⟨Q, j, none⟩ = some (.string (L.getD j ⟨#[]⟩))) :
    Calls Tryd.prog 114 #[.pointer (some ⟨P, 0, none⟩), .slice (some ⟨Q, 0, none⟩) n n] w fun e w' => ∃ (r i' : Nat) (h' : Int), r < L.length ∧ e = .returned (.string (L.getD r ⟨#[]⟩)) ∧ i' ≤ l.length ∧ Cur w' P x l.length cap i' h' ∧ w.grownBy w' (some P) := by
  subst hLn
  have HR : Hid (Rd .u8 w x l) := hr
  have HU : Hid (U8 l) := hu
  have HC : Hid (Cur w P x l.length cap i h) := hc
  have HP : Hid (∀ b off, x = some ⟨b, off, none⟩ → l ≠ [] → b < P) := hP
  have HL : Hid (∀ j, j < L.length → w.cell? ⟨Q, j, none⟩ = some (.string (L.getD j ⟨#[]⟩))) := hL
  clear hr hu hc hP hL
  go_enter Tryd.func114, Tryd.ntmps114
  go_wp2_with fail
  refine (belowCur P x cap l i h L.length _ hl HU.out HP.out hi HR.out HC.out hn hn2).mono ?_
  rintro e w1 ⟨r, i', h', rfl, hr, hi', hc1, hg1⟩
  have hcell : w1.cell? ⟨Q, r, none⟩ = some (.string (L.getD r ⟨#[]⟩)) := hg1.cell (HL.out r hr) (by simpa using hQ)
  have HC1 : Hid (Cur w1 P x l.length cap i' h') := hc1
  clear hc1
  generalize hv : L.getD r ⟨#[]⟩ = v at *
  have HV : Hid (L.getD r ⟨#[]⟩ = v) := hv
  clear hv
  go_wp2
  go_ret
  exact ⟨r, i', h', hr, by rw [HV.out]; rfl, hi', HC1.out, hg1⟩

theorem Cur.alloc {w : World} {P : Nat} {a : Option Addr} {len cap i : Nat} {h : Int} (hc : Cur w P a len cap i h) (o : Obj) : Cur (w.alloc o) P a len cap i h := by
  have := hc.lt
  show (w.heap.push o)[P]? = _
  rw [Array.getElem?_push, if_neg (by omega)]
  exact hc
theorem rd_block {w : World} {x : Option Addr} {l : List Int} (hr : Rd .u8 w x l) : ∀ b off, x = some ⟨b, off, none⟩ → l ≠ [] → b < w.heap.size := by
  intro b off hx hne
  rcases hr with h | ⟨b', off', hx', hlt, _⟩
  · exact absurd h hne
  · rw [hx] at hx'
    simp at hx'
    omega

theorem cells_list {α : Type} (L : List α) (f : α → Value) (d : α) (w : World) (C : Array Value) (t : TypeId) (hC : C = (L.map f).toArray) (j : Nat) (hj : j < L.length) :
    (w.alloc (.cells C t)).cell? ⟨w.heap.size, j, none⟩ = some (f (L.getD j d)) := by
  subst hC
  rw [cell_of_row _ _ j _ _ _ (heap_alloc_new w _)]
  simp [List.getD, hj]

/-- All that the draws know of their cursor. -/
def Drw (w : World) (P : Nat) (x : Option Addr) (cap : Nat) (l : List Int) : Prop :=
  l.length ≤ 1048576 ∧ U8 l ∧ (∀ b off, x = some ⟨b, off, none⟩ → l ≠ [] → b < P) ∧ Rd .u8 w x l ∧ ∃ (i : Nat) (h : Int), i ≤ l.length ∧ Cur w P x l.length cap i h
theorem Drw.lt {w : World} {P : Nat} {x : Option Addr} {cap : Nat} {l : List Int} (h : Drw w P x cap l) : P < w.heap.size := by
  obtain ⟨_, _, _, _, i, hh, _, hc⟩ := h
  exact hc.lt
theorem Rd.belowP {w w' : World} {P : Nat} {x : Option Addr} {l : List Int} (hr : Rd .u8 w x l) (hP : ∀ b off, x = some ⟨b, off, none⟩ → l ≠ [] → b < P) (hb : Below P w w') : Rd .u8 w' x l := by
  rcases hr with h | ⟨b, off, ha, hlt, hc⟩
  · exact .inl h
  · by_cases hne : l = []
    · exact .inl hne
    · exact .inr ⟨b, off, ha, Nat.lt_of_lt_of_le hlt hb.size, fun i hi => (hb.cell (by exact hP b off ha hne)).trans (hc i hi)⟩
theorem below_grownP {w w' : World} {P : Nat} (hg : w.grownBy w' (some P)) (hlt : P < w.heap.size) : Below P w w' :=
  (Below.refl P w).grown hg (by omega) (fun k hk => by simp at hk; omega)
theorem Drw.step {w w' : World} {P : Nat} {x : Option Addr} {cap : Nat} {l : List Int} {i' : Nat} {h' : Int} (h : Drw w P x cap l) (hb : Below P w w') (hi : i' ≤ l.length) (hc : Cur w' P x l.length cap i' h') : Drw w' P x cap l :=
  ⟨h.1, h.2.1, h.2.2.1, h.2.2.2.1.belowP h.2.2.1 hb, i', h', hi, hc⟩
theorem Drw.alloc {w : World} {P : Nat} {x : Option Addr} {cap : Nat} {l : List Int} (h : Drw w P x cap l) (o : Obj) : Drw (w.alloc o) P x cap l := by
  have hlt := h.lt
  obtain ⟨h1, h2, h3, h4, i, hh, hi, hc⟩ := h
  exact ⟨h1, h2, h3, h4.belowP h3 ((Below.refl P w).alloc (by omega) o), i, hh, hi, hc.alloc o⟩
/-- Behind whatever leaves the cursor's block alone. -/
theorem Drw.far {w w' : World} {P B : Nat} {x : Option Addr} {cap : Nat} {l : List Int} (h : Drw w P x cap l) (hb : Below B w w') (hB : P < B) : Drw w' P x cap l := by
  obtain ⟨h1, h2, h3, h4, i, hh, hi, hc⟩ := h
  refine ⟨h1, h2, h3, h4.belowP h3 (hb.mono (by omega)), i, hh, hi, ?_⟩
  show w'.heap[P]? = _
  rw [hb.block P hB]
  exact hc

set_option maxHeartbeats 400000 in
theorem newD (x : Option Addr) (cap : Nat) (l : List Int) (w : World) (hl : l.length ≤ 1048576) (hu : U8 l) (hr : Rd .u8 w x l) :
    Calls Tryd.prog 38 #[.slice x l.length cap] w fun e w' => ∃ P, e = .returned (.pointer (some ⟨P, 0, none⟩)) ∧ w.heap.size ≤ P ∧ Drw w' P x cap l ∧ Below w.heap.size w w' := by
  refine (newCur x cap l w hl hu hr).mono ?_
  rintro e w1 ⟨P, h, rfl, hP, hc, hb⟩
  exact ⟨P, rfl, hP, ⟨hl, hu, fun b off hx hne => Nat.lt_of_lt_of_le (rd_block hr b off hx hne) hP, hr.below hb (Nat.le_refl _), 0, h, Nat.zero_le _, hc⟩, hb⟩

theorem belowD (P : Nat) (x : Option Addr) (cap : Nat) (l : List Int) (n : Nat) (w : World) (hd : Drw w P x cap l) (hn : 1 ≤ n) (hn2 : n ≤ 256) :
    Calls Tryd.prog 40 #[.pointer (some ⟨P, 0, none⟩), .int .i64 n] w fun e w' => ∃ r : Nat, e = .returned (.int .i64 r) ∧ r < n ∧ Drw w' P x cap l ∧ w.grownBy w' (some P) := by
  obtain ⟨h1, h2, h3, h4, i, hh, hi, hc⟩ := id hd
  refine (belowCur P x cap l i hh n w h1 h2 h3 hi h4 hc hn hn2).mono ?_
  rintro e w1 ⟨r, i', h', rfl, hr, hi', hc1, hg1⟩
  exact ⟨r, rfl, hr, hd.step (below_grownP hg1 hd.lt) hi' hc1, hg1⟩

set_option maxRecDepth 20000 in
theorem onceD (P : Nat) (x : Option Addr) (cap : Nat) (l : List Int) (n : Nat) (w : World) (hd : Drw w P x cap l) (hn : 1 ≤ n) (hn2 : n ≤ 256) :
    Calls Tryd.prog 90 #[.pointer (some ⟨P, 0, none⟩), .int .i64 n] w fun e w' => ∃ q : Bool, e = .returned (.bool q) ∧ Drw w' P x cap l ∧ w.grownBy w' (some P) := by
  have HD : Hid (Drw w P x cap l) := hd
  clear hd
  go_enter Tryd.func90, Tryd.ntmps90
  go_wp2_with fail
  refine (belowD P x cap l n _ HD.out hn hn2).mono ?_
  rintro e w1 ⟨r, rfl, hr, hd1, hg1⟩
  have HD1 : Hid (Drw w1 P x cap l) := hd1
  clear hd1
  go_wp2
  go_ret
  exact ⟨_, rfl, HD1.out, hg1⟩
theorem pickD (P Q : Nat) (x : Option Addr) (cap : Nat) (l : List Int) (L : List ByteArray) (w : World) (hd : Drw w P x cap l) (n : Nat) (hLn : L.length = n) (hn : 1 ≤ n) (hn2 : n ≤ 256)
    (hQ : Q ≠ P) (hL : ∀ j, j < L.length → w.cell? ⟨Q, j, none⟩ = some (.string (L.getD j ⟨#[]⟩))) :
    Calls Tryd.prog 114 #[.pointer (some ⟨P, 0, none⟩), .slice (some ⟨Q, 0, none⟩) n n] w fun e w' => ∃ s ∈ L, e = .returned (.string s) ∧ Drw w' P x cap l ∧ w.grownBy w' (some P) := by
  obtain ⟨h1, h2, h3, h4, i, hh, hi, hc⟩ := id hd
  refine (pickStr P Q x cap l i hh L w h1 h2 h3 hi h4 hc n hLn hn hn2 hQ hL).mono ?_
  rintro e w1 ⟨r, i', h', hr, rfl, hi', hc1, hg1⟩
  refine ⟨L.getD r ⟨#[]⟩, ?_, rfl, hd.step (below_grownP hg1 hd.lt) hi' hc1, hg1⟩
  have e : L.getD r ⟨#[]⟩ = L[r] := by simp [List.getD, hr]
  rw [e]; exact List.getElem_mem hr
end Go.Proofs.YtlidmnehpcodkaaDoor

/-
  Own text: what is drawn, with what a draw leaves alone: every block but the cursor's.
-/
namespace Go.Proofs.YtlidmnehpcodkaaDoor
open Go.RowKit

/-- Nothing that was there has turned but the cursor. -/
abbrev OnlyP (P : Nat) (w w' : World) : Prop := Only (fun k => k = P) w w'
theorem onlyP_grown {P : Nat} {w w' : World} (h : w.grownBy w' (some P)) : OnlyP P w w' := (Only.of_grown h).mono fun _ _ hk => (Option.some.inj hk).symm
theorem OnlyP.below {P : Nat} {w w' : World} (h : OnlyP P w w') (hP : P < w.heap.size) : Below P w w' := Only.below h (by omega) (fun k hk => by omega)
theorem OnlyP.belowB {P B : Nat} {w w' : World} (h : OnlyP P w w') (hB : B ≤ w.heap.size) (hP : B ≤ P) : Below B w w' := Only.below h hB (fun k hk => by omega)
theorem Var.onlyP {P : Nat} {w w' : World} {Q : Nat} {C : Array Value} {t : TypeId} (h : Var w Q C t) (ho : OnlyP P w w') (hne : Q ≠ P) : Var w' Q C t := h.only ho hne

theorem belowO (P : Nat) (x : Option Addr) (cap : Nat) (l : List Int) (n : Nat) (w : World) (hd : Drw w P x cap l) (hn : 1 ≤ n) (hn2 : n ≤ 256) :
    Calls Tryd.prog 40 #[.pointer (some ⟨P, 0, none⟩), .int .i64 n] w fun e w' => ∃ r : Nat, e = .returned (.int .i64 r) ∧ r < n ∧ Drw w' P x cap l ∧ OnlyP P w w' := by
  refine (belowD P x cap l n w hd hn hn2).mono ?_
  rintro e w' ⟨r, rfl, hr, hd', hg⟩
  exact ⟨r, rfl, hr, hd', onlyP_grown hg⟩
theorem byteO (P : Nat) (x : Option Addr) (cap : Nat) (l : List Int) (w : World) (hd : Drw w P x cap l) :
    Calls Tryd.prog 93 #[.pointer (some ⟨P, 0, none⟩)] w fun e w' => ∃ r : Nat, e = .returned (.int .i64 r) ∧ r < 256 ∧ Drw w' P x cap l ∧ OnlyP P w w' := by
  obtain ⟨h1, h2, h3, h4, i, hh, hi, hc⟩ := id hd
  refine (byteCur P x cap l i hh w h1 h2 h3 hi h4 hc).mono ?_
  rintro e w1 ⟨r, i', h', rfl, hr, hi', hc1, hg1⟩
  exact ⟨r, rfl, hr, hd.step (below_grownP hg1 hd.lt) hi' hc1, onlyP_grown hg1⟩
theorem onceO (P : Nat) (x : Option Addr) (cap : Nat) (l : List Int) (n : Nat) (w : World) (hd : Drw w P x cap l) (hn : 1 ≤ n) (hn2 : n ≤ 256) :
    Calls Tryd.prog 90 #[.pointer (some ⟨P, 0, none⟩), .int .i64 n] w fun e w' => ∃ q : Bool, e = .returned (.bool q) ∧ Drw w' P x cap l ∧ OnlyP P w w' := by
  refine (onceD P x cap l n w hd hn hn2).mono ?_
  rintro e w' ⟨q, rfl, hd', hg⟩
  exact ⟨q, rfl, hd', onlyP_grown hg⟩
theorem pickO (P Q : Nat) (x : Option Addr) (cap : Nat) (l : List Int) (L : List ByteArray) (w : World) (hd : Drw w P x cap l) (n : Nat) (hLn : L.length = n) (hn : 1 ≤ n) (hn2 : n ≤ 256)
    (hQ : Q ≠ P) (hL : ∀ j, j < L.length → w.cell? ⟨Q, j, none⟩ = some (.string (L.getD j ⟨#[]⟩))) :
    Calls Tryd.prog 114 #[.pointer (some ⟨P, 0, none⟩), .slice (some ⟨Q, 0, none⟩) n n] w fun e w' => ∃ s ∈ L, e = .returned (.string s) ∧ Drw w' P x cap l ∧ OnlyP P w w' := by
  refine (pickD P Q x cap l L w hd n hLn hn hn2 hQ hL).mono ?_
  rintro e w' ⟨s, hs, rfl, hd', hg⟩
  exact ⟨s, hs, rfl, hd', onlyP_grown hg⟩
theorem pickIntO (P Q : Nat) (x : Option Addr) (cap : Nat) (l : List Int) (L : List Int) (w : World) (hd : Drw w P x cap l) (n : Nat) (hLn : L.length = n) (hn : 1 ≤ n) (hn2 : n ≤ 256)
    (hQ : Q ≠ P) (hL : ∀ j, j < L.length → w.cell? ⟨Q, j, none⟩ = some (.int .i64 (L.getD j 0))) :
    Calls Tryd.prog 42 #[.pointer (some ⟨P, 0, none⟩), .slice (some ⟨Q, 0, none⟩) n n] w fun e w' => ∃ m ∈ L, e = .returned (.int .i64 m) ∧ Drw w' P x cap l ∧ OnlyP P w w' := by
  obtain ⟨h1, h2, h3, h4, i, hh, hi, hc⟩ := id hd
  refine (pickInt P Q x cap l i hh L w h1 h2 h3 hi h4 hc n hLn hn hn2 hQ hL).mono ?_
  rintro e w1 ⟨r, i', h', hr, rfl, hi', hc1, hg1⟩
  refine ⟨L.getD r 0, ?_, rfl, hd.step (below_grownP hg1 hd.lt) hi' hc1, onlyP_grown hg1⟩
  have e : L.getD r 0 = L[r] := by simp [List.getD, hr]
  rw [e]; exact List.getElem_mem hr
/-- A step that turns what is new since w alone, behind one that left all but S alone. -/
theorem Only.trans' {S : Nat → Prop} {w w1 w2 : World} (h : Only S w w1) (k : Only (fun j => w.heap.size ≤ j) w1 w2) : Only S w w2 :=
  ⟨k.os.trans h.os, k.tape.trans h.tape, k.output.trans h.output, Nat.le_trans h.size k.size, fun i hi hs => (k.block i (Nat.lt_of_lt_of_le hi h.size) (by omega)).trans (h.block i hi hs)⟩
/-- The cursor behind what makes new memory, or writes into rows of one's own. -/
theorem Drw.only {S : Nat → Prop} {w w' : World} {P : Nat} {x : Option Addr} {cap : Nat} {l : List Int} (h : Drw w P x cap l) (ho : Only S w w') (hs : ∀ k, k ≤ P → ¬ S k) : Drw w' P x cap l :=
  h.far (B := P + 1) (ho.below (by have := h.lt; omega) (fun k hk => by
    refine Nat.lt_of_not_le fun hle => hs k hle hk)) (by omega)

theorem Tryd.infoU8 : (Tryd.prog.info? 5).map (fun i => (i.zero, i.size, i.bytes)) = some (some (.int .u8 0), 1, 1) := by kernel_rfl

set_option maxRecDepth 20000 in
set_option maxHeartbeats 400000 in
theorem bytesO (P : Nat) (x : Option Addr) (cap : Nat) (l : List Int) (n : Nat) (w : World) (hd : Drw w P x cap l) (hn : n ≤ 1000) :
    Calls Tryd.prog 115 #[.pointer (some ⟨P, 0, none⟩), .int .i64 n] w fun e w' => ∃ (v : Value) (m : List UInt8), e = .returned v ∧ m.length = n ∧ w'.ownsRow w.heap.size 5 1 v n (m.map fun b => Value.int .u8 b.toNat) ∧ Drw w' P x cap l ∧ OnlyP P w w' := by
  obtain ⟨i0, hi, hz0, hz1, hz2⟩ := info_parts Tryd.infoU8
  have hlt := hd.lt
  have hd0 : Drw (w.alloc (.cells #[] 5)) P x cap l := hd.alloc _
  have ho0 : (w.alloc (.cells #[] 5)).ownsRow w.heap.size 5 1 (.slice (some ⟨w.heap.size, 0, none⟩) 0 0) 0 [] := World.ownsRow_made w #[] 0 (Nat.le_refl _) (Nat.zero_le _) rfl
  have hb0 : OnlyP P w (w.alloc (.cells #[] 5)) := Only.of_new (below1 w _)
  have HD0 : Hid (Drw (w.alloc (.cells #[] 5)) P x cap l) := hd0
  clear hd hd0
  go_enter Tryd.func115, Tryd.ntmps115
  go_wp2
  go_loopw [5, 6] (fun v i wr => ∃ (k : Nat) (m : List UInt8), k ≤ n ∧ m.length = k ∧ i = .int .i64 k ∧ wr.ownsRow w.heap.size 5 1 v k (m.map fun b => Value.int .u8 b.toNat) ∧ Hid (Drw wr P x cap l) ∧ OnlyP P w wr) (fun _ i _ => n - (intOf i).toNat)
  case atStart => exact ⟨0, [], Nat.zero_le _, rfl, rfl, ho0, HD0, hb0⟩
  case round =>
    obtain ⟨k, m, hk, hm, rfl, hown, HD, hbel⟩ := hrel
    clear ho0 hb0 HD0
    by_cases hlt2 : k < n
    · go_wp2_with fail
      refine (byteO P x cap l _ HD.out).mono ?_
      rintro e w1 ⟨r, rfl, hr, hd1, hb1⟩
      have ho1 := own_only hown hb1 (fun j hj => by have := (hown.lt j hj).1; omega)
      have hbel1 := hbel.trans hb1
      have HD1 : Hid (Drw w1 P x cap l) := hd1
      have hcv : (convert 3 5 (.int .i64 (r : Int))).run Tryd.prog w1 = .ok (.int .u8 (((UInt8.ofNat r).toNat : Nat) : Int)) w1 := by
        have e1 : (UInt8.ofNat r).toNat = r := by rw [UInt8.toNat_ofNat']; omega
        rw [e1]
        go_simp
        rw [IntKind.wrap_u8 (r : Int)]
        omega
      clear hd1 hown hbel hb1
      have hlt1 := HD1.out.lt
      generalize UInt8.ofNat r = b at *
      go_wp2_with (at_builtin; refine wpList_append_own _ rfl _ _ 22 rfl w.heap.size 5 i0 (.int .u8 0) 1 1 Tryd.underlying22 hi hz0 hz1 hz2 rfl (by decide) _ _ _ rfl (ho1.alloc _) ⟨w1.heap.size, 0, none⟩ 1 1 [.int .u8 b.toNat] rfl rfl ?c1 ?c2 ?c3 ?c4 ?c5 ?_)
      case c1 =>
        intro j u hj
        match j, hj with
        | 0, hj => simp at hj; subst hj; simp [Addr.add]
      case c2 => intro u hu; simp at hu; subst hu; rfl
      case c3 => unfold maxLen; omega
      case c4 => omega
      case c5 => have := hbel1.size; simp; omega
      intro v' w2 hown' hgrow _
      have hon2 : Only (fun j => w.heap.size ≤ j) w1 w2 := ((Only.of_new (below1 w1 _)).trans ((Only.of_grown hgrow).mono fun j _ hj => (ho1.lt j hj).1))
      have hbel2 : OnlyP P w w2 := hbel1.trans' hon2
      have HD2 : Hid (Drw w2 P x cap l) := HD1.out.only hon2 (fun j hj h => by omega)
      have ho2 : w2.ownsRow w.heap.size 5 1 v' (k + 1) ((m ++ [b]).map fun b => Value.int .u8 b.toNat) := by simpa using hown'
      have hm2 : (m ++ [b]).length = k + 1 := by simp [hm]
      clear hgrow ho1 hbel1 hown' hon2
      generalize m ++ [b] = m2 at *
      go_wp2
      go_roundw
      case rel => exact ⟨k + 1, m2, by omega, hm2, by go_num, ho2, HD2, hbel2⟩
      case measure => simp [intOf]; omega
    · obtain rfl : k = n := by omega
      go_wp2
      go_ret
      exact ⟨_, m, rfl, hm, hown, HD.out, hbel⟩
end Go.Proofs.YtlidmnehpcodkaaDoor

/-
  Own text: the disks that the laws draw: a text of a sector, rows of yes and no, a disk of some sectors.
-/
namespace Go.Proofs.YtlidmnehpcodkaaDoor
open Go.RowKit

theorem conv_own {w : World} {base g cap n : Nat} {m : List UInt8} (hm : m.length = n) (h : w.ownsRow base 5 1 (.slice (some ⟨g, 0, none⟩) n cap) n (m.map fun b => Value.int .u8 b.toNat)) :
    (convert 22 9 (.slice (some ⟨g, 0, none⟩) n cap)).run Tryd.prog w = .ok (.string ⟨m.toArray⟩) w := by
  subst hm
  refine run_convert_bytes_back (P := Tryd.prog) w 22 9 5 ⟨g, 0, none⟩ cap m Tryd.underlying22 Tryd.underlying5 Tryd.underlying9 ?_
  intro j hj
  rw [Go.WideShapes.add_plain, Nat.zero_add, h.cellAt j (by omega)]
  simp [hj]

set_option maxRecDepth 20000 in
set_option maxHeartbeats 400000 in
theorem dataO (P : Nat) (x : Option Addr) (cap : Nat) (l : List Int) (w : World) (hd : Drw w P x cap l) :
    Calls Tryd.prog 89 #[.pointer (some ⟨P, 0, none⟩)] w fun e w' => ∃ s : ByteArray, e = .returned (.string s) ∧ s.size ≤ 5 ∧ Drw w' P x cap l ∧ OnlyP P w w' := by
  have HD : Hid (Drw w P x cap l) := hd
  clear hd
  go_enter Tryd.func89, Tryd.ntmps89
  go_wp2_with fail
  refine (bytesO P x cap l 5 _ HD.out (by omega)).mono ?_
  rintro e w1 ⟨v, m, rfl, hm, ho1, hd1, hon1⟩
  have HD1 : Hid (Drw w1 P x cap l) := hd1
  have hlt1 := hd1.lt
  clear hd1
  rcases ho1.2 with ⟨_, h0⟩ | ⟨g, c, cur, rfl, _⟩
  · omega
  have hcv := conv_own hm ho1
  have HS5 : Hid ((⟨m.toArray⟩ : ByteArray).size = 5) := by show _ = _; simp [ByteArray.size, hm]
  clear ho1 hm
  generalize (⟨m.toArray⟩ : ByteArray) = y at *
  go_wp2_with fail
  refine (pickO P w1.heap.size x cap l [⟨#[]⟩, ⟨#[97]⟩, ⟨#[98, 99]⟩, ⟨#[100, 101, 102]⟩, y] _ (HD1.out.alloc _) 5 rfl (by omega) (by omega) (by omega) (fun j hj => cells_list [⟨#[]⟩, ⟨#[97]⟩, ⟨#[98, 99]⟩, ⟨#[100, 101, 102]⟩, y] Value.string ⟨#[]⟩ w1 _ _ rfl j hj)).mono ?_
  rintro e w2 ⟨s, hs, rfl, hd2, hon2⟩
  have HD2 : Hid (Drw w2 P x cap l) := hd2
  have hon : OnlyP P w w2 := (hon1.trans (Only.of_new (below1 w1 _))).trans hon2
  have HS : Hid (s.size ≤ 5) := by
    simp only [List.mem_cons, List.not_mem_nil, or_false] at hs
    show _ ≤ _
    rcases hs with rfl | rfl | rfl | rfl | rfl
    · decide
    · decide
    · decide
    · decide
    · rw [HS5.out]; exact Nat.le_refl _
  clear hs hd2 hon1 hon2 hcv
  go_wp2
  go_ret
  exact ⟨s, rfl, HS.out, HD2.out, hon⟩

set_option maxRecDepth 20000 in
set_option maxHeartbeats 400000 in
theorem keepO (P : Nat) (x : Option Addr) (cap : Nat) (l : List Int) (w : World) (hd : Drw w P x cap l) :
    Calls Tryd.prog 44 #[.pointer (some ⟨P, 0, none⟩)] w fun e w' => ∃ (v : Value) (ks : List Bool), e = .returned v ∧ ks.length ≤ 9 ∧ w'.ownsRow w.heap.size 4 1 v ks.length (ks.flatMap encB) ∧ Drw w' P x cap l ∧ OnlyP P w w' := by
  obtain ⟨i0, hi, hz0, hz1, hz2⟩ := info_parts Tryd.infoBool
  have hlt := hd.lt
  have HD0 : Hid (Drw (w.alloc (.cells #[] 4)) P x cap l) := hd.alloc _
  have ho0 : (w.alloc (.cells #[] 4)).ownsRow w.heap.size 4 1 (.slice (some ⟨w.heap.size, 0, none⟩) 0 0) 0 [] := World.ownsRow_made w #[] 0 (Nat.le_refl _) (Nat.zero_le _) rfl
  have hb0 : OnlyP P w (w.alloc (.cells #[] 4)) := Only.of_new (below1 w _)
  clear hd
  go_enter Tryd.func44, Tryd.ntmps44
  go_wp2_with fail
  refine (belowO P x cap l 9 _ HD0.out (by omega) (by omega)).mono ?_
  rintro e w1 ⟨n, rfl, hn, hd1, hon1⟩
  have ho1 := own_only ho0 hon1 (fun j hj => by have := (ho0.lt j hj).1; omega)
  have HD1 : Hid (Drw w1 P x cap l) := hd1
  have hb1 := hb0.trans hon1
  clear hd1 hon1 ho0 hb0 HD0
  go_wp2
  go_loopw [3, 5] (fun v i wr => ∃ (k : Nat) (m : List Bool), k ≤ n ∧ m.length = k ∧ i = .int .i64 k ∧ wr.ownsRow w.heap.size 4 1 v k (m.map Value.bool) ∧ Hid (Drw wr P x cap l) ∧ OnlyP P w wr) (fun _ i _ => n - (intOf i).toNat)
  case atStart => exact ⟨0, [], Nat.zero_le _, rfl, rfl, ho1, HD1, hb1⟩
  case round =>
    obtain ⟨k, m, hk, hm, rfl, hown, HD, hbel⟩ := hrel
    clear ho1 hb1 HD1
    by_cases hlt2 : k < n
    · go_wp2_with fail
      refine (onceO P x cap l 2 _ HD.out (by omega) (by omega)).mono ?_
      rintro e w1 ⟨b, rfl, hd1, hb1⟩
      have ho1 := own_only hown hb1 (fun j hj => by have := (hown.lt j hj).1; omega)
      have hbel1 := hbel.trans hb1
      have HD1 : Hid (Drw w1 P x cap l) := hd1
      clear hd1 hown hbel hb1
      go_wp2_with (at_builtin; refine wpList_append_own _ rfl _ _ 32 rfl w.heap.size 4 i0 (.bool false) 1 1 Tryd.underlying32 hi hz0 hz1 hz2 rfl (by decide) _ _ _ rfl (ho1.alloc _) ⟨w1.heap.size, 0, none⟩ 1 1 [.bool b] rfl rfl ?c1 ?c2 ?c3 ?c4 ?c5 ?_)
      case c1 =>
        intro j u hj
        match j, hj with
        | 0, hj => simp at hj; subst hj; simp [Addr.add]
      case c2 => intro u hu; simp at hu; subst hu; rfl
      case c3 => unfold maxLen; omega
      case c4 => omega
      case c5 => have := hbel1.size; simp; omega
      intro v' w2 hown' hgrow _
      have hon2 : Only (fun j => w.heap.size ≤ j) w1 w2 := ((Only.of_new (below1 w1 _)).trans ((Only.of_grown hgrow).mono fun j _ hj => (ho1.lt j hj).1))
      have hbel2 : OnlyP P w w2 := hbel1.trans' hon2
      have HD2 : Hid (Drw w2 P x cap l) := HD1.out.only hon2 (fun j hj h => by omega)
      have ho2 : w2.ownsRow w.heap.size 4 1 v' (k + 1) ((m ++ [b]).map Value.bool) := by simpa using hown'
      have hm2 : (m ++ [b]).length = k + 1 := by simp [hm]
      clear hgrow ho1 hbel1 hown' hon2
      generalize m ++ [b] = m2 at *
      go_wp2
      go_roundw
      case rel => exact ⟨k + 1, m2, by omega, hm2, by go_num, ho2, HD2, hbel2⟩
      case measure => simp [intOf]; omega
    · obtain rfl : k = n := by omega
      go_wp2
      go_ret
      exact ⟨_, m, rfl, by omega, by rw [flatB, hm]; exact hown, HD.out, hbel⟩
end Go.Proofs.YtlidmnehpcodkaaDoor

/-
  Own text: a right disk that is drawn.
-/
namespace Go.Proofs.YtlidmnehpcodkaaDoor
open Go.RowKit

def foursL : List Int := [1, 2, 5, 9]

/-- Rows of a disk behind a draw. -/
theorem OwnD.onlyP {P : Nat} {w w' : World} {lo : Nat} {v : Value} {d : DiskD} (h : OwnD w lo v d) (ho : OnlyP P w w') (hP : P < lo) : OwnD w' lo v d :=
  h.only ho (fun k hk e => by have := (h.blk k hk).1; omega)

set_option maxRecDepth 20000 in
set_option maxHeartbeats 1000000 in
theorem rightO (P : Nat) (x : Option Addr) (cap : Nat) (l : List Int) (w : World) (hd : Drw w P x cap l) :
    Calls Tryd.prog 94 #[.pointer (some ⟨P, 0, none⟩)] w fun e w' => ∃ (v : Value) (d : DiskD), e = .returned v ∧ OwnD w' w.heap.size v d ∧ 1 ≤ d.1.length ∧ d.1.length ≤ 9 ∧ d.2.length ≤ 6 ∧ SmD d ∧ Drw w' P x cap l ∧ OnlyP P w w' := by
  obtain ⟨i0, hi, hz0, hz1, hz2⟩ := info_parts Tryd.infoPut
  have hlt := hd.lt
  have HD0 : Hid (Drw ((w.alloc (.cells #[.slice none 0 0, .slice none 0 0] 27)).alloc (.cells (foursL.map (Value.int .i64)).toArray 3)) P x cap l) := (hd.alloc _).alloc _
  clear hd
  go_enter Tryd.func94, Tryd.ntmps94
  go_wp2_with fail
  refine (pickIntO P (w.heap.size + 1) x cap l foursL _ HD0.out 4 rfl (by omega) (by omega) (by omega) (fun j hj => by
    have := cells_list foursL (Value.int .i64) 0 (w.alloc (.cells #[.slice none 0 0, .slice none 0 0] 27)) _ 3 rfl j hj
    rwa [show (w.alloc (.cells #[.slice none 0 0, .slice none 0 0] 27)).heap.size = w.heap.size + 1 by simp] at this)).mono ?_
  rintro e w1 ⟨n, hn, rfl, hd1, hon1⟩
  have hn' : n = 1 ∨ n = 2 ∨ n = 5 ∨ n = 9 := by unfold foursL at hn; simpa using hn
  have HN : Hid (n = 1 ∨ n = 2 ∨ n = 5 ∨ n = 9) := hn'
  have HD1 : Hid (Drw w1 P x cap l) := hd1
  have hR1 : Var w1 w.heap.size #[.slice none 0 0, .slice none 0 0] 27 := ((Var.made w _ _).alloc _).only hon1 (by show ¬ w.heap.size = P; omega)
  have hb1 : OnlyP P w w1 := (Only.of_new (below2 w _ _)).trans hon1
  have hs1 : w.heap.size + 1 ≤ w1.heap.size := hR1.lt
  have hlt1 := hd1.lt
  clear hn hn' hd1 hon1 HD0
  have HNW : Hid (∀ W, Calls Tryd.prog 88 #[.int .i64 n] W fun e w' => ∃ v', e = .returned (.tuple #[v', .bool true]) ∧ OwnD w' W.heap.size v' (List.replicate n.toNat ⟨#[]⟩, []) ∧ Below W.heap.size W w') := by
    intro W
    have hok : newOk n = true := by rcases HN.out with rfl | rfl | rfl | rfl <;> decide
    have := specDiskNew n W
    rw [hok, new_yes hok] at this
    exact this
  have hn1 : 1 ≤ n.toNat ∧ n.toNat ≤ 9 := by rcases HN.out with rfl | rfl | rfl | rfl <;> decide
  obtain ⟨N, hN⟩ : ∃ N, n.toNat = N := ⟨_, rfl⟩
  rw [hN] at hn1 HNW
  obtain ⟨M, hM⟩ : ∃ M, List.replicate N (⟨#[]⟩ : ByteArray) = M := ⟨_, rfl⟩
  have hML : M.length = N := by rw [← hM]; simp
  have HSM : Hid (SmL M) := by show SmL M; rw [← hM]; exact smL_rep _
  rw [hM] at HNW
  clear hN HN hM
  obtain ⟨hN1, hN9⟩ := hn1
  subst hML
  go_wp2_with fail
  refine (HNW.out _).mono ?_
  rintro e w2 ⟨v2, rfl, ho2, hb2⟩
  have HD2 : Hid (Drw w2 P x cap l) := HD1.out.far hb2 hlt1
  have hR2 := hR1.new hb2
  have hon2 : OnlyP P w w2 := hb1.trans (Only.of_new hb2)
  have hO2 := ho2.base hs1
  obtain ⟨a1, c1, b1, e1, rfl⟩ := hO2.shape
  have hs2 : w.heap.size + 1 ≤ w2.heap.size := hR2.lt
  have HD3 : Hid (Drw (w2.alloc (.cells #[.slice a1 M.length c1, .slice b1 0 e1] 27)) P x cap l) := HD2.out.alloc _
  have HR3 : Hid (Var (w2.alloc (.cells #[.slice a1 M.length c1, .slice b1 0 e1] 27)) w.heap.size #[.slice none 0 0, .slice none 0 0] 27) := hR2.alloc _
  have HV3 : Hid (Var (w2.alloc (.cells #[.slice a1 M.length c1, .slice b1 0 e1] 27)) w2.heap.size #[.slice a1 M.length c1, .slice b1 0 e1] 27) := Var.made w2 _ _
  have HO3 : Hid (OwnD (w2.alloc (.cells #[.slice a1 M.length c1, .slice b1 0 e1] 27)) (w.heap.size + 1) (.agg #[.slice a1 M.length c1, .slice b1 0 e1]) (M, [])) := hO2.below (below1 _ _)
  have hon3 : OnlyP P w (w2.alloc (.cells #[.slice a1 M.length c1, .slice b1 0 e1] 27)) := hon2.trans (Only.of_new (below1 _ _))
  clear HNW ho2 hO2 hb2 hR1 hR2 hb1 hon2 HD1 HD2 hs1 hlt1
  go_wp2
  go_loopw [5] (fun i wr => ∃ (k : Nat) (m : List ByteArray), k ≤ M.length ∧ m.length = M.length ∧ Hid (SmL m) ∧ i = .int .i64 k ∧ Hid (Drw wr P x cap l) ∧ Hid (Var wr w.heap.size #[.slice none 0 0, .slice none 0 0] 27) ∧ Hid (Var wr w2.heap.size #[.slice a1 M.length c1, .slice b1 0 e1] 27) ∧ Hid (OwnD wr (w.heap.size + 1) (.agg #[.slice a1 M.length c1, .slice b1 0 e1]) (m, [])) ∧ Hid (OnlyP P w wr)) (fun i _ => M.length - (intOf i).toNat)
  case atStart => exact ⟨0, M, Nat.zero_le _, rfl, HSM, rfl, HD3, HR3, HV3, HO3, hon3⟩
  case round =>
    obtain ⟨k, m, hk, hm, HSm, rfl, HD, HR, HV, HO, HON⟩ := hrel
    clear hon3 HD3 HR3 HV3 HO3
    have hv0 : wr.cell? ⟨w2.heap.size, 0, none⟩ = some (.slice a1 M.length c1) := HV.out.cell 0
    by_cases hlt2 : k < M.length
    · obtain ⟨v1, v2, hv, o1, o2⟩ := HO.out
      simp only [Value.agg.injEq, Array.mk.injEq, List.cons.injEq, and_true] at hv
      obtain ⟨rfl, rfl⟩ := hv
      simp only [hm] at o1
      rcases o1.2 with ⟨_, h0⟩ | ⟨g, cc, cur, hvv, hgb, _⟩
      · omega
      simp only [Value.slice.injEq, true_and] at hvv
      obtain ⟨rfl, rfl⟩ := hvv
      have hgP : ¬ g = P := by omega
      have hgV : ¬ g = w2.heap.size := fun e => own_var o1 HV.out (by decide) (by rw [← e]; rfl)
      have hgR : ¬ g = w.heap.size := by omega
      have HW : Hid (∀ w3 s, OnlyP P wr.drew w3 → Drw w3 P x cap l → w3.cell? ⟨w2.heap.size, 0, none⟩ = some (.slice (some ⟨g, 0, none⟩) M.length c1) ∧ (∃ o, w3.cell? ⟨g, k, none⟩ = some o) ∧ w3.frozen? ⟨g, k, none⟩ = false ∧ Drw (w3.setCell ⟨g, k, none⟩ (.string s)) P x cap l ∧ Var (w3.setCell ⟨g, k, none⟩ (.string s)) w.heap.size #[.slice none 0 0, .slice none 0 0] 27 ∧ Var (w3.setCell ⟨g, k, none⟩ (.string s)) w2.heap.size #[.slice (some ⟨g, 0, none⟩) M.length c1, .slice b1 0 e1] 27 ∧ OwnD (w3.setCell ⟨g, k, none⟩ (.string s)) (w.heap.size + 1) (.agg #[.slice (some ⟨g, 0, none⟩) M.length c1, .slice b1 0 e1]) (m.set k s, []) ∧ OnlyP P w (w3.setCell ⟨g, k, none⟩ (.string s))) := by
        intro w3 s hon hdr
        have hon' : OnlyP P wr w3 := ⟨hon.os, hon.tape, hon.output, hon.size, hon.block⟩
        have hV' := HV.out.onlyP hon' (by omega)
        have hR' := HR.out.onlyP hon' (by omega)
        have o1' := own_only o1 hon' (fun j hj e => by cases hj; exact hgP e)
        have o2' := own_only o2 hon' (fun j hj e => by have := (o2.lt j hj).1; omega)
        have hst := (o1'.stored k (.string s)).1
        have hoo : Only (fun j => j = g) w3 (w3.setCell ⟨g, k, none⟩ (.string s)) := Only.setCell (S := fun j => j = g) (Only.refl _ _) (p := ⟨g, k, none⟩) rfl _
        have hml : k < m.length := by omega
        refine ⟨hV'.cell 0, ⟨_, (o1'.cellAt k (by omega)).trans (List.getElem?_eq_getElem (by simpa using hml))⟩, o1'.frozenAt k, hdr.only hoo (fun j hj e => by omega), hR'.only hoo (fun e => hgR e.symm), hV'.only hoo (fun e => hgV e.symm), ⟨_, _, rfl, ?_, own_only o2' hoo (fun j hj e => by
          subst e
          exact own_apart o2' o1' (by decide) _ hj rfl)⟩, ?_⟩
        · rw [← List.map_set] at hst
          simp only [List.length_set, hm]
          exact hst
        · refine ((HON.out.trans hon').trans' ?_)
          exact hoo.mono fun j _ e => by omega
      clear o1 o2 HO
      go_wp2
      go_region_with (go_at_call 89; refine (dataO P x cap l _ (by exact HD.out)).mono ?_; rintro e w3 ⟨s, rfl, hs5, hd3, hon3⟩; have HS5 : Hid (SmL (m.set k s)) := HSm.out.set k (by omega); clear hs5; obtain ⟨hz0, ⟨old, hz1⟩, hz2, hE⟩ := HW.out w3 s hon3 hd3; have HE : Hid _ := hE; clear hE hd3 hon3)
      all_goals
        go_wp2
        go_roundw
        case rel => exact ⟨k + 1, m.set k s, by omega, by simp [hm], HS5, by go_num, HE.out.1, HE.out.2.1, HE.out.2.2.1, HE.out.2.2.2.1, HE.out.2.2.2.2⟩
        case measure => simp [intOf]; omega
    · obtain rfl : k = M.length := by omega
      go_wp2_with fail
      refine (belowO P x cap l 6 _ HD.out (by omega) (by omega)).mono ?_
      rintro e w3 ⟨n2, rfl, hn2, hd3, hon3⟩
      have HD4 : Hid (Drw w3 P x cap l) := hd3
      have HR4 : Hid (Var w3 w.heap.size #[.slice none 0 0, .slice none 0 0] 27) := HR.out.onlyP hon3 (by omega)
      have HV4 : Hid (Var w3 w2.heap.size #[.slice a1 M.length c1, .slice b1 0 e1] 27) := HV.out.onlyP hon3 (by omega)
      have HO4 : Hid (OwnD w3 (w.heap.size + 1) (.agg #[.slice a1 M.length c1, .slice b1 0 e1]) (m, [])) := HO.out.onlyP hon3 (by omega)
      have HON4 : Hid (OnlyP P w w3) := HON.out.trans hon3
      clear HD HR HV HO HON hd3 hon3 hv0
      go_wp2
      go_loopw [7] (fun i wr => ∃ (k : Nat) (p : List PutD) (b : Option Addr) (e : Nat), k ≤ n2 ∧ p.length = k ∧ Hid (SmP p) ∧ i = .int .i64 k ∧ Hid (Drw wr P x cap l) ∧ Hid (Var wr w.heap.size #[.slice none 0 0, .slice none 0 0] 27) ∧ Hid (Var wr w2.heap.size #[.slice a1 M.length c1, .slice b k e] 27) ∧ Hid (OwnD wr (w.heap.size + 1) (.agg #[.slice a1 M.length c1, .slice b k e]) (m, p)) ∧ Hid (OnlyP P w wr)) (fun i _ => n2 - (intOf i).toNat)
      case atStart => exact ⟨0, [], b1, e1, Nat.zero_le _, rfl, smP_nil, rfl, HD4, HR4, HV4, HO4, HON4⟩
      case round =>
        obtain ⟨k, p, b, e, hk2, hp, HSp, rfl, HD, HR, HV, HO, HON⟩ := hrel
        clear HD4 HR4 HV4 HO4 HON4
        have hv0 : wr.cell? ⟨w2.heap.size, 0, none⟩ = some (.slice a1 M.length c1) := HV.out.cell 0
        have hv1 : wr.cell? ⟨w2.heap.size, 1, none⟩ = some (.slice b k e) := HV.out.cell 1
        by_cases hlt3 : k < n2
        · have HW : Hid (∀ w3, OnlyP P wr.drew w3 → w3.cell? ⟨w2.heap.size, 0, none⟩ = some (.slice a1 M.length c1) ∧ w3.cell? ⟨w2.heap.size, 1, none⟩ = some (.slice b k e) ∧ Var w3 w.heap.size #[.slice none 0 0, .slice none 0 0] 27 ∧ Var w3 w2.heap.size #[.slice a1 M.length c1, .slice b k e] 27 ∧ OwnD w3 (w.heap.size + 1) (.agg #[.slice a1 M.length c1, .slice b k e]) (m, p) ∧ OnlyP P w w3) := by
            intro w3 hon
            have hon' : OnlyP P wr w3 := ⟨hon.os, hon.tape, hon.output, hon.size, hon.block⟩
            have hV' := HV.out.onlyP hon' (by omega)
            exact ⟨hV'.cell 0, hV'.cell 1, HR.out.onlyP hon' (by omega), hV', HO.out.onlyP hon' (by omega), HON.out.trans hon'⟩
          clear HO
          go_wp2
          go_region_law (first
            | (go_simp
               go_at_call 40
               refine (belowO P x cap l M.length _ (by exact HD.out) (by omega) (by omega)).mono ?_
               rintro e' w4 ⟨r, rfl, hr, hd4, hon4⟩
               have hy0 := (HW.out w4 hon4).1
               have hy1 := (HW.out w4 hon4).2.1
               have HD4 : Hid (Drw w4 P x cap l) := hd4
               have HON4 : Hid (OnlyP P wr.drew w4) := hon4
               clear hd4 hon4)
            | (go_simp
               go_at_call 89
               refine (dataO P x cap l _ HD4.out).mono ?_
               rintro e' w5 ⟨s, rfl, hs5, hd5, hon5⟩
               have HS5 : Hid (SmP (p ++ [((r : Int), s)])) := HSp.out.app _ (by omega)
               clear hs5
               obtain ⟨hu0, hu1, hu2, hu3, hu4, hu5⟩ := HW.out w5 (HON4.out.trans hon5)
               have HD5 : Hid (Drw w5 P x cap l) := hd5
               have HR5 : Hid (Var w5 w.heap.size #[.slice none 0 0, .slice none 0 0] 27) := hu2
               have HV5 : Hid (Var w5 w2.heap.size #[.slice a1 M.length c1, .slice b k e] 27) := hu3
               have HON5 : Hid (OnlyP P w w5) := hu5
               have HOS : Hid (w5.ownsRow (w.heap.size + 1) 9 1 (.slice a1 M.length c1) M.length (m.map Value.string)) := by
                 obtain ⟨z1, z2, hz, p1, p2⟩ := hu4
                 simp only [Value.agg.injEq, Array.mk.injEq, List.cons.injEq, and_true] at hz
                 obtain ⟨rfl, rfl⟩ := hz
                 simp only [hm] at p1
                 exact p1
               have HOP : Hid ((w5.alloc (.cells #[.int .i64 (r : Int), .string s] 39)).ownsRow (w.heap.size + 1) 39 2 (.slice b k e) k (p.flatMap encP)) := by
                 obtain ⟨z1, z2, hz, p1, p2⟩ := hu4
                 simp only [Value.agg.injEq, Array.mk.injEq, List.cons.injEq, and_true] at hz
                 obtain ⟨rfl, rfl⟩ := hz
                 simp only [hp] at p2
                 exact p2.alloc _
               have hw1 : (w5.alloc (.cells #[.int .i64 (r : Int), .string s] 39)).cell? ⟨w2.heap.size, 1, none⟩ = some (.slice b k e) := (HV5.out.alloc _).cell 1
               clear hd5 hon5 hu2 hu3 hu4 hu5)
            | (refine step_own_src (w5.alloc (.cells #[.int .i64 (r : Int), .string s] 39)) rfl (.tmp 36) (.tmp 45) 25 25 rfl (w.heap.size + 1) 39 i0 (.agg #[.int .i64 0, .string ⟨#[]⟩]) 2 24 Tryd.underlying25 hi hz0 hz1 hz2 rfl (.slice b k e) k (p.flatMap encP) (.slice (some ⟨w5.heap.size, 0, none⟩) 1 1) 1 ([((r : Int), s)].flatMap encP) ?_ ?_ ?_ ?_ HOP.out (src_puts 1 (rd_onePut (Var.made w5 _ _))) ?_ ?_
               · unfold maxLen; omega
               · omega
               · simp [Act.eval]
               · simp [Act.eval]
               · have := HV5.out.lt; simp; omega
               intro v6 w6 ho6 hg6
               have ho6' : w6.ownsRow (w.heap.size + 1) 39 2 v6 (p ++ [((r : Int), s)]).length ((p ++ [((r : Int), s)]).flatMap encP) := by
                 rw [List.flatMap_append, List.length_append, hp]; exact ho6
               obtain ⟨b6, e6, rfl, _, _⟩ := own_rdF encP_len ho6' rfl
               have HG6 : Hid ((w5.alloc (.cells #[.int .i64 (r : Int), .string s] 39)).grownBy w6 (Value.slice b k e).ownBlock) := hg6
               have HO6 : Hid (w6.ownsRow (w.heap.size + 1) 39 2 (.slice b6 (p ++ [((r : Int), s)]).length e6) (p ++ [((r : Int), s)]).length ((p ++ [((r : Int), s)]).flatMap encP)) := ho6'
               have hV6 : Var w6 w2.heap.size #[.slice a1 M.length c1, .slice b k e] 27 := (HV5.out.alloc _).only (Only.of_grown hg6) (own_var HOP.out (HV5.out.alloc _) (by decide))
               have hq1 : w6.cell? ⟨w2.heap.size, 1, none⟩ = some (.slice b k e) := hV6.cell 1
               have hq2 := hV6.frozen 1
               have HV6 : Hid (Var w6 w2.heap.size #[.slice a1 M.length c1, .slice b k e] 27) := hV6
               clear ho6 hg6 ho6' hV6))
          all_goals
            have hlb : ∀ j, (Value.slice b k e).ownBlock = some j → w.heap.size + 1 ≤ j := fun j hj => (HOP.out.lt j hj).1
            have hon6 : Only (fun j => w.heap.size ≤ j) w5 w6 := (Only.of_new (below1 w5 _)).trans ((Only.of_grown HG6.out).mono fun j _ hj => by have := hlb j hj; omega)
            have hR6 : Var w6 w.heap.size #[.slice none 0 0, .slice none 0 0] 27 := (HR5.out.alloc _).only (Only.of_grown HG6.out) (fun hj => by have := hlb _ hj; omega)
            have hoS6 := own_only (HOS.out.alloc (.cells #[.int .i64 (r : Int), .string s] 39)) (Only.of_grown HG6.out) (fun j hj hb => own_apart (HOS.out.alloc _) HOP.out (by decide) j hj hb)
            have hO6 : OwnD w6 (w.heap.size + 1) (.agg #[.slice a1 M.length c1, .slice b6 (p ++ [((r : Int), s)]).length e6]) (m, p ++ [((r : Int), s)]) := ⟨_, _, rfl, by simp only [hm]; exact hoS6, HO6.out⟩
            have hst : Only (fun j => w.heap.size ≤ j) w6 (w6.setCell ⟨w2.heap.size, 1, none⟩ (.slice b6 (p ++ [((r : Int), s)]).length e6)) := Only.setCell (S := fun j => w.heap.size ≤ j) (Only.refl _ _) (p := ⟨w2.heap.size, 1, none⟩) (by show w.heap.size ≤ w2.heap.size; omega) _
            have hD7 : Drw (w6.setCell ⟨w2.heap.size, 1, none⟩ (.slice b6 (p ++ [((r : Int), s)]).length e6)) P x cap l := HD5.out.only (hon6.trans hst) (fun j hj h => by omega)
            have hR7 := hR6.other (Q := w2.heap.size) (by omega) 1 (.slice b6 (p ++ [((r : Int), s)]).length e6)
            have hV7 := HV6.out.set 1 (.slice b6 (p ++ [((r : Int), s)]).length e6)
            have hO7 := hO6.setVar HV6.out 1 (.slice b6 (p ++ [((r : Int), s)]).length e6)
            have hP7 : OnlyP P w (w6.setCell ⟨w2.heap.size, 1, none⟩ (.slice b6 (p ++ [((r : Int), s)]).length e6)) := HON5.out.trans' (hon6.trans hst)
            have HE : Hid (Drw (w6.setCell ⟨w2.heap.size, 1, none⟩ (.slice b6 (p ++ [((r : Int), s)]).length e6)) P x cap l ∧ Var (w6.setCell ⟨w2.heap.size, 1, none⟩ (.slice b6 (p ++ [((r : Int), s)]).length e6)) w.heap.size #[.slice none 0 0, .slice none 0 0] 27 ∧ Var (w6.setCell ⟨w2.heap.size, 1, none⟩ (.slice b6 (p ++ [((r : Int), s)]).length e6)) w2.heap.size #[.slice a1 M.length c1, .slice b6 (p ++ [((r : Int), s)]).length e6] 27 ∧ OwnD (w6.setCell ⟨w2.heap.size, 1, none⟩ (.slice b6 (p ++ [((r : Int), s)]).length e6)) (w.heap.size + 1) (.agg #[.slice a1 M.length c1, .slice b6 (p ++ [((r : Int), s)]).length e6]) (m, p ++ [((r : Int), s)]) ∧ OnlyP P w (w6.setCell ⟨w2.heap.size, 1, none⟩ (.slice b6 (p ++ [((r : Int), s)]).length e6))) := ⟨hD7, hR7, hV7, hO7, hP7⟩
            have hpl : (p ++ [((r : Int), s)]).length = k + 1 := by simp [hp]
            clear hD7 hR7 hV7 hO7 hP7 hst hO6 hoS6 hR6 hon6 hlb HG6 HO6 HV6 HOS HOP HV5 HR5 HD5 HON5 HON4 HD4 hv0 hv1 hy0 hy1 hu0 hu1 hw1 hq1 hq2
            rw [hpl] at HE
            generalize p ++ [((r : Int), s)] = p2 at *
            go_wp2
            go_roundw
            case rel => exact ⟨k + 1, p2, b6, e6, by omega, hpl, HS5, by go_num, HE.out.1, HE.out.2.1, HE.out.2.2.1, HE.out.2.2.2.1, HE.out.2.2.2.2⟩
            case measure => simp [intOf]; omega
        · obtain rfl : k = n2 := by omega
          have hq0 : wr.cell? ⟨w.heap.size, 0, none⟩ = some (.slice none 0 0) := HR.out.cell 0
          have hq1 : (wr.setCell ⟨w.heap.size, 0, none⟩ (.slice a1 M.length c1)).cell? ⟨w.heap.size, 1, none⟩ = some (.slice none 0 0) := (HR.out.set 0 (.slice a1 M.length c1)).cell 1
          have hf0 := HR.out.frozen 0
          have hf1 := HR.out.frozen 1
          have HR10 : Hid (Var ((wr.setCell ⟨w.heap.size, 0, none⟩ (.slice a1 M.length c1)).setCell ⟨w.heap.size, 1, none⟩ (.slice b k e)) w.heap.size #[.slice a1 M.length c1, .slice b k e] 27) := HR.out.two _ _
          have HO10 : Hid (OwnD ((wr.setCell ⟨w.heap.size, 0, none⟩ (.slice a1 M.length c1)).setCell ⟨w.heap.size, 1, none⟩ (.slice b k e)) w.heap.size (.agg #[.slice a1 M.length c1, .slice b k e]) (m, p)) := ((HO.out.setVar HR.out 0 _).setVar (HR.out.set 0 _) 1 _).base (by omega)
          have hst : Only (fun j => w.heap.size ≤ j) wr ((wr.setCell ⟨w.heap.size, 0, none⟩ (.slice a1 M.length c1)).setCell ⟨w.heap.size, 1, none⟩ (.slice b k e)) := Only.setCell (S := fun j => w.heap.size ≤ j) (Only.setCell (S := fun j => w.heap.size ≤ j) (Only.refl _ _) (p := ⟨w.heap.size, 0, none⟩) (Nat.le_refl _) _) (p := ⟨w.heap.size, 1, none⟩) (Nat.le_refl _) _
          have HD10 : Hid (Drw ((wr.setCell ⟨w.heap.size, 0, none⟩ (.slice a1 M.length c1)).setCell ⟨w.heap.size, 1, none⟩ (.slice b k e)) P x cap l) := HD.out.only hst (fun j hj h => by omega)
          have HP10 : Hid (OnlyP P w ((wr.setCell ⟨w.heap.size, 0, none⟩ (.slice a1 M.length c1)).setCell ⟨w.heap.size, 1, none⟩ (.slice b k e))) := HON.out.trans' hst
          clear hst
          go_wp2
          refine bodyPost_ret (results_cell_row rfl _ _ w.heap.size 27 #[.slice a1 M.length c1, .slice b k e] (0, 0) _ rfl HR10.out Tryd.underlying27 rfl Tryd.sizeDisk) rfl ?_
          exact ⟨_, (m, p), rfl, HO10.out, by show 1 ≤ m.length; omega, by show m.length ≤ 9; omega, by show p.length ≤ 6; omega, ⟨HSm.out, HSp.out⟩, HD10.out, HP10.out⟩
end Go.Proofs.YtlidmnehpcodkaaDoor

/-
  Own text: a disk that is drawn, right or not.
-/
namespace Go.Proofs.YtlidmnehpcodkaaDoor
open Go.RowKit

theorem made_zero (n : Nat) : (madeCells #[Value.int .u8 0] n).toList = (List.replicate n (0 : UInt8)).map fun b => Value.int .u8 b.toNat := by
  apply List.ext_getElem
  · simp [size_madeCells]
  · intro i h1 h2
    simp [madeCells, Nat.mod_one]

/-- What is left when a disk that lies in a variable is handed back by the result's block. -/
theorem fin_facts {P : Nat} {x : Option Addr} {cap : Nat} {l : List Int} {w W : World} {a b : Option Addr} {n c m e : Nat} {d : DiskD} (hlt : P < w.heap.size) (hD : Drw W P x cap l) (hR : Var W w.heap.size #[.slice none 0 0, .slice none 0 0] 27) (hO : OwnD W (w.heap.size + 1) (.agg #[.slice a n c, .slice b m e]) d) (hP : OnlyP P w W) :
    Var ((W.setCell ⟨w.heap.size, 0, none⟩ (.slice a n c)).setCell ⟨w.heap.size, 1, none⟩ (.slice b m e)) w.heap.size #[.slice a n c, .slice b m e] 27 ∧ OwnD ((W.setCell ⟨w.heap.size, 0, none⟩ (.slice a n c)).setCell ⟨w.heap.size, 1, none⟩ (.slice b m e)) w.heap.size (.agg #[.slice a n c, .slice b m e]) d ∧ Drw ((W.setCell ⟨w.heap.size, 0, none⟩ (.slice a n c)).setCell ⟨w.heap.size, 1, none⟩ (.slice b m e)) P x cap l ∧ OnlyP P w ((W.setCell ⟨w.heap.size, 0, none⟩ (.slice a n c)).setCell ⟨w.heap.size, 1, none⟩ (.slice b m e)) := by
  have hst : Only (fun j => w.heap.size ≤ j) W ((W.setCell ⟨w.heap.size, 0, none⟩ (.slice a n c)).setCell ⟨w.heap.size, 1, none⟩ (.slice b m e)) := Only.setCell (S := fun j => w.heap.size ≤ j) (Only.setCell (S := fun j => w.heap.size ≤ j) (Only.refl _ _) (p := ⟨w.heap.size, 0, none⟩) (Nat.le_refl _) _) (p := ⟨w.heap.size, 1, none⟩) (Nat.le_refl _) _
  exact ⟨hR.two _ _, ((hO.setVar hR 0 _).setVar (hR.set 0 _) 1 _).base (by omega), hD.only hst (fun j hj h => by omega), hP.trans' hst⟩
theorem fin_cells {W : World} {P : Nat} (hR : Var W P #[.slice none 0 0, .slice none 0 0] 27) (u : Value) : W.cell? ⟨P, 0, none⟩ = some (.slice none 0 0) ∧ (W.setCell ⟨P, 0, none⟩ u).cell? ⟨P, 1, none⟩ = some (.slice none 0 0) ∧ W.frozen? ⟨P, 0, none⟩ = false ∧ W.frozen? ⟨P, 1, none⟩ = false :=
  ⟨hR.cell 0, (hR.set 0 u).cell 1, hR.frozen 0, hR.frozen 1⟩

/-- What one write more behind a drawn disk's pending ones leaves: the disk lies in the variable Q. -/
theorem more_facts {P : Nat} {x : Option Addr} {cap : Nat} {l : List Int} {w W w7 : World} {Q : Nat} {a b b7 : Option Addr} {n c m e e7 : Nat} {d : DiskD} {o : Obj} {y : PutD} (hlt : P < w.heap.size) (hQ : w.heap.size + 1 ≤ Q) (hD : Drw W P x cap l) (hR : Var W w.heap.size #[.slice none 0 0, .slice none 0 0] 27) (hV : Var W Q #[.slice a n c, .slice b m e] 27) (hO : OwnD W (w.heap.size + 1) (.agg #[.slice a n c, .slice b m e]) d) (hP : OnlyP P w W)
    (hg : (W.alloc o).grownBy w7 (Value.slice b m e).ownBlock) (ho7 : w7.ownsRow (w.heap.size + 1) 39 2 (.slice b7 (d.2 ++ [y]).length e7) (d.2 ++ [y]).length ((d.2 ++ [y]).flatMap encP)) :
    Var w7 Q #[.slice a n c, .slice b m e] 27 ∧ Drw (w7.setCell ⟨Q, 1, none⟩ (.slice b7 (d.2 ++ [y]).length e7)) P x cap l ∧ Var (w7.setCell ⟨Q, 1, none⟩ (.slice b7 (d.2 ++ [y]).length e7)) w.heap.size #[.slice none 0 0, .slice none 0 0] 27 ∧ Var (w7.setCell ⟨Q, 1, none⟩ (.slice b7 (d.2 ++ [y]).length e7)) Q #[.slice a n c, .slice b7 (d.2 ++ [y]).length e7] 27 ∧ OwnD (w7.setCell ⟨Q, 1, none⟩ (.slice b7 (d.2 ++ [y]).length e7)) (w.heap.size + 1) (.agg #[.slice a n c, .slice b7 (d.2 ++ [y]).length e7]) (d.1, d.2 ++ [y]) ∧ OnlyP P w (w7.setCell ⟨Q, 1, none⟩ (.slice b7 (d.2 ++ [y]).length e7)) := by
  obtain ⟨z1, z2, hz, o1, o2⟩ := hO
  simp only [Value.agg.injEq, Array.mk.injEq, List.cons.injEq, and_true] at hz
  obtain ⟨rfl, rfl⟩ := hz
  have hlb : ∀ j, (Value.slice b m e).ownBlock = some j → w.heap.size + 1 ≤ j := fun j hj => (o2.lt j hj).1
  have hon7 : Only (fun j => w.heap.size ≤ j) W w7 := (Only.of_new (below1 W _)).trans ((Only.of_grown hg).mono fun j _ hj => by have := hlb j hj; omega)
  have hV7 := (hV.alloc o).only (Only.of_grown hg) (own_var (o2.alloc o) (hV.alloc o) (by decide))
  have hR7 := (hR.alloc o).only (Only.of_grown hg) (fun hj => by have := hlb _ hj; omega)
  have hS7 := own_only (o1.alloc o) (Only.of_grown hg) (fun j hj hb => own_apart (o1.alloc o) (o2.alloc o) (by decide) j hj hb)
  have hO7 : OwnD w7 (w.heap.size + 1) (.agg #[.slice a n c, .slice b7 (d.2 ++ [y]).length e7]) (d.1, d.2 ++ [y]) := ⟨_, _, rfl, hS7, ho7⟩
  have hst : Only (fun j => w.heap.size ≤ j) w7 (w7.setCell ⟨Q, 1, none⟩ (.slice b7 (d.2 ++ [y]).length e7)) := Only.setCell (S := fun j => w.heap.size ≤ j) (Only.refl _ _) (p := ⟨Q, 1, none⟩) (by show w.heap.size ≤ Q; omega) _
  exact ⟨hV7, hD.only (hon7.trans hst) (fun j hj h => by omega), hR7.other (by omega) 1 _, hV7.set 1 _, hO7.setVar hV7 1 _, hP.trans' (hon7.trans hst)⟩

set_option maxRecDepth 20000 in
set_option maxHeartbeats 2000000 in
theorem drawO (P : Nat) (x : Option Addr) (cap : Nat) (l : List Int) (w : World) (hd : Drw w P x cap l) :
    Calls Tryd.prog 41 #[.pointer (some ⟨P, 0, none⟩)] w fun e w' => ∃ (v : Value) (d : DiskD), e = .returned v ∧ OwnD w' w.heap.size v d ∧ 1 ≤ d.1.length ∧ d.1.length ≤ 121 ∧ d.2.length ≤ 401 ∧ SmD d ∧ Drw w' P x cap l ∧ OnlyP P w w' := by
  obtain ⟨i0, hi, hz0, hz1, hz2⟩ := info_parts Tryd.infoPut
  obtain ⟨i1, gi, gz0, gz1, gz2⟩ := info_parts Tryd.infoTxt
  obtain ⟨i2, ki, kz0, kz1, kz2⟩ := info_parts Tryd.infoU8
  have hlt := hd.lt
  have HD0 : Hid (Drw (w.alloc (.cells #[.slice none 0 0, .slice none 0 0] 27)) P x cap l) := hd.alloc _
  clear hd
  go_enter Tryd.func41, Tryd.ntmps41
  go_wp2_with fail
  refine (rightO P x cap l _ HD0.out).mono ?_
  rintro e w1 ⟨v1, d, rfl, hO1, hd1, hd9, hp6, hsm, hdr1, hon1⟩
  have HSM : Hid (SmD d) := hsm
  clear hsm
  have hR1 : Var w1 w.heap.size #[.slice none 0 0, .slice none 0 0] 27 := (Var.made w _ _).only hon1 (by show ¬ w.heap.size = P; omega)
  have hb1 : OnlyP P w w1 := (Only.of_new (below1 w _)).trans hon1
  have hO1' : OwnD w1 (w.heap.size + 1) v1 d := by
    have := hO1
    rwa [show (w.alloc (.cells #[.slice none 0 0, .slice none 0 0] 27)).heap.size = w.heap.size + 1 by simp] at this
  obtain ⟨a1, c1, b1, e1, rfl⟩ := hO1'.shape
  have hs1 : w.heap.size + 1 ≤ w1.heap.size := hR1.lt
  have HD2 : Hid (Drw ((w1.alloc (.cells #[.slice a1 d.1.length c1, .slice b1 d.2.length e1] 27)).alloc (.cells ([90, 91].map (Value.int .i64)).toArray 3)) P x cap l) := (hdr1.alloc _).alloc _
  have HR2 : Hid (Var (w1.alloc (.cells #[.slice a1 d.1.length c1, .slice b1 d.2.length e1] 27)) w.heap.size #[.slice none 0 0, .slice none 0 0] 27) := hR1.alloc _
  have HV2 : Hid (Var (w1.alloc (.cells #[.slice a1 d.1.length c1, .slice b1 d.2.length e1] 27)) w1.heap.size #[.slice a1 d.1.length c1, .slice b1 d.2.length e1] 27) := Var.made w1 _ _
  have HO2 : Hid (OwnD (w1.alloc (.cells #[.slice a1 d.1.length c1, .slice b1 d.2.length e1] 27)) (w.heap.size + 1) (.agg #[.slice a1 d.1.length c1, .slice b1 d.2.length e1]) d) := hO1'.below (below1 _ _)
  have HP2 : Hid (OnlyP P w (w1.alloc (.cells #[.slice a1 d.1.length c1, .slice b1 d.2.length e1] 27))) := hb1.trans (Only.of_new (below1 _ _))
  have hlt1 := hdr1.lt
  clear hO1 hO1' hon1 hR1 hb1 hdr1 HD0
  go_wp2_with fail
  refine (pickIntO P (w1.heap.size + 1) x cap l [90, 91] _ HD2.out 2 rfl (by omega) (by omega) (by omega) (fun j hj => by
    have := cells_list [90, 91] (Value.int .i64) 0 (w1.alloc (.cells #[.slice a1 d.1.length c1, .slice b1 d.2.length e1] 27)) _ 3 rfl j hj
    rwa [show (w1.alloc (.cells #[.slice a1 d.1.length c1, .slice b1 d.2.length e1] 27)).heap.size = w1.heap.size + 1 by simp] at this)).mono ?_
  rintro e w3 ⟨n, hn, rfl, hd3, hon3⟩
  obtain ⟨N, rfl, hN1, hN2⟩ : ∃ N : Nat, n = N ∧ 1 ≤ N ∧ N ≤ 91 := by
    have : n = 90 ∨ n = 91 := by simpa using hn
    rcases this with rfl | rfl
    · exact ⟨90, rfl, by omega, by omega⟩
    · exact ⟨91, rfl, by omega, by omega⟩
  have hon23 : OnlyP P (w1.alloc (.cells #[.slice a1 d.1.length c1, .slice b1 d.2.length e1] 27)) w3 := (Only.of_new (below1 _ _)).trans hon3
  have HD3 : Hid (Drw w3 P x cap l) := hd3
  have HR3 : Hid (Var w3 w.heap.size #[.slice none 0 0, .slice none 0 0] 27) := HR2.out.onlyP hon23 (by omega)
  have HV3 : Hid (Var w3 w1.heap.size #[.slice a1 d.1.length c1, .slice b1 d.2.length e1] 27) := HV2.out.onlyP hon23 (by omega)
  have HO3 : Hid (OwnD w3 (w.heap.size + 1) (.agg #[.slice a1 d.1.length c1, .slice b1 d.2.length e1]) d) := HO2.out.onlyP hon23 (by omega)
  have HP3 : Hid (OnlyP P w w3) := HP2.out.trans hon23
  clear HD2 HR2 HV2 HO2 HP2 hon23 hon3 hd3 hn
  go_wp2_with (at_make; refine wpList_make_full _ rfl _ _ 22 rfl w.heap.size 5 i2 (.int .u8 0) 1 Tryd.underlying22 ki kz0 kz1 _ _ _ _ N rfl rfl rfl rfl (by rw [kz2]; omega) (by unfold maxLen; omega) (by have := HR3.out.lt; omega) ?_)
  intro w4 hown hgrow
  have hown' : w4.ownsRow w.heap.size 5 1 (.slice (some ⟨w3.heap.size, 0, none⟩) N N) N ((List.replicate N (0 : UInt8)).map fun b => Value.int .u8 b.toNat) := by rw [← made_zero]; exact hown
  have hcv := conv_own (by simp) hown'
  clear hown'
  have hon4 : OnlyP P w3 w4 := (Only.of_grown hgrow).mono fun k _ hk => by simp at hk
  have HD4 : Hid (Drw w4 P x cap l) := HD3.out.only (Only.of_grown hgrow) (fun k _ hk => by simp at hk)
  have HR4 : Hid (Var w4 w.heap.size #[.slice none 0 0, .slice none 0 0] 27) := HR3.out.onlyP hon4 (by omega)
  have HV4 : Hid (Var w4 w1.heap.size #[.slice a1 d.1.length c1, .slice b1 d.2.length e1] 27) := HV3.out.onlyP hon4 (by omega)
  have HO4 : Hid (OwnD w4 (w.heap.size + 1) (.agg #[.slice a1 d.1.length c1, .slice b1 d.2.length e1]) d) := HO3.out.onlyP hon4 (by omega)
  have HP4 : Hid (OnlyP P w w4) := HP3.out.trans hon4
  clear HD3 HR3 HV3 HO3 HP3 hon4 hown hgrow
  have HLN : Hid ((⟨(List.replicate N (0 : UInt8)).toArray⟩ : ByteArray).size ≤ 91) := by show _ ≤ _; simp [ByteArray.size]; exact hN2
  generalize (⟨(List.replicate N (0 : UInt8)).toArray⟩ : ByteArray) = lng at *
  go_wp2_with fail
  refine (belowO P x cap l 12 _ HD4.out (by omega) (by omega)).mono ?_
  rintro e w5 ⟨r, rfl, hr12, hd5, hon5⟩
  have HD5 : Hid (Drw w5 P x cap l) := hd5
  have HR5 : Hid (Var w5 w.heap.size #[.slice none 0 0, .slice none 0 0] 27) := HR4.out.onlyP hon5 (by omega)
  have HV5 : Hid (Var w5 w1.heap.size #[.slice a1 d.1.length c1, .slice b1 d.2.length e1] 27) := HV4.out.onlyP hon5 (by omega)
  have HO5 : Hid (OwnD w5 (w.heap.size + 1) (.agg #[.slice a1 d.1.length c1, .slice b1 d.2.length e1]) d) := HO4.out.onlyP hon5 (by omega)
  have HP5 : Hid (OnlyP P w w5) := HP4.out.trans hon5
  clear HD4 HR4 HV4 HO4 HP4 hon5 hd5 hcv
  have hv0 : w5.cell? ⟨w1.heap.size, 0, none⟩ = some (.slice a1 d.1.length c1) := HV5.out.cell 0
  have hv1 : w5.cell? ⟨w1.heap.size, 1, none⟩ = some (.slice b1 d.2.length e1) := HV5.out.cell 1
  by_cases hc0 : r = 0
  · subst hc0
    obtain ⟨z1, z2, hz, o1, o2⟩ := HO5.out
    simp only [Value.agg.injEq, Array.mk.injEq, List.cons.injEq, and_true] at hz
    obtain ⟨rfl, rfl⟩ := hz
    rcases o1.2 with ⟨_, h0⟩ | ⟨g, cc, cur, hvv, hgb, _⟩
    · omega
    simp only [Value.slice.injEq, true_and] at hvv
    obtain ⟨rfl, rfl⟩ := hvv
    have hgV : ¬ g = w1.heap.size := fun e => own_var o1 HV5.out (by decide) (by rw [← e]; rfl)
    have hoo : Only (fun j => j = g) w5 (w5.setCell ⟨g, 0, none⟩ (.string lng)) := Only.setCell (S := fun j => j = g) (Only.refl _ _) (p := ⟨g, 0, none⟩) rfl _
    have hst := (o1.stored 0 (.string lng)).1
    rw [← List.map_set] at hst
    have hO6 : OwnD (w5.setCell ⟨g, 0, none⟩ (.string lng)) (w.heap.size + 1) (.agg #[.slice (some ⟨g, 0, none⟩) d.1.length c1, .slice b1 d.2.length e1]) (d.1.set 0 lng, d.2) := ⟨_, _, rfl, by simp only [List.length_set]; exact hst, own_only o2 hoo (fun j hj e => by subst e; exact own_apart o2 o1 (by decide) _ hj rfl)⟩
    have hR6 := HR5.out.only hoo (fun e => by omega)
    have hV6 := HV5.out.only hoo (fun e => hgV e.symm)
    have HFF : Hid (_) := fin_facts hlt (HD5.out.only hoo (fun j hj e => by omega)) hR6 hO6 (HP5.out.trans' (hoo.mono fun j _ e => by omega))
    have HRf : Hid (Var (w5.setCell ⟨g, 0, none⟩ (.string lng)) w.heap.size #[.slice none 0 0, .slice none 0 0] 27) := hR6
    have hu0 : (w5.setCell ⟨g, 0, none⟩ (.string lng)).cell? ⟨w1.heap.size, 0, none⟩ = some (.slice (some ⟨g, 0, none⟩) d.1.length c1) := hV6.cell 0
    have hu1 : (w5.setCell ⟨g, 0, none⟩ (.string lng)).cell? ⟨w1.heap.size, 1, none⟩ = some (.slice b1 d.2.length e1) := hV6.cell 1
    have hgf := o1.frozenAt 0
    obtain ⟨old, hgc⟩ : ∃ o, w5.cell? ⟨g, 0, none⟩ = some o := ⟨_, (o1.cellAt 0 (by omega)).trans (List.getElem?_eq_getElem (by rw [List.length_map]; omega))⟩
    clear o1 o2 hst hO6 hR6 hV6 hoo HO5
    obtain ⟨hr0, hr1, hf0, hf1⟩ := fin_cells HRf.out (.slice (some ⟨g, 0, none⟩) d.1.length c1)
    go_wp2
    refine bodyPost_ret (results_cell_row rfl _ _ w.heap.size 27 #[(.slice (some ⟨g, 0, none⟩) d.1.length c1), (.slice b1 d.2.length e1)] (0, 0) _ rfl HFF.out.1 Tryd.underlying27 rfl Tryd.sizeDisk) rfl ?_
    exact ⟨_, (d.1.set 0 lng, d.2), rfl, HFF.out.2.1, by show 1 ≤ (d.1.set 0 lng).length; simp; omega, by show (d.1.set 0 lng).length ≤ 121; simp; omega, by show d.2.length ≤ 401; omega, ⟨HSM.out.1.set 0 HLN.out, HSM.out.2⟩, HFF.out.2.2.1, HFF.out.2.2.2⟩
  have hc0' : ¬ (r : Int) = 0 := by omega
  by_cases hc5 : 5 ≤ r
  · have hc1 : ¬ (r : Int) = 1 := by omega
    have hc2 : ¬ (r : Int) = 2 := by omega
    have hc3 : ¬ (r : Int) = 3 := by omega
    have hc4 : ¬ (r : Int) = 4 := by omega
    have HFF : Hid (_) := fin_facts hlt HD5.out HR5.out HO5.out HP5.out
    have HRf : Hid (Var w5 w.heap.size #[.slice none 0 0, .slice none 0 0] 27) := HR5.out
    obtain ⟨hr0, hr1, hf0, hf1⟩ := fin_cells HRf.out (.slice a1 d.1.length c1)
    go_wp2
    refine bodyPost_ret (results_cell_row rfl _ _ w.heap.size 27 #[(.slice a1 d.1.length c1), (.slice b1 d.2.length e1)] (0, 0) _ rfl HFF.out.1 Tryd.underlying27 rfl Tryd.sizeDisk) rfl ?_
    exact ⟨_, d, rfl, HFF.out.2.1, hd1, by omega, by omega, HSM.out, HFF.out.2.2.1, HFF.out.2.2.2⟩
  by_cases hc3 : r = 3
  · subst hc3
    have HL6 : Hid (Drw (w5.alloc (.cells ([120, 121].map (Value.int .i64)).toArray 3)) P x cap l) := HD5.out.alloc _
    have hlt5 := HD5.out.lt
    have hlt5' := HV5.out.lt
    go_wp2_with fail
    refine (pickIntO P w5.heap.size x cap l [120, 121] _ HL6.out 2 rfl (by omega) (by omega) (by omega) (fun j hj => cells_list [120, 121] (Value.int .i64) 0 w5 _ 3 rfl j hj)).mono ?_
    rintro e w6 ⟨n, hn, rfl, hd6, hon6⟩
    obtain ⟨K, rfl, hK1, hK2⟩ : ∃ K : Nat, n = K ∧ 1 ≤ K ∧ K ≤ 121 := by
      have : n = 120 ∨ n = 121 := by simpa using hn
      rcases this with rfl | rfl
      · exact ⟨120, rfl, by omega, by omega⟩
      · exact ⟨121, rfl, by omega, by omega⟩
    have hon56 : OnlyP P w5 w6 := (Only.of_new (below1 _ _)).trans hon6
    have HD6 : Hid (Drw w6 P x cap l) := hd6
    have HR6 : Hid (Var w6 w.heap.size #[.slice none 0 0, .slice none 0 0] 27) := HR5.out.onlyP hon56 (by omega)
    have HV6 : Hid (Var w6 w1.heap.size #[.slice a1 d.1.length c1, .slice b1 d.2.length e1] 27) := HV5.out.onlyP hon56 (by omega)
    have HO6 : Hid (OwnD w6 (w.heap.size + 1) (.agg #[.slice a1 d.1.length c1, .slice b1 d.2.length e1]) d) := HO5.out.onlyP hon56 (by omega)
    have HP6 : Hid (OnlyP P w w6) := HP5.out.trans hon56
    clear hon56 hon6 hd6 HL6 hn
    go_wp2_with (at_make; refine wpList_make_full _ rfl _ _ 24 rfl (w.heap.size + 1) 9 i1 (.string ⟨#[]⟩) 1 Tryd.underlying24 gi gz0 gz1 _ _ _ _ K rfl rfl rfl rfl (by rw [gz2]; omega) (by unfold maxLen; omega) (by have := HV6.out.lt; omega) ?_)
    intro w7 hown hgrow
    have hon7 : OnlyP P w6 w7 := (Only.of_grown hgrow).mono fun k _ hk => by simp at hk
    have hown' : w7.ownsRow (w.heap.size + 1) 9 1 (.slice (some ⟨w6.heap.size, 0, none⟩) K K) K ((List.replicate K (⟨#[]⟩ : ByteArray)).map Value.string) := by rw [← made_txt]; exact hown
    have hD7 : Drw w7 P x cap l := HD6.out.only (Only.of_grown hgrow) (fun k _ hk => by simp at hk)
    have hR7 := HR6.out.onlyP hon7 (by omega)
    have hV7 := HV6.out.onlyP hon7 (by omega)
    have hO7 := HO6.out.onlyP hon7 (by omega)
    have hP7 : OnlyP P w w7 := HP6.out.trans hon7
    have hst : Only (fun j => w.heap.size ≤ j) w7 (w7.setCell ⟨w1.heap.size, 0, none⟩ (.slice (some ⟨w6.heap.size, 0, none⟩) K K)) := Only.setCell (S := fun j => w.heap.size ≤ j) (Only.refl _ _) (p := ⟨w1.heap.size, 0, none⟩) (by show w.heap.size ≤ w1.heap.size; omega) _
    have hO8 : OwnD (w7.setCell ⟨w1.heap.size, 0, none⟩ (.slice (some ⟨w6.heap.size, 0, none⟩) K K)) (w.heap.size + 1) (.agg #[.slice (some ⟨w6.heap.size, 0, none⟩) K K, .slice b1 d.2.length e1]) (List.replicate K ⟨#[]⟩, d.2) := by
      obtain ⟨z1, z2, hz, o1, o2⟩ := hO7
      simp only [Value.agg.injEq, Array.mk.injEq, List.cons.injEq, and_true] at hz
      obtain ⟨rfl, rfl⟩ := hz
      exact ⟨_, _, rfl, by simp only [List.length_replicate]; exact own_setVar hown' hV7 (by decide) _ _, own_setVar o2 hV7 (by decide) _ _⟩
    have hR8 := hR7.other (Q := w1.heap.size) (by omega) 0 (.slice (some ⟨w6.heap.size, 0, none⟩) K K)
    have hV8 := hV7.set 0 (.slice (some ⟨w6.heap.size, 0, none⟩) K K)
    have HFF : Hid (_) := fin_facts hlt (hD7.only hst (fun j hj h => by omega)) hR8 hO8 (hP7.trans' hst)
    have HRf : Hid (Var (w7.setCell ⟨w1.heap.size, 0, none⟩ (.slice (some ⟨w6.heap.size, 0, none⟩) K K)) w.heap.size #[.slice none 0 0, .slice none 0 0] 27) := hR8
    have hu0 : (w7.setCell ⟨w1.heap.size, 0, none⟩ (.slice (some ⟨w6.heap.size, 0, none⟩) K K)).cell? ⟨w1.heap.size, 0, none⟩ = some (.slice (some ⟨w6.heap.size, 0, none⟩) K K) := hV8.cell 0
    have hu1 : (w7.setCell ⟨w1.heap.size, 0, none⟩ (.slice (some ⟨w6.heap.size, 0, none⟩) K K)).cell? ⟨w1.heap.size, 1, none⟩ = some (.slice b1 d.2.length e1) := hV8.cell 1
    have ht0 : w7.cell? ⟨w1.heap.size, 0, none⟩ = some (.slice a1 d.1.length c1) := hV7.cell 0
    have htf := hV7.frozen 0
    clear hv0 hv1 hown hown' hgrow hon7 hD7 hR7 hV7 hO7 hP7 hst hO8 hR8 hV8 HD6 HR6 HV6 HO6 HP6 HD5 HR5 HV5 HO5 HP5
    obtain ⟨hr0, hr1, hf0, hf1⟩ := fin_cells HRf.out (.slice (some ⟨w6.heap.size, 0, none⟩) K K)
    go_wp2
    refine bodyPost_ret (results_cell_row rfl _ _ w.heap.size 27 #[(.slice (some ⟨w6.heap.size, 0, none⟩) K K), (.slice b1 d.2.length e1)] (0, 0) _ rfl HFF.out.1 Tryd.underlying27 rfl Tryd.sizeDisk) rfl ?_
    exact ⟨_, (List.replicate K ⟨#[]⟩, d.2), rfl, HFF.out.2.1, by show 1 ≤ (List.replicate K _).length; simp; omega, by show (List.replicate K _).length ≤ 121; simp; omega, by show d.2.length ≤ 401; omega, ⟨smL_rep _, HSM.out.2⟩, HFF.out.2.2.1, HFF.out.2.2.2⟩
  have hc3' : ¬ (r : Int) = 3 := by omega
  by_cases hc4 : r = 4
  · subst hc4
    have HL6 : Hid (Drw (w5.alloc (.cells ([399, 400, 401].map (Value.int .i64)).toArray 3)) P x cap l) := HD5.out.alloc _
    have hlt5 := HD5.out.lt
    have hlt5' := HV5.out.lt
    go_wp2_with fail
    refine (pickIntO P w5.heap.size x cap l [399, 400, 401] _ HL6.out 3 rfl (by omega) (by omega) (by omega) (fun j hj => cells_list [399, 400, 401] (Value.int .i64) 0 w5 _ 3 rfl j hj)).mono ?_
    rintro e w6 ⟨n, hn, rfl, hd6, hon6⟩
    obtain ⟨K, rfl, hK1, hK2⟩ : ∃ K : Nat, n = K ∧ 1 ≤ K ∧ K ≤ 401 := by
      have : n = 399 ∨ n = 400 ∨ n = 401 := by simpa using hn
      rcases this with rfl | rfl | rfl
      · exact ⟨399, rfl, by omega, by omega⟩
      · exact ⟨400, rfl, by omega, by omega⟩
      · exact ⟨401, rfl, by omega, by omega⟩
    have hon56 : OnlyP P w5 w6 := (Only.of_new (below1 _ _)).trans hon6
    have HD6 : Hid (Drw w6 P x cap l) := hd6
    have HR6 : Hid (Var w6 w.heap.size #[.slice none 0 0, .slice none 0 0] 27) := HR5.out.onlyP hon56 (by omega)
    have HV6 : Hid (Var w6 w1.heap.size #[.slice a1 d.1.length c1, .slice b1 d.2.length e1] 27) := HV5.out.onlyP hon56 (by omega)
    have HO6 : Hid (OwnD w6 (w.heap.size + 1) (.agg #[.slice a1 d.1.length c1, .slice b1 d.2.length e1]) d) := HO5.out.onlyP hon56 (by omega)
    have HP6 : Hid (OnlyP P w w6) := HP5.out.trans hon56
    clear hon56 hon6 hd6 HL6 hn
    go_wp2_with (at_make; refine wpList_make_full _ rfl _ _ 25 rfl (w.heap.size + 1) 39 i0 (.agg #[.int .i64 0, .string ⟨#[]⟩]) 2 Tryd.underlying25 hi hz0 hz1 _ _ _ _ K rfl rfl rfl rfl (by rw [hz2]; omega) (by unfold maxLen; omega) (by have := HV6.out.lt; omega) ?_)
    intro w7 hown hgrow
    have hon7 : OnlyP P w6 w7 := (Only.of_grown hgrow).mono fun k _ hk => by simp at hk
    have hown' : w7.ownsRow (w.heap.size + 1) 39 2 (.slice (some ⟨w6.heap.size, 0, none⟩) K K) K ((List.replicate K ((0 : Int), (⟨#[]⟩ : ByteArray))).flatMap encP) := by rw [← made_flat encP_len _ #[.int .i64 0, .string ⟨#[]⟩] rfl (by omega)]; exact hown
    have hD7 : Drw w7 P x cap l := HD6.out.only (Only.of_grown hgrow) (fun k _ hk => by simp at hk)
    have hR7 := HR6.out.onlyP hon7 (by omega)
    have hV7 := HV6.out.onlyP hon7 (by omega)
    have hO7 := HO6.out.onlyP hon7 (by omega)
    have hP7 : OnlyP P w w7 := HP6.out.trans hon7
    have hst : Only (fun j => w.heap.size ≤ j) w7 (w7.setCell ⟨w1.heap.size, 1, none⟩ (.slice (some ⟨w6.heap.size, 0, none⟩) K K)) := Only.setCell (S := fun j => w.heap.size ≤ j) (Only.refl _ _) (p := ⟨w1.heap.size, 1, none⟩) (by show w.heap.size ≤ w1.heap.size; omega) _
    have hO8 : OwnD (w7.setCell ⟨w1.heap.size, 1, none⟩ (.slice (some ⟨w6.heap.size, 0, none⟩) K K)) (w.heap.size + 1) (.agg #[.slice a1 d.1.length c1, .slice (some ⟨w6.heap.size, 0, none⟩) K K]) (d.1, List.replicate K (0, ⟨#[]⟩)) := by
      obtain ⟨z1, z2, hz, o1, o2⟩ := hO7
      simp only [Value.agg.injEq, Array.mk.injEq, List.cons.injEq, and_true] at hz
      obtain ⟨rfl, rfl⟩ := hz
      exact ⟨_, _, rfl, own_setVar o1 hV7 (by decide) _ _, by simp only [List.length_replicate]; exact own_setVar hown' hV7 (by decide) _ _⟩
    have hR8 := hR7.other (Q := w1.heap.size) (by omega) 1 (.slice (some ⟨w6.heap.size, 0, none⟩) K K)
    have hV8 := hV7.set 1 (.slice (some ⟨w6.heap.size, 0, none⟩) K K)
    have HFF : Hid (_) := fin_facts hlt (hD7.only hst (fun j hj h => by omega)) hR8 hO8 (hP7.trans' hst)
    have HRf : Hid (Var (w7.setCell ⟨w1.heap.size, 1, none⟩ (.slice (some ⟨w6.heap.size, 0, none⟩) K K)) w.heap.size #[.slice none 0 0, .slice none 0 0] 27) := hR8
    have hu0 : (w7.setCell ⟨w1.heap.size, 1, none⟩ (.slice (some ⟨w6.heap.size, 0, none⟩) K K)).cell? ⟨w1.heap.size, 0, none⟩ = some (.slice a1 d.1.length c1) := hV8.cell 0
    have hu1 : (w7.setCell ⟨w1.heap.size, 1, none⟩ (.slice (some ⟨w6.heap.size, 0, none⟩) K K)).cell? ⟨w1.heap.size, 1, none⟩ = some (.slice (some ⟨w6.heap.size, 0, none⟩) K K) := hV8.cell 1
    have ht0 : w7.cell? ⟨w1.heap.size, 1, none⟩ = some (.slice b1 d.2.length e1) := hV7.cell 1
    have htf := hV7.frozen 1
    clear hv0 hv1 hown hown' hgrow hon7 hD7 hR7 hV7 hO7 hP7 hst hO8 hR8 hV8 HD6 HR6 HV6 HO6 HP6 HD5 HR5 HV5 HO5 HP5
    obtain ⟨hr0, hr1, hf0, hf1⟩ := fin_cells HRf.out (.slice a1 d.1.length c1)
    go_wp2
    refine bodyPost_ret (results_cell_row rfl _ _ w.heap.size 27 #[(.slice a1 d.1.length c1), (.slice (some ⟨w6.heap.size, 0, none⟩) K K)] (0, 0) _ rfl HFF.out.1 Tryd.underlying27 rfl Tryd.sizeDisk) rfl ?_
    exact ⟨_, (d.1, List.replicate K (0, ⟨#[]⟩)), rfl, HFF.out.2.1, by show 1 ≤ d.1.length; omega, by show d.1.length ≤ 121; omega, by show (List.replicate K _).length ≤ 401; simp; omega, ⟨HSM.out.1, smP_rep _⟩, HFF.out.2.2.1, HFF.out.2.2.2⟩
  have hc4' : ¬ (r : Int) = 4 := by omega
  by_cases hc2 : r = 2
  · subst hc2
    have hlt5' := HV5.out.lt
    obtain ⟨z1, z2, hz, o1, o2⟩ := HO5.out
    simp only [Value.agg.injEq, Array.mk.injEq, List.cons.injEq, and_true] at hz
    obtain ⟨rfl, rfl⟩ := hz
    have o2' := o2.alloc (.cells #[.int .i64 0, .string lng] 39)
    have HRB : Hid (RdF encP 2 (w5.alloc (.cells #[.int .i64 0, .string lng] 39)) (some ⟨w5.heap.size, 0, none⟩) [(0, lng)]) := rd_onePut (Var.made w5 _ _)
    clear o1 o2
    go_wp2_with (at_builtin; refine wpList_append_own_src _ rfl _ _ 25 25 rfl (w.heap.size + 1) 39 i0 (.agg #[.int .i64 0, .string ⟨#[]⟩]) 2 24 Tryd.underlying25 hi hz0 hz1 hz2 rfl _ _ _ rfl o2' _ 1 ([((0 : Int), lng)].flatMap encP) rfl (src_puts 1 HRB.out) ?m1 ?m2 ?m3 ?_)
    case m1 => unfold maxLen; omega
    case m2 => omega
    case m3 => simp; omega
    intro v7 w7 ho7 hg7
    have ho7' : w7.ownsRow (w.heap.size + 1) 39 2 v7 (d.2 ++ [((0 : Int), lng)]).length ((d.2 ++ [((0 : Int), lng)]).flatMap encP) := by
      rw [List.flatMap_append, List.length_append]; exact ho7
    obtain ⟨b7, e7, rfl, _, _⟩ := own_rdF encP_len ho7' rfl
    obtain ⟨hV7, hE1, hE2, hE3, hE4, hE5⟩ := more_facts hlt hs1 HD5.out HR5.out HV5.out HO5.out HP5.out hg7 ho7'
    have hpl : (d.2 ++ [((0 : Int), lng)]).length ≤ 401 := by simp; omega
    have ht1 : w7.cell? ⟨w1.heap.size, 1, none⟩ = some (.slice b1 d.2.length e1) := hV7.cell 1
    have htf := hV7.frozen 1
    clear ho7 hg7 ho7' o2' HRB hV7
    have HSP2 : Hid (SmP (d.2 ++ [((0 : Int), lng)])) := HSM.out.2.app 0 HLN.out
    generalize d.2 ++ [((0 : Int), lng)] = p2 at *
    have HFF : Hid (_) := fin_facts hlt hE1 hE2 hE4 hE5
    have HRf : Hid (Var (w7.setCell ⟨w1.heap.size, 1, none⟩ (.slice b7 p2.length e7)) w.heap.size #[.slice none 0 0, .slice none 0 0] 27) := hE2
    have hu0 : (w7.setCell ⟨w1.heap.size, 1, none⟩ (.slice b7 p2.length e7)).cell? ⟨w1.heap.size, 0, none⟩ = some (.slice a1 d.1.length c1) := hE3.cell 0
    have hu1 : (w7.setCell ⟨w1.heap.size, 1, none⟩ (.slice b7 p2.length e7)).cell? ⟨w1.heap.size, 1, none⟩ = some (.slice b7 p2.length e7) := hE3.cell 1
    clear hE1 hE2 hE3 hE4 hE5 hv0 hv1 HD5 HR5 HV5 HO5 HP5
    obtain ⟨hr0, hr1, hf0, hf1⟩ := fin_cells HRf.out (.slice a1 d.1.length c1)
    go_wp2
    refine bodyPost_ret (results_cell_row rfl _ _ w.heap.size 27 #[(.slice a1 d.1.length c1), (.slice b7 p2.length e7)] (0, 0) _ rfl HFF.out.1 Tryd.underlying27 rfl Tryd.sizeDisk) rfl ?_
    exact ⟨_, (d.1, p2), rfl, HFF.out.2.1, by show 1 ≤ d.1.length; omega, by show d.1.length ≤ 121; omega, by show p2.length ≤ 401; exact hpl, ⟨HSM.out.1, HSP2.out⟩, HFF.out.2.2.1, HFF.out.2.2.2⟩
  have hc2' : ¬ (r : Int) = 2 := by omega
  have hr1 : r = 1 := by omega
  subst hr1
  have hlt5 := HD5.out.lt
  have hlt5' := HV5.out.lt
  have HL6 : Hid (Drw (w5.alloc (.cells (([-1, (d.1.length : Int), 9223372036854775807] : List Int).map (Value.int .i64)).toArray 3)) P x cap l) := HD5.out.alloc _
  have hy1 : (w5.alloc (.cells (([-1, (d.1.length : Int), 9223372036854775807] : List Int).map (Value.int .i64)).toArray 3)).cell? ⟨w1.heap.size, 1, none⟩ = some (.slice b1 d.2.length e1) := (HV5.out.alloc _).cell 1
  simp only [List.map_cons, List.map_nil] at hy1
  go_wp2
  go_region_law (first
    | (refine step_own_src (w6.alloc (.cells #[.int .i64 n, .string ⟨#[]⟩] 39)) rfl (.tmp 23) (.tmp 31) 25 25 rfl (w.heap.size + 1) 39 i0 (.agg #[.int .i64 0, .string ⟨#[]⟩]) 2 24 Tryd.underlying25 hi hz0 hz1 hz2 rfl (.slice b1 d.2.length e1) d.2.length (d.2.flatMap encP) (.slice (some ⟨w6.heap.size, 0, none⟩) 1 1) 1 ([(n, (⟨#[]⟩ : ByteArray))].flatMap encP) ?_ ?_ ?_ ?_ HOP.out (src_puts 1 (rd_onePut (Var.made w6 _ _))) ?_ ?_
       · unfold maxLen; omega
       · omega
       · simp [Act.eval]
       · simp [Act.eval]
       · have := HV6.out.lt; simp; omega
       intro v7 w7 ho7 hg7
       have ho7' : w7.ownsRow (w.heap.size + 1) 39 2 v7 (d.2 ++ [(n, (⟨#[]⟩ : ByteArray))]).length ((d.2 ++ [(n, (⟨#[]⟩ : ByteArray))]).flatMap encP) := by
         rw [List.flatMap_append, List.length_append]; exact ho7
       obtain ⟨b7, e7, rfl, _, _⟩ := own_rdF encP_len ho7' rfl
       obtain ⟨hV7, hE1, hE2, hE3, hE4, hE5⟩ := more_facts hlt hs1 HD6.out HR6.out HV6.out HO6.out HP6.out hg7 ho7'
       have ht1 : w7.cell? ⟨w1.heap.size, 1, none⟩ = some (.slice b1 d.2.length e1) := hV7.cell 1
       have htf := hV7.frozen 1
       clear ho7 hg7 ho7' hV7)
    | (go_simp
       go_at_call 42
       refine (pickIntO P w5.heap.size x cap l [-1, (d.1.length : Int), 9223372036854775807] (w5.alloc (.cells (([-1, (d.1.length : Int), 9223372036854775807] : List Int).map (Value.int .i64)).toArray 3)).drew (by exact HL6.out) 3 rfl (by omega) (by omega) (by omega) (fun j hj => cells_list [-1, (d.1.length : Int), 9223372036854775807] (Value.int .i64) 0 w5.drew _ 3 rfl j hj)).mono ?_
       rintro e w6 ⟨n, _, rfl, hd6, hon6⟩
       have hon6' : OnlyP P (w5.alloc (.cells (([-1, (d.1.length : Int), 9223372036854775807] : List Int).map (Value.int .i64)).toArray 3)) w6 := ⟨hon6.os, hon6.tape, hon6.output, hon6.size, hon6.block⟩
       have hon56 : OnlyP P w5 w6 := (Only.of_new (below1 _ _)).trans hon6'
       have HD6 : Hid (Drw w6 P x cap l) := hd6
       have HR6 : Hid (Var w6 w.heap.size #[.slice none 0 0, .slice none 0 0] 27) := HR5.out.onlyP hon56 (by omega)
       have HV6 : Hid (Var w6 w1.heap.size #[.slice a1 d.1.length c1, .slice b1 d.2.length e1] 27) := HV5.out.onlyP hon56 (by omega)
       have HO6 : Hid (OwnD w6 (w.heap.size + 1) (.agg #[.slice a1 d.1.length c1, .slice b1 d.2.length e1]) d) := HO5.out.onlyP hon56 (by omega)
       have HP6 : Hid (OnlyP P w w6) := HP5.out.trans hon56
       have HOP : Hid ((w6.alloc (.cells #[.int .i64 n, .string ⟨#[]⟩] 39)).ownsRow (w.heap.size + 1) 39 2 (.slice b1 d.2.length e1) d.2.length (d.2.flatMap encP)) := by
         obtain ⟨z1, z2, hz, o1, o2⟩ := HO6.out
         simp only [Value.agg.injEq, Array.mk.injEq, List.cons.injEq, and_true] at hz
         obtain ⟨rfl, rfl⟩ := hz
         exact o2.alloc _
       have hx1 : w6.cell? ⟨w1.heap.size, 1, none⟩ = some (.slice b1 d.2.length e1) := HV6.out.cell 1
       have hx2 : (w6.alloc (.cells #[.int .i64 n, .string ⟨#[]⟩] 39)).cell? ⟨w1.heap.size, 1, none⟩ = some (.slice b1 d.2.length e1) := (HV6.out.alloc _).cell 1
       clear hd6 hon6 hon6' hon56))
  all_goals
    have hpe : (d.2 ++ [(n, (⟨#[]⟩ : ByteArray))]).length = d.2.length + 1 := by simp
    have hpl : (d.2 ++ [(n, (⟨#[]⟩ : ByteArray))]).length ≤ 401 := by omega
    rw [hpe] at hE1 hE2 hE3 hE4 hE5
    clear hpe
    have HSP2 : Hid (SmP (d.2 ++ [(n, (⟨#[]⟩ : ByteArray))])) := HSM.out.2.app n (by decide)
    generalize d.2 ++ [(n, (⟨#[]⟩ : ByteArray))] = p2 at *
    have HFF : Hid (_) := fin_facts hlt hE1 hE2 hE4 hE5
    have HRf : Hid (Var (w7.setCell ⟨w1.heap.size, 1, none⟩ (.slice b7 (d.2.length + 1) e7)) w.heap.size #[.slice none 0 0, .slice none 0 0] 27) := hE2
    have hu0 : (w7.setCell ⟨w1.heap.size, 1, none⟩ (.slice b7 (d.2.length + 1) e7)).cell? ⟨w1.heap.size, 0, none⟩ = some (.slice a1 d.1.length c1) := hE3.cell 0
    have hu1 : (w7.setCell ⟨w1.heap.size, 1, none⟩ (.slice b7 (d.2.length + 1) e7)).cell? ⟨w1.heap.size, 1, none⟩ = some (.slice b7 (d.2.length + 1) e7) := hE3.cell 1
    clear hE1 hE2 hE3 hE4 hE5 hv0 hv1 hy1 hx1 hx2 ht1 htf HD5 HR5 HV5 HO5 HP5 HD6 HR6 HV6 HO6 HP6 HOP HL6
    obtain ⟨hr0, hr1, hf0, hf1⟩ := fin_cells HRf.out (.slice a1 d.1.length c1)
    go_wp2
    refine bodyPost_ret (results_cell_row rfl _ _ w.heap.size 27 #[(.slice a1 d.1.length c1), (.slice b7 (d.2.length + 1) e7)] (0, 0) _ rfl HFF.out.1 Tryd.underlying27 rfl Tryd.sizeDisk) rfl ?_
    exact ⟨_, (d.1, p2), rfl, HFF.out.2.1, by show 1 ≤ d.1.length; omega, by show d.1.length ≤ 121; omega, by show p2.length ≤ 401; exact hpl, ⟨HSM.out.1, HSP2.out⟩, HFF.out.2.2.1, HFF.out.2.2.2⟩
end Go.Proofs.YtlidmnehpcodkaaDoor

/-
  Own text: what FnFlushed and FnFallen draw.
-/
namespace Go.Proofs.YtlidmnehpcodkaaDoor
open Go.RowKit

theorem results_row_tmp2 {P : Program} {fn : Func} {p u v : Tmp} {ty : TypeId} (h : fn.results = #[.cell p ty, .tmp u, .tmp v]) (tmps : Array Value) (w : World) (g : Nat) (t : TypeId) (cs : Array Value) (d : TypeDesc)
    (hp : tmps.getD p undef = .pointer (some ⟨g, 0, none⟩)) (hg : Var w g cs t)
    (hu : P.underlying ty = some d) (hd : (match d with | .struct _ | .array _ _ => true | _ => false) = true) (hi : (P.info? ty).map (·.size) = some cs.size) :
    (results fn tmps).run P w = .ok (.tuple #[.agg cs, tmps.getD u undef, tmps.getD v undef]) w := by
  have hp' : tmps[p]?.getD undef = .pointer (some ⟨g, 0, none⟩) := by simpa using hp
  simp [results, h, hp', asAddr, run_loadVar_row w g t ty cs (0, 0) d hg hu hd hi, Result.andThen]

set_option maxRecDepth 20000 in
set_option maxHeartbeats 1000000 in
theorem drawFall (x : Option Addr) (cap : Nat) (l : List Int) (w : World) (hl : l.length ≤ 1048576) (hu : U8 l) (hr : Rd .u8 w x l) :
    Calls Tryd.prog 11 #[.slice x l.length cap] w fun e w' => ∃ (v : Value) (d : DiskD) (q : Option Addr) (qc : Nat) (ks : List Bool), e = .returned (.tuple #[v, .slice q ks.length qc]) ∧ OwnD w' w.heap.size v d ∧ d.1.length ≤ 121 ∧ d.2.length ≤ 401 ∧ SmD d ∧ ks.length ≤ 9 ∧ RdF encB 1 w' q ks ∧ Below w.heap.size w w' := by
  have HR : Hid (Rd .u8 (w.alloc (.cells #[.slice none 0 0, .slice none 0 0] 27)) x l) := hr.below (below1 w _) (Nat.le_refl _)
  have HU : Hid (U8 l) := hu
  clear hr hu
  go_enter Tryd.func11, Tryd.ntmps11
  go_wp2_with fail
  refine (newD x cap l _ hl HU.out HR.out).mono ?_
  rintro e w1 ⟨P, rfl, hP, hd1, hb1⟩
  have hP' : w.heap.size + 1 ≤ P := by simpa using hP
  have HR1 : Hid (Var w1 w.heap.size #[.slice none 0 0, .slice none 0 0] 27) := (Var.made w _ _).new hb1
  have hB1 : Below w.heap.size w w1 := (below1 w _).trans (hb1.mono (by simp))
  have HD1 : Hid (Drw w1 P x cap l) := hd1
  have hlt1 := hd1.lt
  clear hd1 hb1 hP
  go_wp2_with fail
  refine (drawO P x cap l _ HD1.out).mono ?_
  rintro e w2 ⟨v2, d, rfl, hO2, hd1, hd2, hd3, hsm, hdr2, hon2⟩
  have HSM : Hid (SmD d) := hsm
  clear hsm
  obtain ⟨a1, c1, b1, e1, rfl⟩ := hO2.shape
  have hR2 : Var w2 w.heap.size #[.slice none 0 0, .slice none 0 0] 27 := HR1.out.onlyP hon2 (by omega)
  have hB2 : Below w.heap.size w w2 := hB1.trans (OnlyP.belowB hon2 hB1.size (by omega))
  have hs2 : w1.heap.size ≤ w2.heap.size := hon2.size
  have HD3 : Hid (Drw (w2.alloc (.cells #[.slice a1 d.1.length c1, .slice b1 d.2.length e1] 27)) P x cap l) := hdr2.alloc _
  have HR3 : Hid (Var (w2.alloc (.cells #[.slice a1 d.1.length c1, .slice b1 d.2.length e1] 27)) w.heap.size #[.slice none 0 0, .slice none 0 0] 27) := hR2.alloc _
  have HV3 : Hid (Var (w2.alloc (.cells #[.slice a1 d.1.length c1, .slice b1 d.2.length e1] 27)) w2.heap.size #[.slice a1 d.1.length c1, .slice b1 d.2.length e1] 27) := Var.made w2 _ _
  have HO3 : Hid (OwnD (w2.alloc (.cells #[.slice a1 d.1.length c1, .slice b1 d.2.length e1] 27)) w1.heap.size (.agg #[.slice a1 d.1.length c1, .slice b1 d.2.length e1]) d) := hO2.below (below1 _ _)
  have hB3 : Below w.heap.size w (w2.alloc (.cells #[.slice a1 d.1.length c1, .slice b1 d.2.length e1] 27)) := hB2.alloc hB2.size _
  have hv0 := HV3.out.cell 0
  simp at hv0
  clear hO2 hR2 hB2 hdr2 hon2 HR1 HD1 hB1
  clear hv0
  go_wp2_with fail
  generalize w2.alloc (.cells #[.slice a1 d.1.length c1, .slice b1 d.2.length e1] 27) = w4 at *
  have hu0 : w4.cell? ⟨w2.heap.size, 0, none⟩ = some (.slice a1 d.1.length c1) := HV3.out.cell 0
  have hu1 : w4.cell? ⟨w2.heap.size, 1, none⟩ = some (.slice b1 d.2.length e1) := HV3.out.cell 1
  have HW : Hid (∀ w5, OnlyP P w4.drew w5 → Drw w5 P x cap l → w5.cell? ⟨w2.heap.size, 0, none⟩ = some (.slice a1 d.1.length c1) ∧ w5.cell? ⟨w2.heap.size, 1, none⟩ = some (.slice b1 d.2.length e1) ∧ w5.cell? ⟨w.heap.size, 0, none⟩ = some (.slice none 0 0) ∧ (w5.setCell ⟨w.heap.size, 0, none⟩ (.slice a1 d.1.length c1)).cell? ⟨w.heap.size, 1, none⟩ = some (.slice none 0 0) ∧ w5.frozen? ⟨w.heap.size, 0, none⟩ = false ∧ w5.frozen? ⟨w.heap.size, 1, none⟩ = false ∧ Hid (Var ((w5.setCell ⟨w.heap.size, 0, none⟩ (.slice a1 d.1.length c1)).setCell ⟨w.heap.size, 1, none⟩ (.slice b1 d.2.length e1)) w.heap.size #[.slice a1 d.1.length c1, .slice b1 d.2.length e1] 27 ∧ OwnD ((w5.setCell ⟨w.heap.size, 0, none⟩ (.slice a1 d.1.length c1)).setCell ⟨w.heap.size, 1, none⟩ (.slice b1 d.2.length e1)) w.heap.size (.agg #[.slice a1 d.1.length c1, .slice b1 d.2.length e1]) d ∧ Below w.heap.size w ((w5.setCell ⟨w.heap.size, 0, none⟩ (.slice a1 d.1.length c1)).setCell ⟨w.heap.size, 1, none⟩ (.slice b1 d.2.length e1)))) := by
    intro w5 hon hdr
    have hon' : OnlyP P w4 w5 := ⟨hon.os, hon.tape, hon.output, hon.size, hon.block⟩
    have hV5 := HV3.out.onlyP hon' (by omega)
    have hR5 := HR3.out.onlyP hon' (by omega)
    have hO5 := HO3.out.onlyP hon' (by omega)
    have hB5 : Below w.heap.size w w5 := hB3.trans (OnlyP.belowB hon' hB3.size (by omega))
    obtain ⟨h1, h2, h3, h4⟩ := fin_cells hR5 (.slice a1 d.1.length c1)
    exact ⟨hV5.cell 0, hV5.cell 1, h1, h2, h3, h4, hR5.two _ _, ((hO5.setVar hR5 0 _).setVar (hR5.set 0 _) 1 _).base (by omega), (hB5.setCell (p := ⟨w.heap.size, 0, none⟩) (Nat.le_refl _) _).setCell (p := ⟨w.heap.size, 1, none⟩) (Nat.le_refl _) _⟩
  have HDd : Hid (Drw w4.drew P x cap l) := HD3.out
  have hs4 : w.heap.size + 1 ≤ w4.heap.size := HR3.out.lt
  go_region_with (go_at_call 44; refine (keepO P x cap l w4.drew HDd.out).mono ?_; rintro e w5 ⟨vq, ks, rfl, hks, hoq, hd5, hon5⟩; obtain ⟨k0, k1, k2, k3, k4, k5, HE⟩ := HW.out w5 hon5 hd5; obtain ⟨q, qc, rfl, _, _⟩ := own_rdF encB_len hoq rfl; have HQ : Hid (RdF encB 1 ((w5.setCell ⟨w.heap.size, 0, none⟩ (.slice a1 d.1.length c1)).setCell ⟨w.heap.size, 1, none⟩ (.slice b1 d.2.length e1)) q ks) := rdB (own_set (own_set hoq (Q := w.heap.size) (by exact hs4) 0 _) (Q := w.heap.size) (by exact hs4) 1 _); clear hd5 hon5 hoq)
  all_goals
    go_wp2
    refine bodyPost_ret (results_row_tmp rfl _ _ w.heap.size 27 #[.slice a1 d.1.length c1, .slice b1 d.2.length e1] _ rfl HE.out.1 Tryd.underlying27 rfl Tryd.sizeDisk) rfl ?_
    exact ⟨_, d, q, qc, ks, rfl, HE.out.2.1, hd2, hd3, HSM.out, hks, HQ.out, HE.out.2.2⟩
end Go.Proofs.YtlidmnehpcodkaaDoor
