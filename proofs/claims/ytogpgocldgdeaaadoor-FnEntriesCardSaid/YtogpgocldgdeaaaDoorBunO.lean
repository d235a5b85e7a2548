/-
  Own texts, several together.
-/
import Derived.Test.YtogpgocldgdeaaaDoorRows
import Derived.Test.YtogpgocldgdeaaaDoorBase
import Derived.WalkLawsBesides
import Derived.Test.YtogpgocldgdeaaaDoorRowC
/-
  Own text: the cursor from which the laws draw: it is made, and gives a byte.
-/
namespace Go.Proofs.YtogpgocldgdeaaaDoor
open Go.RowKit

theorem and_small (x : Int) (m : Nat) (hm : m < 4611686018427387904) : ∃ r : Nat, bits .and .i64 x (m : Int) = (r : Int) ∧ r ≤ m := by
  have h2 : (BitVec.ofInt 64 (m : Int)).toNat = m := by rw [BitVec.ofInt_natCast, BitVec.toNat_ofNat]; omega
  have h3 : bits .and .i64 x (m : Int) = IntKind.wrap .i64 ((BitVec.ofInt 64 x &&& BitVec.ofInt 64 (m : Int)).toNat : Int) := by rfl
  have h4 : (BitVec.ofInt 64 x).toNat &&& m ≤ m := Nat.and_le_right
  refine ⟨(BitVec.ofInt 64 x).toNat &&& m, ?_, h4⟩
  rw [h3, BitVec.toNat_and, h2, IntKind.wrap_i64]
  omega

/-- The cursor in block P: what it draws from, how far it is, its number. -/
def Cur (w : World) (P : Nat) (a : Option Addr) (len cap : Nat) (i : Nat) (h : Int) : Prop :=
  w.heap[P]? = some (.cells #[.slice a len cap, .int .i64 i, .int .i64 h] 64 (0, 0))
theorem Cur.lt {w : World} {P : Nat} {a : Option Addr} {len cap i : Nat} {h : Int} (hc : Cur w P a len cap i h) : P < w.heap.size := (Array.getElem?_eq_some_iff.1 hc).1

set_option maxRecDepth 20000 in
set_option maxHeartbeats 400000 in
theorem newCur (x : Option Addr) (cap : Nat) (l : List Int) (w : World) (hl : l.length ≤ 1048576) (hu : U8 l) (hr : Rd .u8 w x l) :
    Calls Tryd.prog 18 #[.slice x l.length cap] w fun e w' => ∃ P h, e = .returned (.pointer (some ⟨P, 0, none⟩)) ∧ w.heap.size ≤ P ∧ Cur w' P x l.length cap 0 h ∧ Below w.heap.size w w' := by
  have HR : Hid (Rd .u8 w x l) := hr
  have HU : Hid (U8 l) := hu
  clear hr hu
  go_enter Tryd.func18, Tryd.ntmps18
  go_wp2
  go_loop [3, 4] (fun h i => ∃ (k H : Nat), k ≤ l.length ∧ i = .int .i64 k ∧ h = .int .i64 H ∧ H ≤ 1073741823) (fun _ i => l.length - (intOf i).toNat)
  case atStart => exact ⟨0, 26583 + l.length, Nat.zero_le _, rfl, by go_num, by omega⟩
  case round =>
    obtain ⟨k, H, hk, rfl, rfl, hH⟩ := hrel
    by_cases hlt : k < l.length ∧ k < 4000
    · obtain ⟨hlt, h4⟩ := hlt
      obtain ⟨b, off, rfl, hb, hc⟩ : ∃ b off, x = some ⟨b, off, none⟩ ∧ b < w.heap.size ∧ ∀ i, i < l.length → w.cell? ⟨b, off + i, none⟩ = some (.int .u8 (l.getD i 0)) := by
        rcases HR.out with h | h
        · subst h; simp at hlt
        · exact h
      have hcell := hc k hlt
      clear hc
      have hub := HU.out.at k
      generalize l.getD k 0 = c at *
      obtain ⟨hub0, hub1⟩ := hub
      obtain ⟨r, hr, hle⟩ := and_small ((H : Int) * 131 + c + 7) 1073741823 (by omega)
      have hr' : bits .and .i64 ((H : Int) * 131 + c + 7) 1073741823 = (r : Int) := hr
      clear hr
      go_wp2
      go_round
      case rel => exact ⟨k + 1, r, by omega, by go_num, rfl, hle⟩
      case measure => simp [intOf]; omega
    · by_cases h4 : k < l.length
      · have h5 : 4000 ≤ k := by omega
        clear hlt
        go_wp2
        go_ret
        exact ⟨w.heap.size, rfl, Nat.le_refl _, ⟨_, heap_alloc_new w _⟩, (Below.refl _ _).alloc (Nat.le_refl _) _⟩
      · clear hlt
        go_wp2
        go_ret
        exact ⟨w.heap.size, rfl, Nat.le_refl _, ⟨_, heap_alloc_new w _⟩, (Below.refl _ _).alloc (Nat.le_refl _) _⟩

set_option maxRecDepth 20000 in
set_option maxHeartbeats 800000 in
theorem byteCur (P : Nat) (x : Option Addr) (cap : Nat) (l : List Int) (i : Nat) (h : Int) (w : World) (hl : l.length ≤ 1048576) (hu : U8 l) (hP : ∀ b off, x = some ⟨b, off, none⟩ → l ≠ [] → b < P) (hi : i ≤ l.length) (hr : Rd .u8 w x l) (hc : Cur w P x l.length cap i h) :
    Calls Tryd.prog 42 #[.pointer (some ⟨P, 0, none⟩)] w fun e w' => ∃ (r i' : Nat) (h' : Int), e = .returned (.int .i64 r) ∧ r < 256 ∧ i' ≤ l.length ∧ Cur w' P x l.length cap i' h' ∧ w.grownBy w' (some P) := by
  have HR : Hid (Rd .u8 w x l) := hr
  have HU : Hid (U8 l) := hu
  have HC : Hid (Cur w P x l.length cap i h) := hc
  have c0 : w.cell? ⟨P, 0, none⟩ = some (.slice x l.length cap) := by rw [cell_of_row w P 0 _ _ _ hc]; rfl
  have c1 : w.cell? ⟨P, 1, none⟩ = some (.int .i64 i) := by rw [cell_of_row w P 1 _ _ _ hc]; rfl
  have c2 : w.cell? ⟨P, 2, none⟩ = some (.int .i64 h) := by rw [cell_of_row w P 2 _ _ _ hc]; rfl
  have f1 : w.frozen? ⟨P, 1, none⟩ = false := frozen_of_row w P 1 _ _ hc
  have f2 : w.frozen? ⟨P, 2, none⟩ = false := frozen_of_row w P 2 _ _ hc
  clear hr hu hc
  by_cases hlt : i < l.length
  · obtain ⟨b, off, rfl, hb, hcl⟩ : ∃ b off, x = some ⟨b, off, none⟩ ∧ b < w.heap.size ∧ ∀ i, i < l.length → w.cell? ⟨b, off + i, none⟩ = some (.int .u8 (l.getD i 0)) := by
      rcases HR.out with h | h
      · subst h; simp at hlt
      · exact h
    have hbP := hP b off rfl (by intro h; subst h; simp at hlt)
    have hcell := hcl i hlt
    clear hcl hP
    have hub := HU.out.at i
    generalize l.getD i 0 = c at *
    obtain ⟨hub0, hub1⟩ := hub
    obtain ⟨H2, hH2⟩ : ∃ H2, wrap64 (wrap64 (h * 6364136223846793005) + 1442695040888963407) = H2 := ⟨_, rfl⟩
    obtain ⟨r1, hr1, hl1⟩ := and_small (bits .xor .i64 (H2 / 8589934592) (H2 / 35184372088832)) 255 (by omega)
    obtain ⟨r2, hr2, hl2⟩ := and_small ((r1 : Int) + c) 255 (by omega)
    have hr1' : bits .and .i64 (bits .xor .i64 (H2 / 8589934592) (H2 / 35184372088832)) 255 = (r1 : Int) := hr1
    have hr2' : bits .and .i64 ((r1 : Int) + c) 255 = (r2 : Int) := hr2
    clear hr1 hr2
    have HE : Hid (Cur ((w.setCell ⟨P, 2, none⟩ (.int .i64 H2)).setCell ⟨P, 1, none⟩ (.int .i64 ((i : Int) + 1))) P (some ⟨b, off, none⟩) l.length cap (i + 1) H2) := by
      show _ = _
      rw [heap_setCell_same _ P 1 _ _ _ (heap_setCell_same w P 2 _ _ _ HC.out)]
      rfl
    have HGR : Hid (w.grownBy ((w.setCell ⟨P, 2, none⟩ (.int .i64 H2)).setCell ⟨P, 1, none⟩ (.int .i64 ((i : Int) + 1))) (some P)) :=
      ⟨rfl, rfl, rfl, by simp, fun k _ hk => (heap_setCell_other _ _ k _ (fun e => hk (by simp [e]))).trans (heap_setCell_other _ _ k _ (fun e => hk (by simp [e])))⟩
    go_enter Tryd.func42, Tryd.ntmps42
    go_wp2
    go_region
    all_goals (go_wp2; go_region)
    all_goals (go_wp2; go_region)
    all_goals go_wp2
    all_goals go_ret
    all_goals exact ⟨r2, i + 1, H2, rfl, by omega, by omega, HE.out, ⟨HGR.out.os, HGR.out.tape, HGR.out.output, HGR.out.size, HGR.out.block⟩⟩
  · obtain ⟨H2, hH2⟩ : ∃ H2, wrap64 (wrap64 (h * 6364136223846793005) + 1442695040888963407) = H2 := ⟨_, rfl⟩
    obtain ⟨r1, hr1, hl1⟩ := and_small (bits .xor .i64 (H2 / 8589934592) (H2 / 35184372088832)) 255 (by omega)
    have hr1' : bits .and .i64 (bits .xor .i64 (H2 / 8589934592) (H2 / 35184372088832)) 255 = (r1 : Int) := hr1
    clear hr1 hP
    have HE : Hid (Cur (w.setCell ⟨P, 2, none⟩ (.int .i64 H2)) P x l.length cap i H2) := by
      show _ = _
      rw [heap_setCell_same w P 2 _ _ _ HC.out]
      rfl
    have HGR : Hid (w.grownBy (w.setCell ⟨P, 2, none⟩ (.int .i64 H2)) (some P)) :=
      ⟨rfl, rfl, rfl, by simp, fun k _ hk => heap_setCell_other _ _ k _ (fun e => hk (by simp [e]))⟩
    go_enter Tryd.func42, Tryd.ntmps42
    go_wp2
    go_region
    all_goals (go_wp2; go_region)
    all_goals go_wp2
    all_goals go_ret
    all_goals exact ⟨r1, i, H2, rfl, by omega, by omega, HE.out, ⟨HGR.out.os, HGR.out.tape, HGR.out.output, HGR.out.size, HGR.out.block⟩⟩

/-- Below a bound, from the cursor on. -/
theorem belowCur (P : Nat) (x : Option Addr) (cap : Nat) (l : List Int) (i : Nat) (h : Int) (n : Nat) (w : World) (hl : l.length ≤ 1048576) (hu : U8 l) (hP : ∀ b off, x = some ⟨b, off, none⟩ → l ≠ [] → b < P) (hi : i ≤ l.length) (hr : Rd .u8 w x l) (hc : Cur w P x l.length cap i h) (hn : 1 ≤ n) (hn2 : n ≤ 256) :
    Calls Tryd.prog 22 #[.pointer (some ⟨P, 0, none⟩), .int .i64 n] w fun e w' => ∃ (r i' : Nat) (h' : Int), e = .returned (.int .i64 r) ∧ r < n ∧ i' ≤ l.length ∧ Cur w' P x l.length cap i' h' ∧ w.grownBy w' (some P) := by
  have HR : Hid (Rd .u8 w x l) := hr
  have HU : Hid (U8 l) := hu
  have HC : Hid (Cur w P x l.length cap i h) := hc
  have HP : Hid (∀ b off, x = some ⟨b, off, none⟩ → l ≠ [] → b < P) := hP
  clear hr hu hc hP
  have hn0 : ¬ (n : Int) ≤ 0 := by omega
  have hn1 : (n : Int) ≤ 256 := by omega
  go_enter Tryd.func22, Tryd.ntmps22
  go_wp2_with fail
  refine (byteCur P x cap l i h _ hl HU.out HP.out hi HR.out HC.out).mono ?_
  rintro e w1 ⟨r, i', h', rfl, hr, hi', hc1, hg1⟩
  have HC1 : Hid (Cur w1 P x l.length cap i' h') := hc1
  clear hc1
  go_wp2
  go_ret
  exact ⟨r % n, i', h', by go_num, Nat.mod_lt _ (by omega), hi', HC1.out, hg1⟩
end Go.Proofs.YtogpgocldgdeaaaDoor

/-
  Own text: what is drawn from the cursor: a number below a bound, yes or no, an element of a row; what stays of the cursor.
-/
namespace Go.Proofs.YtogpgocldgdeaaaDoor
open Go.RowKit

set_option maxRecDepth 20000 in
set_option maxHeartbeats 400000 in
theorem pickInt (P Q : Nat) (x : Option Addr) (cap : Nat) (l : List Int) (i : Nat) (h : Int) (L : List Int) (w : World) (hl : l.length ≤ 1048576) (hu : U8 l) (hP : ∀ b off, x = some ⟨b, off, none⟩ → l ≠ [] → b < P) (hi : i ≤ l.length) (hr : Rd .u8 w x l) (hc : Cur w P x l.length cap i h) (n : Nat) (hLn : L.length = n) (hn : 1 ≤ n) (hn2 : n ≤ 256)
    (hQ : Q ≠ P) (hL : ∀ j, j < L.length → w.cell? ⟨Q, j, none⟩ = some (.int .i64 (L.getD j 0))) :
    Calls Tryd.prog 21 #[.pointer (some ⟨P, 0, none⟩), .slice (some ⟨Q, 0, none⟩) n n] w fun e w' => ∃ (r i' : Nat) (h' : Int), r < L.length ∧ e = .returned (.int .i64 (L.getD r 0)) ∧ i' ≤ l.length ∧ Cur w' P x l.length cap i' h' ∧ w.grownBy w' (some P) := by
  subst hLn
  have HR : Hid (Rd .u8 w x l) := hr
  have HU : Hid (U8 l) := hu
  have HC : Hid (Cur w P x l.length cap i h) := hc
  have HP : Hid (∀ b off, x = some ⟨b, off, none⟩ → l ≠ [] → b < P) := hP
  have HL : Hid (∀ j, j < L.length → w.cell? ⟨Q, j, none⟩ = some (.int .i64 (L.getD j 0))) := hL
  clear hr hu hc hP hL
  go_enter Tryd.func21, Tryd.ntmps21
  go_wp2_with fail
  refine (belowCur P x cap l i h L.length _ hl HU.out HP.out hi HR.out HC.out hn hn2).mono ?_
  rintro e w1 ⟨r, i', h', rfl, hr, hi', hc1, hg1⟩
  have hcell : w1.cell? ⟨Q, r, none⟩ = some (.int .i64 (L.getD r 0)) := hg1.cell (HL.out r hr) (by simpa using hQ)
  have HC1 : Hid (Cur w1 P x l.length cap i' h') := hc1
  clear hc1
  generalize hv : L.getD r 0 = v at *
  have HV : Hid (L.getD r 0 = v) := hv
  clear hv
  go_wp2
  go_ret
  exact ⟨r, i', h', hr, by rw [HV.out]; rfl, hi', HC1.out, hg1⟩

set_option maxRecDepth 20000 in
set_option maxHeartbeats 400000 in
theorem pickStr (P Q : Nat) (x : Option Addr) (cap : Nat) (l : List Int) (i : Nat) (h : Int) (L : List ByteArray) (w : World) (hl : l.length ≤ 1048576) (hu : U8 l) (hP : ∀ b off, x = some ⟨b, off, none⟩ → l ≠ [] → b < P) (hi : i ≤ l.length) (hr : Rd .u8 w x l) (hc : Cur w P x l.length cap i h) (n : Nat) (hLn : L.length = n) (hn : 1 ≤ n) (hn2 : n ≤ 256)
    (hQ : Q ≠ P) (hL : ∀ j, j < L.length → w.cell? ⟨Q, j, none⟩ = some (.string (L.getD j ⟨#[]⟩))) :
    Calls Tryd.prog 20 #[.pointer (some ⟨P, 0, none⟩), .slice (some ⟨Q, 0, none⟩) n n] w fun e w' => ∃ (r i' : Nat) (h' : Int), r < L.length ∧ e = .returned (.string (L.getD r ⟨#[]⟩)) ∧ i' ≤ l.length ∧ Cur w' P x l.length cap i' h' ∧ w.grownBy w' (some P) := by
  subst hLn
  have HR : Hid (Rd .u8 w x l) := hr
  have HU : Hid (U8 l) := hu
  have HC : Hid (Cur w P x l.length cap i h) := hc
  have HP : Hid (∀ b off, x = some ⟨b, off, none⟩ → l ≠ [] → b < P) := hP
  have HL : Hid (∀ j, j < L.length → w.cell? ⟨Q, j, none⟩ = some (.string (L.getD j ⟨#[]⟩))) := hL
  clear hr hu hc hP hL
  go_enter Tryd.func20, Tryd.ntmps20
  go_wp2_with fail
  refine (belowCur P x cap l i h L.length _ hl HU.out HP.out hi HR.out HC.out hn hn2).mono ?_
  rintro e w1 ⟨r, i', h', rfl, hr, hi', hc1, hg1⟩
  have hcell : w1.cell? ⟨Q, r, none⟩ = some (.string (L.getD r ⟨#[]⟩)) := hg1.cell (HL.out r hr) (by simpa using hQ)
  have HC1 : Hid (Cur w1 P x l.length cap i' h') := hc1
  clear hc1
  generalize hv : L.getD r ⟨#[]⟩ = v at *
  have HV : Hid (L.getD r ⟨#[]⟩ = v) := hv
  clear hv
  go_wp2
  go_ret
  exact ⟨r, i', h', hr, by rw [HV.out]; rfl, hi', HC1.out, hg1⟩

theorem Cur.alloc {w : World} {P : Nat} {a : Option Addr} {len cap i : Nat} {h : Int} (hc : Cur w P a len cap i h) (o : Obj) : Cur (w.alloc o) P a len cap i h := by
  have := hc.lt
  show (w.heap.push o)[P]? = _
  rw [Array.getElem?_push, if_neg (by omega)]
  exact hc
theorem rd_block {w : World} {x : Option Addr} {l : List Int} (hr : Rd .u8 w x l) : ∀ b off, x = some ⟨b, off, none⟩ → l ≠ [] → b < w.heap.size := by
  intro b off hx hne
  rcases hr with h | ⟨b', off', hx', hlt, _⟩
  · exact absurd h hne
  · rw [hx] at hx'
    simp at hx'
    omega

theorem cells_list {α : Type} (L : List α) (f : α → Value) (d : α) (w : World) (C : Array Value) (t : TypeId) (hC : C = (L.map f).toArray) (j : Nat) (hj : j < L.length) :
    (w.alloc (.cells C t)).cell? ⟨w.heap.size, j, none⟩ = some (f (L.getD j d)) := by
  subst hC
  rw [cell_of_row _ _ j _ _ _ (heap_alloc_new w _)]
  simp [List.getD, hj]

/-- All that the draws know of their cursor. -/
def Drw (w : World) (P : Nat) (x : Option Addr) (cap : Nat) (l : List Int) : Prop :=
  l.length ≤ 1048576 ∧ U8 l ∧ (∀ b off, x = some ⟨b, off, none⟩ → l ≠ [] → b < P) ∧ Rd .u8 w x l ∧ ∃ (i : Nat) (h : Int), i ≤ l.length ∧ Cur w P x l.length cap i h
theorem Drw.lt {w : World} {P : Nat} {x : Option Addr} {cap : Nat} {l : List Int} (h : Drw w P x cap l) : P < w.heap.size := by
  obtain ⟨_, _, _, _, i, hh, _, hc⟩ := h
  exact hc.lt
theorem Rd.belowP {w w' : World} {P : Nat} {x : Option Addr} {l : List Int} (hr : Rd .u8 w x l) (hP : ∀ b off, x = some ⟨b, off, none⟩ → l ≠ [] → b < P) (hb : Below P w w') : Rd .u8 w' x l := by
  rcases hr with h | ⟨b, off, ha, hlt, hc⟩
  · exact .inl h
  · by_cases hne : l = []
    · exact .inl hne
    · exact .inr ⟨b, off, ha, Nat.lt_of_lt_of_le hlt hb.size, fun i hi => (hb.cell (by exact hP b off ha hne)).trans (hc i hi)⟩
theorem below_grownP {w w' : World} {P : Nat} (hg : w.grownBy w' (some P)) (hlt : P < w.heap.size) : Below P w w' :=
  (Below.refl P w).grown hg (by omega) (fun k hk => by simp at hk; omega)
theorem Drw.step {w w' : World} {P : Nat} {x : Option Addr} {cap : Nat} {l : List Int} {i' : Nat} {h' : Int} (h : Drw w P x cap l) (hb : Below P w w') (hi : i' ≤ l.length) (hc : Cur w' P x l.length cap i' h') : Drw w' P x cap l :=
  ⟨h.1, h.2.1, h.2.2.1, h.2.2.2.1.belowP h.2.2.1 hb, i', h', hi, hc⟩
theorem Drw.alloc {w : World} {P : Nat} {x : Option Addr} {cap : Nat} {l : List Int} (h : Drw w P x cap l) (o : Obj) : Drw (w.alloc o) P x cap l := by
  have hlt := h.lt
  obtain ⟨h1, h2, h3, h4, i, hh, hi, hc⟩ := h
  exact ⟨h1, h2, h3, h4.belowP h3 ((Below.refl P w).alloc (by omega) o), i, hh, hi, hc.alloc o⟩
/-- Behind whatever leaves the cursor's block alone. -/
theorem Drw.far {w w' : World} {P B : Nat} {x : Option Addr} {cap : Nat} {l : List Int} (h : Drw w P x cap l) (hb : Below B w w') (hB : P < B) : Drw w' P x cap l := by
  obtain ⟨h1, h2, h3, h4, i, hh, hi, hc⟩ := h
  refine ⟨h1, h2, h3, h4.belowP h3 (hb.mono (by omega)), i, hh, hi, ?_⟩
  show w'.heap[P]? = _
  rw [hb.block P hB]
  exact hc

set_option maxHeartbeats 400000 in
theorem newD (x : Option Addr) (cap : Nat) (l : List Int) (w : World) (hl : l.length ≤ 1048576) (hu : U8 l) (hr : Rd .u8 w x l) :
    Calls Tryd.prog 18 #[.slice x l.length cap] w fun e w' => ∃ P, e = .returned (.pointer (some ⟨P, 0, none⟩)) ∧ w.heap.size ≤ P ∧ Drw w' P x cap l ∧ Below w.heap.size w w' := by
  refine (newCur x cap l w hl hu hr).mono ?_
  rintro e w1 ⟨P, h, rfl, hP, hc, hb⟩
  exact ⟨P, rfl, hP, ⟨hl, hu, fun b off hx hne => Nat.lt_of_lt_of_le (rd_block hr b off hx hne) hP, hr.below hb (Nat.le_refl _), 0, h, Nat.zero_le _, hc⟩, hb⟩

theorem belowD (P : Nat) (x : Option Addr) (cap : Nat) (l : List Int) (n : Nat) (w : World) (hd : Drw w P x cap l) (hn : 1 ≤ n) (hn2 : n ≤ 256) :
    Calls Tryd.prog 22 #[.pointer (some ⟨P, 0, none⟩), .int .i64 n] w fun e w' => ∃ r : Nat, e = .returned (.int .i64 r) ∧ r < n ∧ Drw w' P x cap l ∧ w.grownBy w' (some P) := by
  obtain ⟨h1, h2, h3, h4, i, hh, hi, hc⟩ := id hd
  refine (belowCur P x cap l i hh n w h1 h2 h3 hi h4 hc hn hn2).mono ?_
  rintro e w1 ⟨r, i', h', rfl, hr, hi', hc1, hg1⟩
  exact ⟨r, rfl, hr, hd.step (below_grownP hg1 hd.lt) hi' hc1, hg1⟩

theorem pickD (P Q : Nat) (x : Option Addr) (cap : Nat) (l : List Int) (L : List ByteArray) (w : World) (hd : Drw w P x cap l) (n : Nat) (hLn : L.length = n) (hn : 1 ≤ n) (hn2 : n ≤ 256)
    (hQ : Q ≠ P) (hL : ∀ j, j < L.length → w.cell? ⟨Q, j, none⟩ = some (.string (L.getD j ⟨#[]⟩))) :
    Calls Tryd.prog 20 #[.pointer (some ⟨P, 0, none⟩), .slice (some ⟨Q, 0, none⟩) n n] w fun e w' => ∃ s ∈ L, e = .returned (.string s) ∧ Drw w' P x cap l ∧ w.grownBy w' (some P) := by
  obtain ⟨h1, h2, h3, h4, i, hh, hi, hc⟩ := id hd
  refine (pickStr P Q x cap l i hh L w h1 h2 h3 hi h4 hc n hLn hn hn2 hQ hL).mono ?_
  rintro e w1 ⟨r, i', h', hr, rfl, hi', hc1, hg1⟩
  refine ⟨L.getD r ⟨#[]⟩, ?_, rfl, hd.step (below_grownP hg1 hd.lt) hi' hc1, hg1⟩
  have e : L.getD r ⟨#[]⟩ = L[r] := by simp [List.getD, hr]
  rw [e]; exact List.getElem_mem hr
end Go.Proofs.YtogpgocldgdeaaaDoor

/-
  Own text: what is drawn, with what a draw leaves alone: every block but the cursor's.
-/
namespace Go.Proofs.YtogpgocldgdeaaaDoor
open Go.RowKit

/-- Nothing that was there has turned but the cursor. -/
abbrev OnlyP (P : Nat) (w w' : World) : Prop := Only (fun k => k = P) w w'
theorem onlyP_grown {P : Nat} {w w' : World} (h : w.grownBy w' (some P)) : OnlyP P w w' := (Only.of_grown h).mono fun _ _ hk => (Option.some.inj hk).symm
theorem OnlyP.below {P : Nat} {w w' : World} (h : OnlyP P w w') (hP : P < w.heap.size) : Below P w w' := Only.below h (by omega) (fun k hk => by omega)
theorem OnlyP.belowB {P B : Nat} {w w' : World} (h : OnlyP P w w') (hB : B ≤ w.heap.size) (hP : B ≤ P) : Below B w w' := Only.below h hB (fun k hk => by omega)
theorem Var.onlyP {P : Nat} {w w' : World} {Q : Nat} {C : Array Value} {t : TypeId} (h : Var w Q C t) (ho : OnlyP P w w') (hne : Q ≠ P) : Var w' Q C t := h.only ho hne

theorem belowO (P : Nat) (x : Option Addr) (cap : Nat) (l : List Int) (n : Nat) (w : World) (hd : Drw w P x cap l) (hn : 1 ≤ n) (hn2 : n ≤ 256) :
    Calls Tryd.prog 22 #[.pointer (some ⟨P, 0, none⟩), .int .i64 n] w fun e w' => ∃ r : Nat, e = .returned (.int .i64 r) ∧ r < n ∧ Drw w' P x cap l ∧ OnlyP P w w' := by
  refine (belowD P x cap l n w hd hn hn2).mono ?_
  rintro e w' ⟨r, rfl, hr, hd', hg⟩
  exact ⟨r, rfl, hr, hd', onlyP_grown hg⟩
theorem byteO (P : Nat) (x : Option Addr) (cap : Nat) (l : List Int) (w : World) (hd : Drw w P x cap l) :
    Calls Tryd.prog 42 #[.pointer (some ⟨P, 0, none⟩)] w fun e w' => ∃ r : Nat, e = .returned (.int .i64 r) ∧ r < 256 ∧ Drw w' P x cap l ∧ OnlyP P w w' := by
  obtain ⟨h1, h2, h3, h4, i, hh, hi, hc⟩ := id hd
  refine (byteCur P x cap l i hh w h1 h2 h3 hi h4 hc).mono ?_
  rintro e w1 ⟨r, i', h', rfl, hr, hi', hc1, hg1⟩
  exact ⟨r, rfl, hr, hd.step (below_grownP hg1 hd.lt) hi' hc1, onlyP_grown hg1⟩
theorem pickO (P Q : Nat) (x : Option Addr) (cap : Nat) (l : List Int) (L : List ByteArray) (w : World) (hd : Drw w P x cap l) (n : Nat) (hLn : L.length = n) (hn : 1 ≤ n) (hn2 : n ≤ 256)
    (hQ : Q ≠ P) (hL : ∀ j, j < L.length → w.cell? ⟨Q, j, none⟩ = some (.string (L.getD j ⟨#[]⟩))) :
    Calls Tryd.prog 20 #[.pointer (some ⟨P, 0, none⟩), .slice (some ⟨Q, 0, none⟩) n n] w fun e w' => ∃ s ∈ L, e = .returned (.string s) ∧ Drw w' P x cap l ∧ OnlyP P w w' := by
  refine (pickD P Q x cap l L w hd n hLn hn hn2 hQ hL).mono ?_
  rintro e w' ⟨s, hs, rfl, hd', hg⟩
  exact ⟨s, hs, rfl, hd', onlyP_grown hg⟩
theorem pickIntO (P Q : Nat) (x : Option Addr) (cap : Nat) (l : List Int) (L : List Int) (w : World) (hd : Drw w P x cap l) (n : Nat) (hLn : L.length = n) (hn : 1 ≤ n) (hn2 : n ≤ 256)
    (hQ : Q ≠ P) (hL : ∀ j, j < L.length → w.cell? ⟨Q, j, none⟩ = some (.int .i64 (L.getD j 0))) :
    Calls Tryd.prog 21 #[.pointer (some ⟨P, 0, none⟩), .slice (some ⟨Q, 0, none⟩) n n] w fun e w' => ∃ m ∈ L, e = .returned (.int .i64 m) ∧ Drw w' P x cap l ∧ OnlyP P w w' := by
  obtain ⟨h1, h2, h3, h4, i, hh, hi, hc⟩ := id hd
  refine (pickInt P Q x cap l i hh L w h1 h2 h3 hi h4 hc n hLn hn hn2 hQ hL).mono ?_
  rintro e w1 ⟨r, i', h', hr, rfl, hi', hc1, hg1⟩
  refine ⟨L.getD r 0, ?_, rfl, hd.step (below_grownP hg1 hd.lt) hi' hc1, onlyP_grown hg1⟩
  have e : L.getD r 0 = L[r] := by simp [List.getD, hr]
  rw [e]; exact List.getElem_mem hr
/-- A step that turns what is new since w alone, behind one that left all but S alone. -/
theorem Only.trans' {S : Nat → Prop} {w w1 w2 : World} (h : Only S w w1) (k : Only (fun j => w.heap.size ≤ j) w1 w2) : Only S w w2 :=
  ⟨k.os.trans h.os, k.tape.trans h.tape, k.output.trans h.output, Nat.le_trans h.size k.size, fun i hi hs => (k.block i (Nat.lt_of_lt_of_le hi h.size) (by omega)).trans (h.block i hi hs)⟩
/-- The cursor behind what makes new memory, or writes into rows of one's own. -/
theorem Drw.only {S : Nat → Prop} {w w' : World} {P : Nat} {x : Option Addr} {cap : Nat} {l : List Int} (h : Drw w P x cap l) (ho : Only S w w') (hs : ∀ k, k ≤ P → ¬ S k) : Drw w' P x cap l :=
  h.far (B := P + 1) (ho.below (by have := h.lt; omega) (fun k hk => by
    refine Nat.lt_of_not_le fun hle => hs k hle hk)) (by omega)

end Go.Proofs.YtogpgocldgdeaaaDoor
