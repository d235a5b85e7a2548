/-
  Own text: what is drawn from the cursor: a number below a bound, yes or no, an element of a row; what stays of the cursor.
-/
import Derived.Test.YtgndkdoefmjdhaaDoorDrawW
namespace Go.Proofs.YtgndkdoefmjdhaaDoor
open Go.RowKit

set_option maxRecDepth 20000 in
set_option maxHeartbeats 400000 in
theorem pickInt (P Q : Nat) (x : Option Addr) (cap : Nat) (l : List Int) (i : Nat) (h : Int) (L : List Int) (w : World) (hl : l.length ≤ 1048576) (hu : U8 l) (hP : ∀ b off, x = some ⟨b, off, none⟩ → l ≠ [] → b < P) (hi : i ≤ l.length) (hr : Rd .u8 w x l) (hc : Cur w P x l.length cap i h) (n : Nat) (hLn : L.length = n) (hn : 1 ≤ n) (hn2 : n ≤ 256)
    (hQ : Q ≠ P) (hL : ∀ j, j < L.length → w.cell? ⟨Q, j, none⟩ = some (.int .i64 (L.getD j 0))) :
    Calls Tryd.prog 38 #[.pointer (some ⟨P, 0, none⟩), .slice (some ⟨Q, 0, none⟩) n n] w fun e w' => ∃ (r i' : Nat) (h' : Int), r < L.length ∧ e = .returned (.int .i64 (L.getD r 0)) ∧ i' ≤ l.length ∧ Cur w' P x l.length cap i' h' ∧ w.grownBy w' (some P) := by
  subst hLn
  have HR : Hid (Rd .u8 w x l) := hr
  have HU : Hid (U8 l) := hu
  have HC : Hid (Cur w P x l.length cap i h) := hc
  have HP : Hid (∀ b off, x = some ⟨b, off, none⟩ → l ≠ [] → b < P) := hP
  have HL : Hid (∀ j, j < L.length → w.cell? ⟨Q, j, none⟩ = some (.int .i64 (L.getD j 0))) := hL
  clear hr hu hc hP hL
  go_enter Tryd.func38, Tryd.ntmps38
  go_wp2_with fail
  refine (belowCur P x cap l i h L.length _ hl HU.out HP.out hi HR.out HC.out hn hn2).mono ?_
  rintro e w1 ⟨r, i', h', rfl, hr, hi', hc1, hg1⟩
  have hcell : w1.cell? ⟨Q, r, none⟩ = some (.int .i64 (L.getD r 0)) := hg1.cell (HL.out r hr) (by simpa using hQ)
  have HC1 : Hid (Cur w1 P x l.length cap i' h') := hc1
  clear hc1
  generalize hv : L.getD r 0 = v at *
  have HV : Hid (L.getD r 0 = v) := hv
  clear hv
  go_wp2
  go_ret
  exact ⟨r, i', h', hr, by rw [HV.out]; rfl, hi', HC1.out, hg1⟩

theorem Cur.alloc {w : World} {P : Nat} {a : Option Addr} {len cap i : Nat} {h : Int} (hc : Cur w P a len cap i h) (o : Obj) : Cur (w.alloc o) P a len cap i h := by
  have := hc.lt
  show (w.heap.push o)[P]? = _
  rw [Array.getElem?_push, if_neg (by omega)]
  exact hc
theorem rd_block {w : World} {x : Option Addr} {l : List Int} (hr : Rd .u8 w x l) : ∀ b off, x = some ⟨b, off, none⟩ → l ≠ [] → b < w.heap.size := by
  intro b off hx hne
  rcases hr with h | ⟨b', off', hx', hlt, _⟩
  · exact absurd h hne
  · rw [hx] at hx'
    simp at hx'
    omega

theorem cells_list {α : Type} (L : List α) (f : α → Value) (d : α) (w : World) (C : Array Value) (t : TypeId) (hC : C = (L.map f).toArray) (j : Nat) (hj : j < L.length) :
    (w.alloc (.cells C t)).cell? ⟨w.heap.size, j, none⟩ = some (f (L.getD j d)) := by
  subst hC
  rw [cell_of_row _ _ j _ _ _ (heap_alloc_new w _)]
  simp [List.getD, hj]

/-- All that the draws know of their cursor. -/
def Drw (w : World) (P : Nat) (x : Option Addr) (cap : Nat) (l : List Int) : Prop :=
  l.length ≤ 1048576 ∧ U8 l ∧ (∀ b off, x = some ⟨b, off, none⟩ → l ≠ [] → b < P) ∧ Rd .u8 w x l ∧ ∃ (i : Nat) (h : Int), i ≤ l.length ∧ Cur w P x l.length cap i h
theorem Drw.lt {w : World} {P : Nat} {x : Option Addr} {cap : Nat} {l : List Int} (h : Drw w P x cap l) : P < w.heap.size := by
  obtain ⟨_, _, _, _, i, hh, _, hc⟩ := h
  exact hc.lt
theorem Rd.belowP {w w' : World} {P : Nat} {x : Option Addr} {l : List Int} (hr : Rd .u8 w x l) (hP : ∀ b off, x = some ⟨b, off, none⟩ → l ≠ [] → b < P) (hb : Below P w w') : Rd .u8 w' x l := by
  rcases hr with h | ⟨b, off, ha, hlt, hc⟩
  · exact .inl h
  · by_cases hne : l = []
    · exact .inl hne
    · exact .inr ⟨b, off, ha, Nat.lt_of_lt_of_le hlt hb.size, fun i hi => (hb.cell (by exact hP b off ha hne)).trans (hc i hi)⟩
theorem below_grownP {w w' : World} {P : Nat} (hg : w.grownBy w' (some P)) (hlt : P < w.heap.size) : Below P w w' :=
  (Below.refl P w).grown hg (by omega) (fun k hk => by simp at hk; omega)
theorem Drw.step {w w' : World} {P : Nat} {x : Option Addr} {cap : Nat} {l : List Int} {i' : Nat} {h' : Int} (h : Drw w P x cap l) (hb : Below P w w') (hi : i' ≤ l.length) (hc : Cur w' P x l.length cap i' h') : Drw w' P x cap l :=
  ⟨h.1, h.2.1, h.2.2.1, h.2.2.2.1.belowP h.2.2.1 hb, i', h', hi, hc⟩
theorem Drw.alloc {w : World} {P : Nat} {x : Option Addr} {cap : Nat} {l : List Int} (h : Drw w P x cap l) (o : Obj) : Drw (w.alloc o) P x cap l := by
  have hlt := h.lt
  obtain ⟨h1, h2, h3, h4, i, hh, hi, hc⟩ := h
  exact ⟨h1, h2, h3, h4.belowP h3 ((Below.refl P w).alloc (by omega) o), i, hh, hi, hc.alloc o⟩
/-- Behind whatever leaves the cursor's block alone. -/
theorem Drw.far {w w' : World} {P B : Nat} {x : Option Addr} {cap : Nat} {l : List Int} (h : Drw w P x cap l) (hb : Below B w w') (hB : P < B) : Drw w' P x cap l := by
  obtain ⟨h1, h2, h3, h4, i, hh, hi, hc⟩ := h
  refine ⟨h1, h2, h3, h4.belowP h3 (hb.mono (by omega)), i, hh, hi, ?_⟩
  show w'.heap[P]? = _
  rw [hb.block P hB]
  exact hc

set_option maxHeartbeats 400000 in
theorem newD (x : Option Addr) (cap : Nat) (l : List Int) (w : World) (hl : l.length ≤ 1048576) (hu : U8 l) (hr : Rd .u8 w x l) :
    Calls Tryd.prog 18 #[.slice x l.length cap] w fun e w' => ∃ P, e = .returned (.pointer (some ⟨P, 0, none⟩)) ∧ w.heap.size ≤ P ∧ Drw w' P x cap l ∧ Below w.heap.size w w' := by
  refine (newCur x cap l w hl hu hr).mono ?_
  rintro e w1 ⟨P, h, rfl, hP, hc, hb⟩
  exact ⟨P, rfl, hP, ⟨hl, hu, fun b off hx hne => Nat.lt_of_lt_of_le (rd_block hr b off hx hne) hP, hr.below hb (Nat.le_refl _), 0, h, Nat.zero_le _, hc⟩, hb⟩

theorem belowD (P : Nat) (x : Option Addr) (cap : Nat) (l : List Int) (n : Nat) (w : World) (hd : Drw w P x cap l) (hn : 1 ≤ n) (hn2 : n ≤ 256) :
    Calls Tryd.prog 24 #[.pointer (some ⟨P, 0, none⟩), .int .i64 n] w fun e w' => ∃ r : Nat, e = .returned (.int .i64 r) ∧ r < n ∧ Drw w' P x cap l ∧ w.grownBy w' (some P) := by
  obtain ⟨h1, h2, h3, h4, i, hh, hi, hc⟩ := id hd
  refine (belowCur P x cap l i hh n w h1 h2 h3 hi h4 hc hn hn2).mono ?_
  rintro e w1 ⟨r, i', h', rfl, hr, hi', hc1, hg1⟩
  exact ⟨r, rfl, hr, hd.step (below_grownP hg1 hd.lt) hi' hc1, hg1⟩

end Go.Proofs.YtgndkdoefmjdhaaDoor
