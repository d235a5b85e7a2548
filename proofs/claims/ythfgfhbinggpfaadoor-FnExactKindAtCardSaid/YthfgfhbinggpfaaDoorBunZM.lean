/-
  Own texts, several together.
-/
import Derived.Test.YthfgfhbinggpfaaDoorBunZG
import Derived.Test.YthfgfhbinggpfaaDoorRows
import Derived.Defers
import Derived.Recover
/-
  Own text: the program's reading of a number, walked.
-/
namespace Go.Proofs.YthfgfhbinggpfaaDoor
open Go.RowKit

theorem notGood {l : List Int} {p : Nat} (hno : ∀ k, ¬ Stop l p k) : ∀ n next, ¬ Good l p n next := by
  rintro n next ⟨p', k, hp', hs, _⟩
  obtain rfl : p = p' := by omega
  exact hno k hs

set_option maxRecDepth 20000 in
set_option maxHeartbeats 400000 in
theorem atOut (x : Option Addr) (cap len : Nat) (at' : Int) (a : Addr) (w : World) (h : at' < 0 ∨ (len : Int) ≤ at') (hg : w.cell? ⟨errG, 0, none⟩ = some (.iface 133 (.pointer (some a)))) :
    Calls Tryd.prog 93 #[.slice x len cap, .int .i64 at'] w fun e w' => e = thePanic a ∧ w' = w := by
  go_enter Tryd.func93, Tryd.ntmps93
  go_wp2_with fail
  refine (endOut x cap len at' a _ h hg).mono ?_
  rintro e w1 ⟨rfl, rfl⟩
  unfold thePanic
  go_wp2
  exact ⟨rfl, rfl, rfl⟩

set_option maxRecDepth 20000 in
set_option maxHeartbeats 800000 in
theorem atIn (b off cap : Nat) (l : List Int) (p : Nat) (a : Addr) (w : World) (hl : l.length ≤ 1048581) (hu : U8 l) (hcap : l.length ≤ cap) (hm : cap ≤ maxLen) (hp : p < l.length) (hb : b < w.heap.size)
    (hc : ∀ i, i < l.length → w.cell? ⟨b, off + i, none⟩ = some (.int .u8 (l.getD i 0))) (hgl : errG < w.heap.size) (hg : w.cell? ⟨errG, 0, none⟩ = some (.iface 133 (.pointer (some a)))) :
    Calls Tryd.prog 93 #[.slice (some ⟨b, off, none⟩) l.length cap, .int .i64 p] w fun e w' => ((∃ n next, Good l p n next ∧ e = .returned (.tuple #[.int .i64 (n : Nat), .int .i64 (next : Nat)])) ∨ ((∀ n next, ¬ Good l p n next) ∧ e = thePanic a)) ∧ Below w.heap.size w w' := by
  have HMX : Hid (cap ≤ maxLen) := hm
  unfold maxLen at hm
  have HC : Hid (∀ i, i < l.length → w.cell? ⟨b, off + i, none⟩ = some (.int .u8 (l.getD i 0))) := hc
  have HG : Hid (w.cell? ⟨errG, 0, none⟩ = some (.iface 133 (.pointer (some a)))) := hg
  have HU : Hid (U8 l) := hu
  clear hc hg hu
  go_enter Tryd.func93, Tryd.ntmps93
  go_wp2_with fail
  refine (endIn b off cap l p a _ hl HU.out hcap HMX.out hp hb HC.out hgl HG.out).mono ?_
  rintro e w1 ⟨⟨k, hst, rfl⟩ | ⟨hno, rfl⟩, hb1⟩
  · have HS : Hid (Stop l p k) := hst
    obtain ⟨hk5, hkl, _, _⟩ := hst
    go_wp2
    go_loop [7, 8] (fun n i => ∃ j : Nat, j ≤ k + 1 ∧ i = .int .i64 ((p : Int) + (j : Int) - 1) ∧ n = .int .i64 (part l p j k : Nat)) (fun _ i => ((intOf i) - p + 1).toNat)
    case atStart => exact ⟨k + 1, Nat.le_refl _, by go_num, by rw [part_end]; rfl⟩
    case round =>
      obtain ⟨j, hj, rfl, rfl⟩ := hrel
      by_cases hj0 : 0 < j
      · obtain ⟨i, rfl⟩ : ∃ i, j = i + 1 := ⟨j - 1, by omega⟩
        have hpt := part_lt' l p (i + 1) k hk5
        have HP : Hid (part l p i k = (l.getD (p + i) 0).toNat % 128 + 128 * part l p (i + 1) k) := part_step l p i k (by omega) hkl
        have hcell : w1.cell? ⟨b, off + (p + i), none⟩ = some (.int .u8 (l.getD (p + i) 0)) := by
          rw [hb1.cell (by exact hb)]; exact HC.out (p + i) (by omega)
        have hub := HU.out.at (p + i)
        have e1 : (p : Int) + ((i + 1 : Nat) : Int) - 1 = ((p + i : Nat) : Int) := by omega
        rw [e1]
        generalize l.getD (p + i) 0 = d at *
        generalize part l p (i + 1) k = N at *
        clear e1
        go_wp2
        go_round
        case rel => exact ⟨i, by omega, by go_num, by rw [HP.out]; go_num⟩
        case measure => simp [intOf]; omega
      · obtain rfl : j = 0 := by omega
        have hV : part l p 0 k = valTo l p (k + 1) := part_zero l p k hkl
        have hpt := part_lt' l p 0 k hk5
        rw [hV] at hpt ⊢
        have HGI : Hid ((putNum (valTo l p (k + 1) : Nat) = cut l p k) ↔ ((k = 0 ∨ l.getD (p + k) 0 ≠ 0) ∧ valTo l p (k + 1) ≤ 2147483647)) := good_iff HU.out HS.out
        have HGY : Hid ((k = 0 ∨ l.getD (p + k) 0 ≠ 0) ∧ valTo l p (k + 1) ≤ 2147483647 → Good l p (valTo l p (k + 1)) (p + k + 1)) := fun h => ⟨p, k, rfl, HS.out, h.1, rfl, h.2, rfl⟩
        have HGN : Hid (¬ ((k = 0 ∨ l.getD (p + k) 0 ≠ 0) ∧ valTo l p (k + 1) ≤ 2147483647) → ∀ n next, ¬ Good l p n next) := by
          rintro h n next ⟨p', k', hp', hs, h1, rfl, h2, rfl⟩
          obtain rfl : p = p' := by omega
          obtain rfl := HS.out.unique hs
          exact h ⟨h1, h2⟩
        generalize valTo l p (k + 1) = V at *
        have e2 : p + k + 1 - p = k + 1 := by omega
        have hcutlen := cut_len (l := l) (p := p) (k := k) hkl
        have HCV : Hid (∀ W : World, Below w1.heap.size w1 W → (convert 94 9 (.slice (some ⟨b, off + p, none⟩) (k + 1) (cap - p))).run Tryd.prog W = .ok (.string (bytesS (cut l p k))) W) := by
          intro W hW
          have := conv_rd (w := W) (b := b) (off := off + p) (cap := cap - p) (l := cut l p k) (cut_u8 HU.out p k) (fun i hi => by
            rw [hcutlen] at hi
            rw [cut_at hi, Nat.add_assoc, hW.cell (by exact Nat.lt_of_lt_of_le hb hb1.size), hb1.cell (by exact hb)]
            exact HC.out (p + i) (by omega))
          rw [hcutlen] at this
          exact this
        have hcv0 := HCV.out w1.drew (Below.refl _ _).drew
        clear hcutlen hV
        have e3 : ((p : Int) + (k : Int) + 1).toNat - p = k + 1 := by omega
        go_wp2
        by_cases hgood : putNum (V : Nat) = cut l p k
        · have hgd := HGY.out (HGI.out.1 hgood)
          have HGD : Hid (Good l p V (p + k + 1)) := hgd
          clear hgd HGY HGN HGI
          go_region_with (go_at_call 103; refine (implPutNum V _).mono ?_; rintro e w2 ⟨v2, rfl, ho2, hb2⟩; have hcA := conv_ownN (putNum_u8 _) ho2; have hcB := HCV.out w2 ((Below.refl _ _).drew.trans hb2); rw [hgood] at hcA)
          all_goals
            have hb3 : Below w.heap.size w w2 := hb1.drew.trans (hb2.mono hb1.size)
            clear hcA hcB hcv0 ho2 hb2 HCV
            go_wp2
            go_ret2
            exact ⟨.inl ⟨V, p + k + 1, HGD.out, by go_num⟩, hb3⟩
        · have hgn := HGN.out (fun h => hgood (HGI.out.2 h))
          have HGD : Hid (∀ n next, ¬ Good l p n next) := hgn
          have hsn : ¬ bytesS (putNum (V : Nat)) = bytesS (cut l p k) := fun h => hgood (bytesS_inj (putNum_u8 _) (cut_u8 HU.out p k) h)
          have HPU := putNum_u8 (V : Int)
          have HOC : Hid (∀ (W : World) (v : Value), W.ownsRow w1.drew.heap.size 5 1 v (putNum (V : Nat)).length ((putNum (V : Nat)).map (Value.int .u8)) → (convert 94 9 v).run Tryd.prog W = .ok (.string (bytesS (putNum (V : Nat)))) W) := fun W v h => conv_ownN (putNum_u8 _) h
          clear hgn HGY HGN HGI HPU hgood
          generalize bytesS (cut l p k) = sB at *
          generalize bytesS (putNum (V : Nat)) = sA at *
          have hsn2 := str_ne hsn
          clear hsn
          go_region_with (go_at_call 103; refine (implPutNum V _).mono ?_; rintro e w2 ⟨v2, rfl, ho2, hb2⟩; have hcA := HOC.out w2 v2 ho2; have hcB := HCV.out w2 ((Below.refl _ _).drew.trans hb2))
          all_goals
            have hb3 : Below w.heap.size w w2 := hb1.drew.trans (hb2.mono hb1.size)
            have hge2 : w2.cell? ⟨errG, 0, none⟩ = some (.iface 133 (.pointer (some a))) := (hb3.cell (by exact hgl)).trans HG.out
            unfold errG at hge2
            clear hcA hcB hcv0 ho2 hb2 HCV HOC
            go_wp2
            exact ⟨rfl, .inr ⟨HGD.out, rfl⟩, hb3⟩
  · unfold thePanic
    go_wp2
    exact ⟨rfl, .inr ⟨notGood hno, rfl⟩, hb1⟩
end Go.Proofs.YthfgfhbinggpfaaDoor

/-
  Own text: the deferred closures that recover: called of a frame that panics, they mark the panic as recovered; of one that returns, they do nothing.
-/
namespace Go.Proofs.YthfgfhbinggpfaaDoor
open Go.RowKit

end Go.Proofs.YthfgfhbinggpfaaDoor

/-
  Own text: the program's GetNum answers as 'Good' says.
-/
namespace Go.Proofs.YthfgfhbinggpfaaDoor
open Go.RowKit

/-- What is known of a slice of bytes that GetNum is handed. -/
structure Came (w : World) (x : Option Addr) (cap : Nat) (l : List Int) : Prop where
  hsmall : l.length ≤ 1048581
  hu8 : U8 l
  hcap : l.length ≤ cap
  hmax : cap ≤ maxLen
  hrd : Rd .u8 w x l

end Go.Proofs.YthfgfhbinggpfaaDoor

/-
  Own text: the program's GetText answers as 'GoodT' says.
-/
namespace Go.Proofs.YthfgfhbinggpfaaDoor
open Go.RowKit

set_option maxRecDepth 20000 in
set_option maxHeartbeats 400000 in
theorem textOut (x : Option Addr) (cap len : Nat) (at' : Int) (a : Addr) (w : World) (h : at' < 0 ∨ (len : Int) ≤ at') (hg : w.cell? ⟨errG, 0, none⟩ = some (.iface 133 (.pointer (some a)))) :
    Calls Tryd.prog 92 #[.slice x len cap, .int .i64 at'] w fun e w' => e = thePanic a ∧ w' = w := by
  go_enter Tryd.func92, Tryd.ntmps92
  go_wp2_with fail
  refine (atOut x cap len at' a _ h hg).mono ?_
  rintro e w1 ⟨rfl, rfl⟩
  unfold thePanic
  go_wp2
  exact ⟨rfl, rfl, rfl⟩

set_option maxRecDepth 20000 in
set_option maxHeartbeats 800000 in
theorem textIn (b off cap : Nat) (l : List Int) (p : Nat) (a : Addr) (w : World) (hl : l.length ≤ 1048581) (hu : U8 l) (hcap : l.length ≤ cap) (hm : cap ≤ maxLen) (hp : p < l.length) (hb : b < w.heap.size)
    (hc : ∀ i, i < l.length → w.cell? ⟨b, off + i, none⟩ = some (.int .u8 (l.getD i 0))) (hgl : errG < w.heap.size) (hg : w.cell? ⟨errG, 0, none⟩ = some (.iface 133 (.pointer (some a)))) :
    Calls Tryd.prog 92 #[.slice (some ⟨b, off, none⟩) l.length cap, .int .i64 p] w fun e w' => ((∃ s fin, GoodT l p s fin ∧ e = .returned (.tuple #[.string s, .int .i64 (fin : Nat)])) ∨ ((∀ s fin, ¬ GoodT l p s fin) ∧ e = thePanic a)) ∧ Below w.heap.size w w' := by
  have HMX : Hid (cap ≤ maxLen) := hm
  unfold maxLen at hm
  have HC : Hid (∀ i, i < l.length → w.cell? ⟨b, off + i, none⟩ = some (.int .u8 (l.getD i 0))) := hc
  have HG : Hid (w.cell? ⟨errG, 0, none⟩ = some (.iface 133 (.pointer (some a)))) := hg
  have HU : Hid (U8 l) := hu
  clear hc hg hu
  go_enter Tryd.func92, Tryd.ntmps92
  go_wp2_with fail
  refine (atIn b off cap l p a _ hl HU.out hcap HMX.out hp hb HC.out hgl HG.out).mono ?_
  rintro e w1 ⟨⟨n, next, hgd, rfl⟩ | ⟨hno, rfl⟩, hb1⟩
  · have HGD : Hid (Good l p n next) := hgd
    obtain ⟨hnx, hn⟩ := hgd.next_le
    clear hgd
    by_cases hlong : l.length < next + n
    · have HN : Hid (∀ s fin, ¬ GoodT l p s fin) := longGoodT HGD.out hlong
      have hge2 : w1.cell? ⟨errG, 0, none⟩ = some (.iface 133 (.pointer (some a))) := (hb1.cell (by exact hgl)).trans HG.out
      unfold errG at hge2
      go_wp2
      exact ⟨rfl, .inr ⟨HN.out, rfl⟩, hb1⟩
    · have HY : Hid (GoodT l p (subT l next n) (next + n)) := ⟨n, next, HGD.out, by omega, rfl, rfl⟩
      have hsl := slice_run b off l.length cap next n (by omega)
      have hcv := conv_sub (b := b) (off := off) (cap := cap) (lo := next) (n := n) (l := l) (W := w1) HU.out (by omega) hcap (fun i hi => (hb1.cell (by exact hb)).trans (HC.out i hi))
      generalize subT l next n = s at *
      generalize subAddr b off next cap = A at *
      go_wp2
      go_ret2
      exact ⟨.inl ⟨s, next + n, HY.out, by go_num⟩, hb1⟩
  · have HN : Hid (∀ s fin, ¬ GoodT l p s fin) := notGoodT hno
    clear hno
    unfold thePanic
    go_wp2
    exact ⟨rfl, .inr ⟨HN.out, rfl⟩, hb1⟩

end Go.Proofs.YthfgfhbinggpfaaDoor

/-
  Own text: the program's error variable holds what its text lays; a row of bytes stays where it was.
-/
namespace Go.Proofs.YthfgfhbinggpfaaDoor
open Go.RowKit

/-- The program's error variable holds what its text lays. -/
structure ErrAt (a : Addr) (w : World) : Prop where
  lt : errG < w.heap.size
  cell : w.cell? ⟨errG, 0, none⟩ = some (.iface 133 (.pointer (some a)))
theorem ErrAt.below {a : Addr} {w w' : World} (h : ErrAt a w) (hb : Below w.heap.size w w') : ErrAt a w' := ⟨Nat.lt_of_lt_of_le h.lt hb.size, (hb.cell h.lt).trans h.cell⟩

theorem Came.below {w w' : World} {x : Option Addr} {cap : Nat} {l : List Int} (h : Came w x cap l) (hb : Below w.heap.size w w') : Came w' x cap l := ⟨h.hsmall, h.hu8, h.hcap, h.hmax, h.hrd.below hb (Nat.le_refl _)⟩
end Go.Proofs.YthfgfhbinggpfaaDoor
