/-
  Own text: the lists of writes and the disks that chapter 4's laws draw.
-/
import Derived.Test.YtlidmnehpcodkaaDoorBunD
import Derived.Test.YtlidmnehpcodkaaDoorSEvDoW
import Derived.Test.YtlidmnehpcodkaaDoorBunJ
import Derived.Test.YtlidmnehpcodkaaDoorIEvDoW
import Derived.Deep.RegionHeld3
namespace Go.Proofs.YtlidmnehpcodkaaDoor
open Go.RowKit

/-- Short texts. -/
def Sh5 (L : List PutD) : Prop := ∀ p ∈ L, p.2.size ≤ 5
theorem Sh5.more {L : List PutD} (h : Sh5 L) (n : Int) {s : ByteArray} (hs : s.size ≤ 5) : Sh5 (L ++ [(n, s)]) := by
  intro p hp
  rcases List.mem_append.1 hp with hp | hp
  · exact h p hp
  · obtain rfl : p = (n, s) := by simpa using hp
    exact hs

/-- What is known between two draws of writes. -/
structure TInv (w W : World) (P : Nat) (x : Option Addr) (cap : Nat) (l : List Int) (v : Value) (L : List PutD) : Prop where
  drw : Drw W P x cap l
  own : W.ownsRow w.heap.size 39 2 v L.length (L.flatMap encP)
  only : OnlyP P w W
  sh : Sh5 L
theorem TInv.step {w W W' : World} {P : Nat} {x : Option Addr} {cap : Nat} {l : List Int} {v : Value} {L : List PutD} (h : TInv w W P x cap l v L) (hP : P < w.heap.size) (hd : Drw W' P x cap l) (ho : OnlyP P W W') : TInv w W' P x cap l v L :=
  ⟨hd, own_only h.own ho (fun j hj e => by have := (h.own.lt j hj).1; omega), h.only.trans ho, h.sh⟩
theorem TInv.new {w W W' : World} {P : Nat} {x : Option Addr} {cap : Nat} {l : List Int} {v : Value} {L : List PutD} (h : TInv w W P x cap l v L) (hb : Below W.heap.size W W') : TInv w W' P x cap l v L :=
  ⟨h.drw.far hb h.drw.lt, ownsRow_below h.own hb (Nat.le_refl _), h.only.trans (Only.of_new hb), h.sh⟩
theorem TInv.more {w W W' : World} {P : Nat} {x : Option Addr} {cap : Nat} {l : List Int} {v v' : Value} {L : List PutD} {n : Int} {s : ByteArray} (h : TInv w W P x cap l v L) (hP : P < w.heap.size) (hs : s.size ≤ 5) (ho : W'.ownsRow w.heap.size 39 2 v' (L.length + 1) (L.flatMap encP ++ [.int .i64 n, .string s])) (hg : W.grownBy W' v.ownBlock) : TInv w W' P x cap l v' (L ++ [(n, s)]) := by
  have hon := Only.of_grown hg
  refine ⟨h.drw.only hon (fun j hj e => by have := (h.own.lt j e).1; omega), ?_, h.only.trans' (hon.mono fun j _ e => (h.own.lt j e).1), h.sh.more n hs⟩
  rw [List.flatMap_append, List.length_append]
  exact ho

set_option maxRecDepth 20000 in
set_option maxHeartbeats 2000000 in
theorem txO (P : Nat) (x : Option Addr) (cap : Nat) (l : List Int) (n : Nat) (w : World) (hd : Drw w P x cap l) (hn1 : 1 ≤ n) (hn2 : n ≤ 6) :
    Calls Tryd.prog 91 #[.pointer (some ⟨P, 0, none⟩), .int .i64 (n : Int)] w fun e w' => ∃ (v : Value) (L : List PutD), e = .returned v ∧ TInv w w' P x cap l v L ∧ L.length ≤ n := by
  obtain ⟨i0, hi, hz0, hz1, hz2⟩ := info_parts Tryd.infoPut
  have hlt := hd.lt
  have HI0 : Hid (TInv w (w.alloc (.cells #[] 39)) P x cap l (.slice (some ⟨w.heap.size, 0, none⟩) 0 0) []) :=
    ⟨hd.alloc _, World.ownsRow_made w #[] 0 (Nat.le_refl _) (Nat.zero_le _) rfl, Only.of_new (below1 w _), fun p hp => by cases hp⟩
  clear hd
  go_enter Tryd.func91, Tryd.ntmps91
  go_wp2
  go_loopw [5, 6] (fun v i wr => ∃ (k : Nat) (L : List PutD), k ≤ n ∧ L.length ≤ k ∧ i = .int .i64 k ∧ Hid (TInv w wr P x cap l v L)) (fun _ i _ => n - (intOf i).toNat)
  case atStart => exact ⟨0, [], Nat.zero_le _, Nat.zero_le _, rfl, HI0⟩
  case round =>
    obtain ⟨k, L, hk, hL, rfl, HI⟩ := hrel
    clear HI0
    by_cases hlt2 : k < n
    · obtain ⟨xv, xc, hxv, _, _⟩ := own_rdF encP_len HI.out.own rfl
      subst hxv
      go_wp2_with fail
      refine (onceO P x cap l 3 _ HI.out.drw (by omega) (by omega)).mono ?_
      rintro e w1 ⟨q, rfl, hd1, hon1⟩
      have HI1 : Hid (TInv w w1 P x cap l (.slice xv L.length xc) L) := HI.out.step hlt hd1 hon1
      clear HI hd1 hon1
      have HADD : Hid (∀ s w2, s.size ≤ 5 → TInv w w2 P x cap l (.slice xv L.length xc) L → TInv w (w2.alloc (.cells #[.int .i64 (k : Int), .string s] 39)) P x cap l (.slice xv L.length xc) L ∧ Src Tryd.prog 2 25 (.slice (some ⟨w2.heap.size, 0, none⟩) 1 1) 1 [.int .i64 (k : Int), .string s] (w2.alloc (.cells #[.int .i64 (k : Int), .string s] 39))) := by
        intro s w2 hs h
        refine ⟨h.new (below1 w2 _), ?_⟩
        have hx : RdF encP 2 (w2.alloc (.cells #[.int .i64 (k : Int), .string s] 39)) (some ⟨w2.heap.size, 0, none⟩) [((k : Int), s)] := by
          refine .inr ⟨w2.heap.size, 0, rfl, (Var.made w2 #[.int .i64 (k : Int), .string s] 39).lt, fun i hi j hj => ?_⟩
          simp at hi
          subst hi
          rw [show 0 + 0 * 2 + j = j by omega, (Var.made w2 #[.int .i64 (k : Int), .string s] 39).cell j]
          rcases (show j = 0 ∨ j = 1 by omega) with rfl | rfl <;> rfl
        exact src_puts 1 hx
      have hks : IntKind.i64.wrap ((n : Int) - 1) = (n : Int) - 1 := by rw [IntKind.wrap_i64]; omega
      cases q with
      | true =>
        go_wp2_with fail
        refine (dataO P x cap l _ HI1.out.drw).mono ?_
        rintro e w2 ⟨s, rfl, hs5, hd2, hon2⟩
        obtain ⟨h3, HS3⟩ := HADD.out s w2 hs5 (HI1.out.step hlt hd2 hon2)
        have HI3 : Hid (TInv w (w2.alloc (.cells #[.int .i64 (k : Int), .string s] 39)) P x cap l (.slice xv L.length xc) L) := h3
        have ho3 := h3.own
        have hsz : w.heap.size ≤ (w2.alloc (.cells #[.int .i64 (k : Int), .string s] 39)).heap.size := h3.only.size
        have HS4 : Hid (Src Tryd.prog 2 25 (.slice (some ⟨w2.heap.size, 0, none⟩) 1 1) 1 [.int .i64 (k : Int), .string s] (w2.alloc (.cells #[.int .i64 (k : Int), .string s] 39))) := HS3
        clear h3 HS3 hd2 hon2 HI1 HADD
        go_wp2_with (at_builtin; refine wpList_append_own_src _ rfl (.tmp 26) (.tmp 31) 25 25 rfl w.heap.size 39 i0 (.agg #[.int .i64 0, .string ⟨#[]⟩]) 2 24 Tryd.underlying25 hi hz0 hz1 hz2 rfl _ _ _ rfl ho3 _ 1 [.int .i64 (k : Int), .string s] rfl HS4.out (by unfold maxLen; omega) (by omega) hsz ?_)
        intro v5 w5 ho5 hg5
        have HI5 : Hid (TInv w w5 P x cap l v5 (L ++ [((k : Int), s)])) := HI3.out.more hlt hs5 ho5 hg5
        have HL5 : Hid ((L ++ [((k : Int), s)]).length ≤ k + 1) := by show _ ≤ _; simp; omega
        clear ho5 hg5 HI3 HS4 ho3 hsz
        go_wp2
        go_roundw
        case rel => exact ⟨k + 1, _, by omega, HL5.out, by go_num, HI5⟩
        case measure => simp [intOf]; omega
      | false =>
        by_cases hlast : (k : Int) = (n : Int) - 1 ∧ L.length = 0
        · obtain ⟨hl1, hl2⟩ := hlast
          have hl3 : ((L.length : Nat) : Int) = 0 := by omega
          have HL0 : Hid (L.length = 0) := hl2
          have HL1 : Hid ((k : Int) = (n : Int) - 1) := hl1
          have hb1 : ((k : Int) == (n : Int) - 1) = true := by simpa using hl1
          have hb2 : (((L.length : Nat) : Int) == 0) = true := by simpa using hl3
          clear hl1 hl2 hl3
          go_wp2_with fail
          refine (dataO P x cap l _ HI1.out.drw).mono ?_
          rintro e w2 ⟨s, rfl, hs5, hd2, hon2⟩
          obtain ⟨h3, HS3⟩ := HADD.out s w2 hs5 (HI1.out.step hlt hd2 hon2)
          have HI3 : Hid (TInv w (w2.alloc (.cells #[.int .i64 (k : Int), .string s] 39)) P x cap l (.slice xv L.length xc) L) := h3
          have ho3 := h3.own
          have hsz : w.heap.size ≤ (w2.alloc (.cells #[.int .i64 (k : Int), .string s] 39)).heap.size := h3.only.size
          have HS4 : Hid (Src Tryd.prog 2 25 (.slice (some ⟨w2.heap.size, 0, none⟩) 1 1) 1 [.int .i64 (k : Int), .string s] (w2.alloc (.cells #[.int .i64 (k : Int), .string s] 39))) := HS3
          clear h3 HS3 hd2 hon2 HI1 HADD
          go_wp2_with (at_builtin; refine wpList_append_own_src _ rfl (.tmp 26) (.tmp 31) 25 25 rfl w.heap.size 39 i0 (.agg #[.int .i64 0, .string ⟨#[]⟩]) 2 24 Tryd.underlying25 hi hz0 hz1 hz2 rfl _ _ _ rfl ho3 _ 1 [.int .i64 (k : Int), .string s] rfl HS4.out (by unfold maxLen; omega) (by omega) hsz ?_)
          intro v5 w5 ho5 hg5
          have HI5 : Hid (TInv w w5 P x cap l v5 (L ++ [((k : Int), s)])) := HI3.out.more hlt hs5 ho5 hg5
          have HL5 : Hid ((L ++ [((k : Int), s)]).length ≤ k + 1) := by show _ ≤ _; simp; omega
          clear ho5 hg5 HI3 HS4 ho3 hsz
          go_wp2
          go_roundw
          case rel => exact ⟨k + 1, _, by omega, HL5.out, by go_num, HI5⟩
          case measure => simp [intOf]; omega
        · have HN : Hid (TInv w w1 P x cap l (.slice xv L.length xc) L) := HI1.out
          clear HI1 HADD
          by_cases hl1 : (k : Int) = (n : Int) - 1
          · have hl2 : ¬ L.length = 0 := fun h => hlast ⟨hl1, h⟩
            have hl3 : ¬ ((L.length : Nat) : Int) = 0 := by omega
            have hb1 : ((k : Int) == (n : Int) - 1) = true := by simpa using hl1
            have hb2 : (((L.length : Nat) : Int) == 0) = false := by simpa using hl3
            clear hlast
            go_wp2
            go_roundw
            case rel => exact ⟨k + 1, L, by omega, by omega, by go_num, HN⟩
            case measure => simp [intOf]; omega
          · have hb1 : ((k : Int) == (n : Int) - 1) = false := by simpa using hl1
            clear hlast
            go_wp2
            go_roundw
            case rel => exact ⟨k + 1, L, by omega, by omega, by go_num, HN⟩
            case measure => simp [intOf]; omega
    · obtain rfl : k = n := by omega
      go_wp2
      go_ret
      exact ⟨_, L, rfl, HI.out, hL⟩

/-- What is known while a disk is drawn: the cursor, the result's place, the variable d, the disk. -/
structure DInv (w W : World) (P : Nat) (x : Option Addr) (cap : Nat) (l : List Int) (Q : Nat) (a b : Option Addr) (c e : Nat) (d : DiskD) : Prop where
  drw : Drw W P x cap l
  res : Var W w.heap.size #[.slice none 0 0, .slice none 0 0] 27
  var : Var W Q #[.slice a d.1.length c, .slice b d.2.length e] 27
  own : OwnD W (w.heap.size + 1) (.agg #[.slice a d.1.length c, .slice b d.2.length e]) d
  only : OnlyP P w W
section
variable {w W W' : World} {P : Nat} {x : Option Addr} {cap : Nat} {l : List Int} {Q : Nat} {a b : Option Addr} {c e : Nat} {d : DiskD}
theorem DInv.step (h : DInv w W P x cap l Q a b c e d) (hP : P < w.heap.size) (hQ : w.heap.size < Q) (hd : Drw W' P x cap l) (ho : OnlyP P W W') : DInv w W' P x cap l Q a b c e d :=
  ⟨hd, h.res.onlyP ho (by omega), h.var.onlyP ho (by omega), h.own.onlyP ho (by omega), h.only.trans ho⟩
theorem DInv.new (h : DInv w W P x cap l Q a b c e d) (hb : Below W.heap.size W W') : DInv w W' P x cap l Q a b c e d :=
  ⟨h.drw.far hb h.drw.lt, h.res.new hb, h.var.new hb, h.own.below hb, h.only.trans (Only.of_new hb)⟩
theorem DInv.gs {g : Nat} (h : DInv w W P x cap l Q (some ⟨g, 0, none⟩) b c e d) : w.heap.size + 1 ≤ g ∧ g < W.heap.size ∧ g ≠ Q ∧ ∀ k, (Value.slice b d.2.length e).ownBlock = some k → k ≠ g := by
  obtain ⟨v1, v2, he, o1, o2⟩ := h.own
  cases he
  have h1 := o1.lt g rfl
  exact ⟨h1.1, h1.2, fun he => own_var o1 h.var (by decide) (by rw [← he]; rfl), fun k hk he => own_apart o2 o1 (by decide) k hk (by rw [he]; rfl)⟩
theorem DInv.sector {g : Nat} (h : DInv w W P x cap l Q (some ⟨g, 0, none⟩) b c e d) (hP : P < w.heap.size) (j : Nat) (s : ByteArray) : DInv w (W.setCell ⟨g, j, none⟩ (.string s)) P x cap l Q (some ⟨g, 0, none⟩) b c e (d.1.set j s, d.2) := by
  obtain ⟨g1, g2, g3, g4⟩ := h.gs
  have hoo : Only (fun k => k = g) W (W.setCell ⟨g, j, none⟩ (.string s)) := Only.setCell (S := fun k => k = g) (Only.refl _ _) (p := ⟨g, j, none⟩) rfl _
  obtain ⟨v1, v2, he, o1, o2⟩ := h.own
  cases he
  have hst := (o1.stored j (.string s)).1
  rw [← List.map_set] at hst
  refine ⟨h.drw.only hoo (fun k hk e => by omega), h.res.only hoo (fun e => by omega), ?_, ⟨_, _, rfl, ?_, own_only o2 hoo (fun k hk e => g4 k hk e)⟩, h.only.trans' (hoo.mono fun k _ e => by omega)⟩
  · show Var _ _ #[.slice _ (d.1.set j s).length _, _] _
    rw [List.length_set]
    exact h.var.only hoo (fun e => g3 e.symm)
  · show World.ownsRow _ _ _ _ (.slice _ (d.1.set j s).length _) (d.1.set j s).length _
    rw [List.length_set]
    exact hst
theorem DInv.cellS {g : Nat} (h : DInv w W P x cap l Q (some ⟨g, 0, none⟩) b c e d) {j : Nat} (hj : j < d.1.length) : W.cell? ⟨g, j, none⟩ = some (.string (d.1.getD j ⟨#[]⟩)) ∧ W.frozen? ⟨g, j, none⟩ = false := by
  obtain ⟨v1, v2, he, o1, o2⟩ := h.own
  cases he
  refine ⟨?_, o1.frozenAt j⟩
  rw [o1.cellAt j (by omega)]
  simp [List.getD, hj]
theorem DInv.put {a' b' : Option Addr} {c' e' : Nat} {d' : DiskD} (h : DInv w W P x cap l Q a b c e d) (hP : P < w.heap.size) (hQ : w.heap.size < Q) (hb : Below W.heap.size W W') (ho : OwnD W' W.heap.size (.agg #[.slice a' d'.1.length c', .slice b' d'.2.length e']) d') :
    DInv w ((W'.setCell ⟨Q, 0, none⟩ (.slice a' d'.1.length c')).setCell ⟨Q, 1, none⟩ (.slice b' d'.2.length e')) P x cap l Q a' b' c' e' d' ∧ W'.cell? ⟨Q, 0, none⟩ = some (.slice a d.1.length c) ∧ (W'.setCell ⟨Q, 0, none⟩ (.slice a' d'.1.length c')).cell? ⟨Q, 1, none⟩ = some (.slice b d.2.length e) ∧ W'.frozen? ⟨Q, 0, none⟩ = false ∧ W'.frozen? ⟨Q, 1, none⟩ = false := by
  have hn := h.new hb
  have hV := hn.var
  have hlt := h.res.lt
  have hoo : Only (fun k => k = Q) W' ((W'.setCell ⟨Q, 0, none⟩ (.slice a' d'.1.length c')).setCell ⟨Q, 1, none⟩ (.slice b' d'.2.length e')) := Only.setCell (S := fun k => k = Q) (Only.setCell (S := fun k => k = Q) (Only.refl _ _) (p := ⟨Q, 0, none⟩) rfl _) (p := ⟨Q, 1, none⟩) rfl _
  exact ⟨⟨hn.drw.only hoo (fun k hk e => by omega), hn.res.only hoo (fun e => by omega), hV.two _ _, ((ho.setVar hV 0 _).setVar (hV.set 0 _) 1 _).base (by omega), hn.only.trans' (hoo.mono fun k _ e => by omega)⟩, hV.cell 0, (hV.set 0 _).cell 1, hV.frozen 0, hV.frozen 1⟩
end
end Go.Proofs.YtlidmnehpcodkaaDoor
