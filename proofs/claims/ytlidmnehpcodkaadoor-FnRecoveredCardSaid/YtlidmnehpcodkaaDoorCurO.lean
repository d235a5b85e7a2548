/-
  Own text: what is drawn, with what a draw leaves alone: every block but the cursor's.
-/
import Derived.Test.YtlidmnehpcodkaaDoorCurW
import Derived.Test.YtlidmnehpcodkaaDoorBunA
namespace Go.Proofs.YtlidmnehpcodkaaDoor
open Go.RowKit

/-- Nothing that was there has turned but the cursor. -/
abbrev OnlyP (P : Nat) (w w' : World) : Prop := Only (fun k => k = P) w w'
theorem onlyP_grown {P : Nat} {w w' : World} (h : w.grownBy w' (some P)) : OnlyP P w w' := (Only.of_grown h).mono fun _ _ hk => (Option.some.inj hk).symm
theorem OnlyP.below {P : Nat} {w w' : World} (h : OnlyP P w w') (hP : P < w.heap.size) : Below P w w' := Only.below h (by omega) (fun k hk => by omega)
theorem OnlyP.belowB {P B : Nat} {w w' : World} (h : OnlyP P w w') (hB : B ≤ w.heap.size) (hP : B ≤ P) : Below B w w' := Only.below h hB (fun k hk => by omega)
theorem Var.onlyP {P : Nat} {w w' : World} {Q : Nat} {C : Array Value} {t : TypeId} (h : Var w Q C t) (ho : OnlyP P w w') (hne : Q ≠ P) : Var w' Q C t := h.only ho hne

theorem belowO (P : Nat) (x : Option Addr) (cap : Nat) (l : List Int) (n : Nat) (w : World) (hd : Drw w P x cap l) (hn : 1 ≤ n) (hn2 : n ≤ 256) :
    Calls Tryd.prog 40 #[.pointer (some ⟨P, 0, none⟩), .int .i64 n] w fun e w' => ∃ r : Nat, e = .returned (.int .i64 r) ∧ r < n ∧ Drw w' P x cap l ∧ OnlyP P w w' := by
  refine (belowD P x cap l n w hd hn hn2).mono ?_
  rintro e w' ⟨r, rfl, hr, hd', hg⟩
  exact ⟨r, rfl, hr, hd', onlyP_grown hg⟩
theorem byteO (P : Nat) (x : Option Addr) (cap : Nat) (l : List Int) (w : World) (hd : Drw w P x cap l) :
    Calls Tryd.prog 93 #[.pointer (some ⟨P, 0, none⟩)] w fun e w' => ∃ r : Nat, e = .returned (.int .i64 r) ∧ r < 256 ∧ Drw w' P x cap l ∧ OnlyP P w w' := by
  obtain ⟨h1, h2, h3, h4, i, hh, hi, hc⟩ := id hd
  refine (byteCur P x cap l i hh w h1 h2 h3 hi h4 hc).mono ?_
  rintro e w1 ⟨r, i', h', rfl, hr, hi', hc1, hg1⟩
  exact ⟨r, rfl, hr, hd.step (below_grownP hg1 hd.lt) hi' hc1, onlyP_grown hg1⟩
theorem onceO (P : Nat) (x : Option Addr) (cap : Nat) (l : List Int) (n : Nat) (w : World) (hd : Drw w P x cap l) (hn : 1 ≤ n) (hn2 : n ≤ 256) :
    Calls Tryd.prog 90 #[.pointer (some ⟨P, 0, none⟩), .int .i64 n] w fun e w' => ∃ q : Bool, e = .returned (.bool q) ∧ Drw w' P x cap l ∧ OnlyP P w w' := by
  refine (onceD P x cap l n w hd hn hn2).mono ?_
  rintro e w' ⟨q, rfl, hd', hg⟩
  exact ⟨q, rfl, hd', onlyP_grown hg⟩
theorem pickO (P Q : Nat) (x : Option Addr) (cap : Nat) (l : List Int) (L : List ByteArray) (w : World) (hd : Drw w P x cap l) (n : Nat) (hLn : L.length = n) (hn : 1 ≤ n) (hn2 : n ≤ 256)
    (hQ : Q ≠ P) (hL : ∀ j, j < L.length → w.cell? ⟨Q, j, none⟩ = some (.string (L.getD j ⟨#[]⟩))) :
    Calls Tryd.prog 114 #[.pointer (some ⟨P, 0, none⟩), .slice (some ⟨Q, 0, none⟩) n n] w fun e w' => ∃ s ∈ L, e = .returned (.string s) ∧ Drw w' P x cap l ∧ OnlyP P w w' := by
  refine (pickD P Q x cap l L w hd n hLn hn hn2 hQ hL).mono ?_
  rintro e w' ⟨s, hs, rfl, hd', hg⟩
  exact ⟨s, hs, rfl, hd', onlyP_grown hg⟩
theorem pickIntO (P Q : Nat) (x : Option Addr) (cap : Nat) (l : List Int) (L : List Int) (w : World) (hd : Drw w P x cap l) (n : Nat) (hLn : L.length = n) (hn : 1 ≤ n) (hn2 : n ≤ 256)
    (hQ : Q ≠ P) (hL : ∀ j, j < L.length → w.cell? ⟨Q, j, none⟩ = some (.int .i64 (L.getD j 0))) :
    Calls Tryd.prog 42 #[.pointer (some ⟨P, 0, none⟩), .slice (some ⟨Q, 0, none⟩) n n] w fun e w' => ∃ m ∈ L, e = .returned (.int .i64 m) ∧ Drw w' P x cap l ∧ OnlyP P w w' := by
  obtain ⟨h1, h2, h3, h4, i, hh, hi, hc⟩ := id hd
  refine (pickInt P Q x cap l i hh L w h1 h2 h3 hi h4 hc n hLn hn hn2 hQ hL).mono ?_
  rintro e w1 ⟨r, i', h', hr, rfl, hi', hc1, hg1⟩
  refine ⟨L.getD r 0, ?_, rfl, hd.step (below_grownP hg1 hd.lt) hi' hc1, onlyP_grown hg1⟩
  have e : L.getD r 0 = L[r] := by simp [List.getD, hr]
  rw [e]; exact List.getElem_mem hr
/-- A step that turns what is new since w alone, behind one that left all but S alone. -/
theorem Only.trans' {S : Nat → Prop} {w w1 w2 : World} (h : Only S w w1) (k : Only (fun j => w.heap.size ≤ j) w1 w2) : Only S w w2 :=
  ⟨k.os.trans h.os, k.tape.trans h.tape, k.output.trans h.output, Nat.le_trans h.size k.size, fun i hi hs => (k.block i (Nat.lt_of_lt_of_le hi h.size) (by omega)).trans (h.block i hi hs)⟩
/-- The cursor behind what makes new memory, or writes into rows of one's own. -/
theorem Drw.only {S : Nat → Prop} {w w' : World} {P : Nat} {x : Option Addr} {cap : Nat} {l : List Int} (h : Drw w P x cap l) (ho : Only S w w') (hs : ∀ k, k ≤ P → ¬ S k) : Drw w' P x cap l :=
  h.far (B := P + 1) (ho.below (by have := h.lt; omega) (fun k hk => by
    refine Nat.lt_of_not_le fun hle => hs k hle hk)) (by omega)

theorem Tryd.infoU8 : (Tryd.prog.info? 5).map (fun i => (i.zero, i.size, i.bytes)) = some (some (.int .u8 0), 1, 1) := by kernel_rfl

set_option maxRecDepth 20000 in
set_option maxHeartbeats 400000 in
theorem bytesO (P : Nat) (x : Option Addr) (cap : Nat) (l : List Int) (n : Nat) (w : World) (hd : Drw w P x cap l) (hn : n ≤ 1000) :
    Calls Tryd.prog 115 #[.pointer (some ⟨P, 0, none⟩), .int .i64 n] w fun e w' => ∃ (v : Value) (m : List UInt8), e = .returned v ∧ m.length = n ∧ w'.ownsRow w.heap.size 5 1 v n (m.map fun b => Value.int .u8 b.toNat) ∧ Drw w' P x cap l ∧ OnlyP P w w' := by
  obtain ⟨i0, hi, hz0, hz1, hz2⟩ := info_parts Tryd.infoU8
  have hlt := hd.lt
  have hd0 : Drw (w.alloc (.cells #[] 5)) P x cap l := hd.alloc _
  have ho0 : (w.alloc (.cells #[] 5)).ownsRow w.heap.size 5 1 (.slice (some ⟨w.heap.size, 0, none⟩) 0 0) 0 [] := World.ownsRow_made w #[] 0 (Nat.le_refl _) (Nat.zero_le _) rfl
  have hb0 : OnlyP P w (w.alloc (.cells #[] 5)) := Only.of_new (below1 w _)
  have HD0 : Hid (Drw (w.alloc (.cells #[] 5)) P x cap l) := hd0
  clear hd hd0
  go_enter Tryd.func115, Tryd.ntmps115
  go_wp2
  go_loopw [5, 6] (fun v i wr => ∃ (k : Nat) (m : List UInt8), k ≤ n ∧ m.length = k ∧ i = .int .i64 k ∧ wr.ownsRow w.heap.size 5 1 v k (m.map fun b => Value.int .u8 b.toNat) ∧ Hid (Drw wr P x cap l) ∧ OnlyP P w wr) (fun _ i _ => n - (intOf i).toNat)
  case atStart => exact ⟨0, [], Nat.zero_le _, rfl, rfl, ho0, HD0, hb0⟩
  case round =>
    obtain ⟨k, m, hk, hm, rfl, hown, HD, hbel⟩ := hrel
    clear ho0 hb0 HD0
    by_cases hlt2 : k < n
    · go_wp2_with fail
      refine (byteO P x cap l _ HD.out).mono ?_
      rintro e w1 ⟨r, rfl, hr, hd1, hb1⟩
      have ho1 := own_only hown hb1 (fun j hj => by have := (hown.lt j hj).1; omega)
      have hbel1 := hbel.trans hb1
      have HD1 : Hid (Drw w1 P x cap l) := hd1
      have hcv : (convert 3 5 (.int .i64 (r : Int))).run Tryd.prog w1 = .ok (.int .u8 (((UInt8.ofNat r).toNat : Nat) : Int)) w1 := by
        have e1 : (UInt8.ofNat r).toNat = r := by rw [UInt8.toNat_ofNat']; omega
        rw [e1]
        go_simp
        rw [IntKind.wrap_u8 (r : Int)]
        omega
      clear hd1 hown hbel hb1
      have hlt1 := HD1.out.lt
      generalize UInt8.ofNat r = b at *
      go_wp2_with (at_builtin; refine wpList_append_own _ rfl _ _ 22 rfl w.heap.size 5 i0 (.int .u8 0) 1 1 Tryd.underlying22 hi hz0 hz1 hz2 rfl (by decide) _ _ _ rfl (ho1.alloc _) ⟨w1.heap.size, 0, none⟩ 1 1 [.int .u8 b.toNat] rfl rfl ?c1 ?c2 ?c3 ?c4 ?c5 ?_)
      case c1 =>
        intro j u hj
        match j, hj with
        | 0, hj => simp at hj; subst hj; simp [Addr.add]
      case c2 => intro u hu; simp at hu; subst hu; rfl
      case c3 => unfold maxLen; omega
      case c4 => omega
      case c5 => have := hbel1.size; simp; omega
      intro v' w2 hown' hgrow _
      have hon2 : Only (fun j => w.heap.size ≤ j) w1 w2 := ((Only.of_new (below1 w1 _)).trans ((Only.of_grown hgrow).mono fun j _ hj => (ho1.lt j hj).1))
      have hbel2 : OnlyP P w w2 := hbel1.trans' hon2
      have HD2 : Hid (Drw w2 P x cap l) := HD1.out.only hon2 (fun j hj h => by omega)
      have ho2 : w2.ownsRow w.heap.size 5 1 v' (k + 1) ((m ++ [b]).map fun b => Value.int .u8 b.toNat) := by simpa using hown'
      have hm2 : (m ++ [b]).length = k + 1 := by simp [hm]
      clear hgrow ho1 hbel1 hown' hon2
      generalize m ++ [b] = m2 at *
      go_wp2
      go_roundw
      case rel => exact ⟨k + 1, m2, by omega, hm2, by go_num, ho2, HD2, hbel2⟩
      case measure => simp [intOf]; omega
    · obtain rfl : k = n := by omega
      go_wp2
      go_ret
      exact ⟨_, m, rfl, hm, hown, HD.out, hbel⟩
end Go.Proofs.YtlidmnehpcodkaaDoor
