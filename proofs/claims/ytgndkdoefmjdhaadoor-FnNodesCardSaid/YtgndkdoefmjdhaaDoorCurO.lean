/-
  Own text: what is drawn, with what a draw leaves alone: every block but the cursor's.
-/
import Derived.Test.YtgndkdoefmjdhaaDoorCurW
import Derived.Test.YtgndkdoefmjdhaaDoorRowC
namespace Go.Proofs.YtgndkdoefmjdhaaDoor
open Go.RowKit

/-- Nothing that was there has turned but the cursor. -/
abbrev OnlyP (P : Nat) (w w' : World) : Prop := Only (fun k => k = P) w w'
theorem onlyP_grown {P : Nat} {w w' : World} (h : w.grownBy w' (some P)) : OnlyP P w w' := (Only.of_grown h).mono fun _ _ hk => (Option.some.inj hk).symm
theorem OnlyP.below {P : Nat} {w w' : World} (h : OnlyP P w w') (hP : P < w.heap.size) : Below P w w' := Only.below h (by omega) (fun k hk => by omega)
theorem OnlyP.belowB {P B : Nat} {w w' : World} (h : OnlyP P w w') (hB : B ≤ w.heap.size) (hP : B ≤ P) : Below B w w' := Only.below h hB (fun k hk => by omega)
theorem Var.onlyP {P : Nat} {w w' : World} {Q : Nat} {C : Array Value} {t : TypeId} (h : Var w Q C t) (ho : OnlyP P w w') (hne : Q ≠ P) : Var w' Q C t := h.only ho hne

theorem belowO (P : Nat) (x : Option Addr) (cap : Nat) (l : List Int) (n : Nat) (w : World) (hd : Drw w P x cap l) (hn : 1 ≤ n) (hn2 : n ≤ 256) :
    Calls Tryd.prog 24 #[.pointer (some ⟨P, 0, none⟩), .int .i64 n] w fun e w' => ∃ r : Nat, e = .returned (.int .i64 r) ∧ r < n ∧ Drw w' P x cap l ∧ OnlyP P w w' := by
  refine (belowD P x cap l n w hd hn hn2).mono ?_
  rintro e w' ⟨r, rfl, hr, hd', hg⟩
  exact ⟨r, rfl, hr, hd', onlyP_grown hg⟩
theorem byteO (P : Nat) (x : Option Addr) (cap : Nat) (l : List Int) (w : World) (hd : Drw w P x cap l) :
    Calls Tryd.prog 25 #[.pointer (some ⟨P, 0, none⟩)] w fun e w' => ∃ r : Nat, e = .returned (.int .i64 r) ∧ r < 256 ∧ Drw w' P x cap l ∧ OnlyP P w w' := by
  obtain ⟨h1, h2, h3, h4, i, hh, hi, hc⟩ := id hd
  refine (byteCur P x cap l i hh w h1 h2 h3 hi h4 hc).mono ?_
  rintro e w1 ⟨r, i', h', rfl, hr, hi', hc1, hg1⟩
  exact ⟨r, rfl, hr, hd.step (below_grownP hg1 hd.lt) hi' hc1, onlyP_grown hg1⟩
theorem pickIntO (P Q : Nat) (x : Option Addr) (cap : Nat) (l : List Int) (L : List Int) (w : World) (hd : Drw w P x cap l) (n : Nat) (hLn : L.length = n) (hn : 1 ≤ n) (hn2 : n ≤ 256)
    (hQ : Q ≠ P) (hL : ∀ j, j < L.length → w.cell? ⟨Q, j, none⟩ = some (.int .i64 (L.getD j 0))) :
    Calls Tryd.prog 38 #[.pointer (some ⟨P, 0, none⟩), .slice (some ⟨Q, 0, none⟩) n n] w fun e w' => ∃ m ∈ L, e = .returned (.int .i64 m) ∧ Drw w' P x cap l ∧ OnlyP P w w' := by
  obtain ⟨h1, h2, h3, h4, i, hh, hi, hc⟩ := id hd
  refine (pickInt P Q x cap l i hh L w h1 h2 h3 hi h4 hc n hLn hn hn2 hQ hL).mono ?_
  rintro e w1 ⟨r, i', h', hr, rfl, hi', hc1, hg1⟩
  refine ⟨L.getD r 0, ?_, rfl, hd.step (below_grownP hg1 hd.lt) hi' hc1, onlyP_grown hg1⟩
  have e : L.getD r 0 = L[r] := by simp [List.getD, hr]
  rw [e]; exact List.getElem_mem hr
/-- A step that turns what is new since w alone, behind one that left all but S alone. -/
theorem Only.trans' {S : Nat → Prop} {w w1 w2 : World} (h : Only S w w1) (k : Only (fun j => w.heap.size ≤ j) w1 w2) : Only S w w2 :=
  ⟨k.os.trans h.os, k.tape.trans h.tape, k.output.trans h.output, Nat.le_trans h.size k.size, fun i hi hs => (k.block i (Nat.lt_of_lt_of_le hi h.size) (by omega)).trans (h.block i hi hs)⟩
/-- The cursor behind what makes new memory, or writes into rows of one's own. -/
theorem Drw.only {S : Nat → Prop} {w w' : World} {P : Nat} {x : Option Addr} {cap : Nat} {l : List Int} (h : Drw w P x cap l) (ho : Only S w w') (hs : ∀ k, k ≤ P → ¬ S k) : Drw w' P x cap l :=
  h.far (B := P + 1) (ho.below (by have := h.lt; omega) (fun k hk => by
    refine Nat.lt_of_not_le fun hle => hs k hle hk)) (by omega)

end Go.Proofs.YtgndkdoefmjdhaaDoor
