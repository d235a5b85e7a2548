/-
  Own text: what FnRecovered and FnAtomic draw: a disk and a number.
-/
import Derived.Test.YtlidmnehpcodkaaDoorDDkW
import Derived.Deep.Cut
set_option linter.unusedVariables false
namespace Go.Proofs.YtlidmnehpcodkaaDoor
open Go.RowKit

/-- What is known while a disk is drawn by a cursor of the call's own. -/
structure FInv (w W : World) (lo P : Nat) (x : Option Addr) (cap : Nat) (l : List Int) (Q : Nat) (a b : Option Addr) (c e : Nat) (d : DiskD) : Prop where
  drw : Drw W P x cap l
  res : Var W w.heap.size #[.slice none 0 0, .slice none 0 0] 27
  var : Var W Q #[.slice a d.1.length c, .slice b d.2.length e] 27
  own : OwnD W lo (.agg #[.slice a d.1.length c, .slice b d.2.length e]) d
  below : Below w.heap.size w W
section
variable {w W W' : World} {lo P : Nat} {x : Option Addr} {cap : Nat} {l : List Int} {Q : Nat} {a b : Option Addr} {c e : Nat} {d : DiskD}
theorem FInv.step (h : FInv w W lo P x cap l Q a b c e d) (h1 : w.heap.size < P) (h2 : P < lo) (h3 : lo ≤ Q) (hd : Drw W' P x cap l) (ho : OnlyP P W W') : FInv w W' lo P x cap l Q a b c e d :=
  ⟨hd, h.res.onlyP ho (by omega), h.var.onlyP ho (by omega), h.own.onlyP ho (by omega), h.below.trans (OnlyP.belowB ho h.below.size (by omega))⟩
theorem FInv.sector {g : Nat} (h : FInv w W lo P x cap l Q (some ⟨g, 0, none⟩) b c e d) (h1 : w.heap.size < P) (h2 : P < lo) (h3 : lo ≤ Q) (j : Nat) (s : ByteArray) : FInv w (W.setCell ⟨g, j, none⟩ (.string s)) lo P x cap l Q (some ⟨g, 0, none⟩) b c e (d.1.set j s, d.2) := by
  obtain ⟨v1, v2, he, o1, o2⟩ := h.own
  cases he
  have hg := o1.lt g rfl
  have g3 : g ≠ Q := fun he => own_var o1 h.var (by decide) (by rw [← he]; rfl)
  have hoo : Only (fun k => k = g) W (W.setCell ⟨g, j, none⟩ (.string s)) := Only.setCell (S := fun k => k = g) (Only.refl _ _) (p := ⟨g, j, none⟩) rfl _
  have hst := (o1.stored j (.string s)).1
  rw [← List.map_set] at hst
  refine ⟨h.drw.only hoo (fun k hk e => by omega), h.res.only hoo (fun e => by omega), ?_, ⟨_, _, rfl, ?_, own_only o2 hoo (fun k hk e => own_apart o2 o1 (by decide) k hk (by rw [e]; rfl))⟩, h.below.setCell (p := ⟨g, j, none⟩) (by show _ ≤ g; omega) _⟩
  · show Var _ _ #[.slice _ (d.1.set j s).length _, _] _
    rw [List.length_set]
    exact h.var.only hoo (fun e => g3 e.symm)
  · show World.ownsRow _ _ _ _ (.slice _ (d.1.set j s).length _) (d.1.set j s).length _
    rw [List.length_set]
    exact hst
theorem FInv.cellS {g : Nat} (h : FInv w W lo P x cap l Q (some ⟨g, 0, none⟩) b c e d) {j : Nat} (hj : j < d.1.length) : W.cell? ⟨g, j, none⟩ = some (.string (d.1.getD j ⟨#[]⟩)) ∧ W.frozen? ⟨g, j, none⟩ = false := by
  obtain ⟨v1, v2, he, o1, o2⟩ := h.own
  cases he
  refine ⟨?_, o1.frozenAt j⟩
  rw [o1.cellAt j (by omega)]
  simp [List.getD, hj]
theorem FInv.put {a' b' : Option Addr} {c' e' : Nat} {d' : DiskD} (h : FInv w W lo P x cap l Q a b c e d) (h1 : w.heap.size < P) (h2 : P < lo) (h3 : lo ≤ Q) (hl : lo ≤ W.heap.size) (hd : Drw W' P x cap l) (hon : OnlyP P W W') (ho : OwnD W' W.heap.size (.agg #[.slice a' d'.1.length c', .slice b' d'.2.length e']) d') :
    FInv w ((W'.setCell ⟨Q, 0, none⟩ (.slice a' d'.1.length c')).setCell ⟨Q, 1, none⟩ (.slice b' d'.2.length e')) lo P x cap l Q a' b' c' e' d' ∧ W'.cell? ⟨Q, 0, none⟩ = some (.slice a d.1.length c) ∧ (W'.setCell ⟨Q, 0, none⟩ (.slice a' d'.1.length c')).cell? ⟨Q, 1, none⟩ = some (.slice b d.2.length e) ∧ W'.frozen? ⟨Q, 0, none⟩ = false ∧ W'.frozen? ⟨Q, 1, none⟩ = false := by
  have hn := h.step h1 h2 h3 hd hon
  have hV := hn.var
  have hoo : Only (fun k => k = Q) W' ((W'.setCell ⟨Q, 0, none⟩ (.slice a' d'.1.length c')).setCell ⟨Q, 1, none⟩ (.slice b' d'.2.length e')) := Only.setCell (S := fun k => k = Q) (Only.setCell (S := fun k => k = Q) (Only.refl _ _) (p := ⟨Q, 0, none⟩) rfl _) (p := ⟨Q, 1, none⟩) rfl _
  exact ⟨⟨hn.drw.only hoo (fun k hk e => by omega), hn.res.only hoo (fun e => by omega), hV.two _ _, ((ho.setVar hV 0 _).setVar (hV.set 0 _) 1 _).base (by omega), (hn.below.setCell (p := ⟨Q, 0, none⟩) (by show _ ≤ Q; omega) _).setCell (p := ⟨Q, 1, none⟩) (by show _ ≤ Q; omega) _⟩, hV.cell 0, (hV.set 0 _).cell 1, hV.frozen 0, hV.frozen 1⟩
theorem FInv.fin (h : FInv w W lo P x cap l Q a b c e d) (h1 : w.heap.size < lo) :
    Var ((W.setCell ⟨w.heap.size, 0, none⟩ (.slice a d.1.length c)).setCell ⟨w.heap.size, 1, none⟩ (.slice b d.2.length e)) w.heap.size #[.slice a d.1.length c, .slice b d.2.length e] 27 ∧
    OwnD ((W.setCell ⟨w.heap.size, 0, none⟩ (.slice a d.1.length c)).setCell ⟨w.heap.size, 1, none⟩ (.slice b d.2.length e)) w.heap.size (.agg #[.slice a d.1.length c, .slice b d.2.length e]) d ∧
    Below w.heap.size w ((W.setCell ⟨w.heap.size, 0, none⟩ (.slice a d.1.length c)).setCell ⟨w.heap.size, 1, none⟩ (.slice b d.2.length e)) ∧
    W.cell? ⟨w.heap.size, 0, none⟩ = some (.slice none 0 0) ∧ (W.setCell ⟨w.heap.size, 0, none⟩ (.slice a d.1.length c)).cell? ⟨w.heap.size, 1, none⟩ = some (.slice none 0 0) ∧ W.frozen? ⟨w.heap.size, 0, none⟩ = false ∧ W.frozen? ⟨w.heap.size, 1, none⟩ = false := by
  have hR := h.res
  exact ⟨hR.two _ _, ((h.own.setVar hR 0 _).setVar (hR.set 0 _) 1 _).base (by omega), (h.below.setCell (p := ⟨w.heap.size, 0, none⟩) (Nat.le_refl _) _).setCell (p := ⟨w.heap.size, 1, none⟩) (Nat.le_refl _) _, hR.cell 0, (hR.set 0 _).cell 1, hR.frozen 0, hR.frozen 1⟩
end

/-- Where the number is none for a disk, the disk has not so many sectors. -/
def FitN (d : DiskD) (n : Int) : Prop := (1 ≤ n ∧ n ≤ 48) ∨ ((n = 0 ∨ n = -1 ∨ n = 49 ∨ n = 9223372036854775807) ∧ 3 ≤ d.1.length ∧ d.1.length ≤ 13)
/-- What is drawn: a disk and a number. -/
def RAns (w : World) (e : Ending) (w' : World) : Prop :=
  ∃ (v : Value) (d : DiskD) (n : Int), e = .returned (.tuple #[v, .int .i64 n]) ∧ OwnD w' w.heap.size v d ∧ d.1.length ≤ 121 ∧ d.2.length ≤ 401 ∧ SmD d ∧ FitN d n ∧ Below w.heap.size w w'

def badsL : List Int := [0, -1, 49, 9223372036854775807]

set_option maxRecDepth 20000 in
set_option maxHeartbeats 4000000 in
theorem drawRecover (x : Option Addr) (cap : Nat) (l : List Int) (w : World) (hl : l.length ≤ 1048576) (hu : U8 l) (hr : Rd .u8 w x l) :
    Calls Tryd.prog 9 #[.slice x l.length cap] w (RAns w) := by
  have HR : Hid (Rd .u8 (w.alloc (.cells #[.slice none 0 0, .slice none 0 0] 27)) x l) := hr.below (below1 w _) (Nat.le_refl _)
  have HU : Hid (U8 l) := hu
  clear hr hu
  go_enter Tryd.func9, Tryd.ntmps9
  go_wp2_with fail
  refine (newD x cap l _ hl HU.out HR.out).mono ?_
  rintro e w1 ⟨P, rfl, hP, hd1, hb1⟩
  have hP1 : w.heap.size < P := by have : w.heap.size + 1 ≤ P := by simpa using hP
                                   omega
  have HR1 : Hid (Var w1 w.heap.size #[.slice none 0 0, .slice none 0 0] 27) := (Var.made w _ _).new hb1
  have HB1 : Hid (Below w.heap.size w w1) := (below1 w _).trans (hb1.mono (by simp))
  have HD1 : Hid (Drw w1 P x cap l) := hd1
  have hlt1 := hd1.lt
  clear hd1 hb1 hP
  go_wp2_with fail
  refine (diskO P x cap l _ HD1.out).mono ?_
  rintro e w2 ⟨v2, d, n, rfl, hO2, hn1, hn2, hdl, hdp, hdk, hdr2, hon2⟩
  obtain ⟨a1, c1, b1, e1, rfl⟩ := hO2.shape
  obtain ⟨g, rfl⟩ : ∃ g, a1 = some ⟨g, 0, none⟩ := by
    obtain ⟨v1, v2, he, o1, _⟩ := hO2
    cases he
    rcases o1.2 with ⟨_, h0⟩ | ⟨g, c, cur, h0, _⟩
    · exfalso; have h0' : d.1.length = 0 := h0; omega
    · cases h0; exact ⟨g, rfl⟩
  have hs2 : w1.heap.size ≤ w2.heap.size := hon2.size
  have HI2 : Hid (FInv w (w2.alloc (.cells #[.slice (some ⟨g, 0, none⟩) d.1.length c1, .slice b1 d.2.length e1] 27)) w1.heap.size P x cap l w2.heap.size (some ⟨g, 0, none⟩) b1 c1 e1 d) := by
    have hB2 : Below w.heap.size w w2 := HB1.out.trans (OnlyP.belowB hon2 HB1.out.size (by omega))
    exact ⟨hdr2.alloc _, (HR1.out.onlyP hon2 (by omega)).alloc _, Var.made w2 _ _, hO2.below (below1 _ _), hB2.alloc hB2.size _⟩
  have HDK : Hid (dkOk d = true) := hdk
  have HDL : Hid (d.1.length = 2 * n + 1 ∧ d.2.length ≤ 400) := ⟨hdl, hdp⟩
  clear hO2 hdr2 hon2 HR1 HD1 HB1 hdk hdl hdp HR
  generalize hQ : w2.heap.size = Q at *
  generalize hlo : w1.heap.size = lo at *
  clear hlo
  go_wp2_with fail
  generalize w2.alloc (.cells #[.slice (some ⟨g, 0, none⟩) d.1.length c1, .slice b1 d.2.length e1] 27) = W2 at *
  refine (belowO P x cap l 10 _ HI2.out.drw (by omega) (by omega)).mono ?_
  rintro e w3 ⟨r, rfl, hr, hd3, hon3⟩
  have HI3 : Hid (FInv w w3 lo P x cap l Q (some ⟨g, 0, none⟩) b1 c1 e1 d) := HI2.out.step hP1 hlt1 hs2 hd3 hon3
  clear HI2 hd3 hon3
  by_cases h0 : r = 0
  · subst h0
    have hwn : IntKind.i64.wrap ((n : Int) + 1) = (n : Int) + 1 := by rw [IntKind.wrap_i64]; omega
    obtain ⟨f1, f2, f3, f4, f5, f6, f7⟩ := HI3.out.fin (by omega)
    have z0 : w3.cell? ⟨Q, 0, none⟩ = some (.slice (some ⟨g, 0, none⟩) d.1.length c1) := HI3.out.var.cell 0
    have z1 : w3.cell? ⟨Q, 1, none⟩ = some (.slice b1 d.2.length e1) := HI3.out.var.cell 1
    have HF : Hid (Var ((w3.setCell ⟨w.heap.size, 0, none⟩ (.slice (some ⟨g, 0, none⟩) d.1.length c1)).setCell ⟨w.heap.size, 1, none⟩ (.slice b1 d.2.length e1)) w.heap.size #[.slice (some ⟨g, 0, none⟩) d.1.length c1, .slice b1 d.2.length e1] 27) := f1
    have HG : Hid (OwnD ((w3.setCell ⟨w.heap.size, 0, none⟩ (.slice (some ⟨g, 0, none⟩) d.1.length c1)).setCell ⟨w.heap.size, 1, none⟩ (.slice b1 d.2.length e1)) w.heap.size (.agg #[.slice (some ⟨g, 0, none⟩) d.1.length c1, .slice b1 d.2.length e1]) d ∧ Below w.heap.size w ((w3.setCell ⟨w.heap.size, 0, none⟩ (.slice (some ⟨g, 0, none⟩) d.1.length c1)).setCell ⟨w.heap.size, 1, none⟩ (.slice b1 d.2.length e1))) := ⟨f2, f3⟩
    clear f1 f2 f3 HI3
    go_wp2
    refine bodyPost_ret (results_row_tmp rfl _ _ w.heap.size 27 #[.slice (some ⟨g, 0, none⟩) d.1.length c1, .slice b1 d.2.length e1] _ rfl HF.out Tryd.underlying27 rfl Tryd.sizeDisk) rfl ?_
    exact ⟨_, d, ((n : Int) + 1), rfl, HG.out.1, (by have := HDL.out; omega), (by have := HDL.out; omega), smD_ok HDK.out, .inl ⟨by omega, by omega⟩, HG.out.2⟩
  by_cases h1 : r = 1
  · subst h1
    go_wp2_with fail
    refine (drawO P x cap l _ HI3.out.drw).mono ?_
    rintro e w4 ⟨v4, d4, rfl, ho4, hd41, hd42, hd43, hsm4, hdr4, hon4⟩
    have HS4 : Hid (SmD d4 ∧ d4.1.length ≤ 121 ∧ d4.2.length ≤ 401) := ⟨hsm4, hd42, hd43⟩
    obtain ⟨a4, c4, b4, e4, rfl⟩ := ho4.shape
    obtain ⟨h5, k0, k1, k2, k3⟩ := HI3.out.put hP1 hlt1 hs2 (by have := HI3.out.var.lt; omega) hdr4 hon4 ho4
    have HI5 : Hid (FInv w ((w4.setCell ⟨Q, 0, none⟩ (.slice a4 d4.1.length c4)).setCell ⟨Q, 1, none⟩ (.slice b4 d4.2.length e4)) lo P x cap l Q a4 b4 c4 e4 d4) := h5
    clear h5 hsm4 hd41 hd42 hd43 hdr4 hon4 ho4 HI3
    go_upto_region 12 with fail
    generalize (w4.setCell ⟨Q, 0, none⟩ (.slice a4 d4.1.length c4)).setCell ⟨Q, 1, none⟩ (.slice b4 d4.2.length e4) = W5 at *
    obtain ⟨f1, f2, f3, f4, f5, f6, f7⟩ := HI5.out.fin (by omega)
    have z0 : W5.cell? ⟨Q, 0, none⟩ = some (.slice a4 d4.1.length c4) := HI5.out.var.cell 0
    have z1 : W5.cell? ⟨Q, 1, none⟩ = some (.slice b4 d4.2.length e4) := HI5.out.var.cell 1
    have HF : Hid (Var ((W5.setCell ⟨w.heap.size, 0, none⟩ (.slice a4 d4.1.length c4)).setCell ⟨w.heap.size, 1, none⟩ (.slice b4 d4.2.length e4)) w.heap.size #[.slice a4 d4.1.length c4, .slice b4 d4.2.length e4] 27) := f1
    have HG : Hid (OwnD ((W5.setCell ⟨w.heap.size, 0, none⟩ (.slice a4 d4.1.length c4)).setCell ⟨w.heap.size, 1, none⟩ (.slice b4 d4.2.length e4)) w.heap.size (.agg #[.slice a4 d4.1.length c4, .slice b4 d4.2.length e4]) d4 ∧ Below w.heap.size w ((W5.setCell ⟨w.heap.size, 0, none⟩ (.slice a4 d4.1.length c4)).setCell ⟨w.heap.size, 1, none⟩ (.slice b4 d4.2.length e4))) := ⟨f2, f3⟩
    clear f1 f2 f3 HI5
    go_wp2
    refine bodyPost_ret (results_row_tmp rfl _ _ w.heap.size 27 #[.slice a4 d4.1.length c4, .slice b4 d4.2.length e4] _ rfl HF.out Tryd.underlying27 rfl Tryd.sizeDisk) rfl ?_
    exact ⟨_, d4, (n : Int), rfl, HG.out.1, HS4.out.2.1, HS4.out.2.2, HS4.out.1, .inl ⟨by omega, by omega⟩, HG.out.2⟩
  by_cases h2 : r = 2
  · subst h2
    obtain ⟨t0, t1⟩ := HI3.out.cellS (j := 1) (by have := HDL.out; omega)
    have z0 : w3.drew.cell? ⟨Q, 0, none⟩ = some (.slice (some ⟨g, 0, none⟩) d.1.length c1) := HI3.out.var.cell 0
    have hsz : (d.1.getD 1 ⟨#[]⟩).size ≤ 90 := by
      have hx := HDL.out
      exact (dkOk_iff.1 HDK.out).2.2.1 _ (by simp [List.getD, show 1 < d.1.length by omega])
    generalize d.1.getD 1 ⟨#[]⟩ = s1 at *
    have h4 : FInv w w3.drew lo P x cap l Q (some ⟨g, 0, none⟩) b1 c1 e1 d := ⟨HI3.out.drw, HI3.out.res, HI3.out.var, HI3.out.own, HI3.out.below.drew⟩
    have h5 := h4.sector hP1 hlt1 hs2 1 (s1 ++ ⟨#[120]⟩)
    have hsz2 : s1.size ≤ 9223372036854775806 := by omega
    have HS5 : Hid (SmD (d.1.set 1 (s1 ++ ⟨#[120]⟩), d.2)) := by
      have h6 := smD_ok HDK.out
      refine ⟨h6.1.set 1 ?_, h6.2⟩
      have : (s1 ++ ⟨#[120]⟩ : ByteArray).size = s1.size + 1 := by simp [ByteArray.size_append]; rfl
      omega
    have HL5 : Hid ((d.1.set 1 (s1 ++ ⟨#[120]⟩)).length = d.1.length) := by show _ = _; simp
    have p5 : (w3.drew.setCell ⟨g, 1, none⟩ (.string (s1 ++ ⟨#[120]⟩))).cell? ⟨Q, 0, none⟩ = some (.slice (some ⟨g, 0, none⟩) d.1.length c1) := by
      have := h5.var.cell 0
      rw [show ((d.1.set 1 (s1 ++ ⟨#[120]⟩), d.2) : DiskD).1.length = d.1.length by simp] at this
      exact this
    have hd1 : (1 : Int) < (d.1.length : Int) := by have := HDL.out; omega
    have t2 : w3.drew.cell? ⟨g, 1, none⟩ = some (.string s1) := t0
    have t3 : w3.drew.frozen? ⟨g, 1, none⟩ = false := t1
    have HI5 : Hid (FInv w (w3.setCell ⟨g, 1, none⟩ (.string (s1 ++ ⟨#[120]⟩))).drew lo P x cap l Q (some ⟨g, 0, none⟩) b1 c1 e1 (d.1.set 1 (s1 ++ ⟨#[120]⟩), d.2)) := h5
    clear h5 HI3 h4
    go_wp2
    refine wp_region_noPanic ?_
    refine wp_region_held_drew (S := fun W => W.cell? ⟨Q, 0, none⟩ = some (.slice (some ⟨g, 0, none⟩) d.1.length c1)) (by kernel_rfl) z0 (fun _ => ?_)
    refine held_take (i := 0) (v := .pointer (some ⟨Q, 0, none⟩)) rfl rfl (by kernel_rfl) (by kernel_rfl) (by kernel_rfl) (by kernel_rfl) (fun W _ => by go_simp) z0 ?_
    simp only [Act.put, List.setIfInBounds_toArray, List.set_cons_zero, List.set_cons_succ]
    refine held_take (i := 1) (v := .slice (some ⟨g, 0, none⟩) d.1.length c1) rfl rfl (by kernel_rfl) (by kernel_rfl) (by kernel_rfl) (by kernel_rfl) (fun W hW => by go_simp) z0 ?_
    simp only [Act.put, List.setIfInBounds_toArray, List.set_cons_zero, List.set_cons_succ]
    refine held_take (i := 2) (v := .pointer (some ⟨Q, 0, none⟩)) rfl rfl (by kernel_rfl) (by kernel_rfl) (by kernel_rfl) (by kernel_rfl) (fun W _ => by go_simp) z0 ?_
    simp only [Act.put, List.setIfInBounds_toArray, List.set_cons_zero, List.set_cons_succ]
    refine held_take (i := 3) (v := .slice (some ⟨g, 0, none⟩) d.1.length c1) rfl rfl (by kernel_rfl) (by kernel_rfl) (by kernel_rfl) (by kernel_rfl) (fun W hW => by go_simp) z0 ?_
    simp only [Act.put, List.setIfInBounds_toArray, List.set_cons_zero, List.set_cons_succ]
    refine held_take (i := 4) (v := .pointer (some ⟨g, 1, none⟩)) rfl rfl (by kernel_rfl) (by kernel_rfl) (by kernel_rfl) (by kernel_rfl) (fun W _ => by go_simp) z0 ?_
    simp only [Act.put, List.setIfInBounds_toArray, List.set_cons_zero, List.set_cons_succ]
    refine wpAnyH_ready (rs := [5]) (by kernel_rfl) (by simp) (AllReadyH.cons rfl (fun K hK => ?_) AllReadyH.nil)
    go_simp
    refine hK.out _ _ z0 (fun _ => ?_)
    clear hK K
    try simp only [Act.put, List.setIfInBounds_toArray, List.set_cons_zero, List.set_cons_succ]
    refine held_take (i := 6) (v := .string (s1 ++ ⟨#[120]⟩)) rfl rfl (by kernel_rfl) (by kernel_rfl) (by kernel_rfl) (by kernel_rfl) (fun W _ => by go_simp) z0 ?_
    simp only [Act.put, List.setIfInBounds_toArray, List.set_cons_zero, List.set_cons_succ]
    refine held_take (i := 7) (v := .pointer (some ⟨g, 1, none⟩)) rfl rfl (by kernel_rfl) (by kernel_rfl) (by kernel_rfl) (by kernel_rfl) (fun W _ => by go_simp) z0 ?_
    simp only [Act.put, List.setIfInBounds_toArray, List.set_cons_zero, List.set_cons_succ]
    refine wpAnyH_ready (rs := [8]) (by kernel_rfl) (by simp) (AllReadyH.cons rfl (fun K hK => ?_) AllReadyH.nil)
    go_simp
    refine hK.out _ _ p5 (fun _ => ?_)
    clear hK K
    try simp only [Act.put, List.setIfInBounds_toArray, List.set_cons_zero, List.set_cons_succ]
    refine wpAnyH_done (by kernel_rfl) ?_ _
    simp only [NoPanic]
    obtain ⟨Z, hZ⟩ : ∃ Z, d.1.set 1 (s1 ++ ⟨#[120]⟩) = Z := ⟨_, rfl⟩
    rw [hZ] at HI5 HS5 HL5
    generalize (w3.setCell ⟨g, 1, none⟩ (.string (s1 ++ ⟨#[120]⟩))).drew = W5 at *
    clear hZ p5 t2 t3 t0 t1 z0
    obtain ⟨f1, f2, f3, f4, f5, f6, f7⟩ := HI5.out.fin (by omega)
    have z0 := HI5.out.var.cell 0
    have hl6 : ((Z, d.2) : DiskD).1.length = d.1.length := HL5.out
    rw [hl6] at f1 f2 f3 f5 z0
    have z0' : W5.cell? ⟨Q, 0, none⟩ = some (.slice (some ⟨g, 0, none⟩) d.1.length c1) := z0
    clear z0 hl6
    have z1 : W5.cell? ⟨Q, 1, none⟩ = some (.slice b1 d.2.length e1) := HI5.out.var.cell 1
    have HF : Hid (Var ((W5.setCell ⟨w.heap.size, 0, none⟩ (.slice (some ⟨g, 0, none⟩) d.1.length c1)).setCell ⟨w.heap.size, 1, none⟩ (.slice b1 d.2.length e1)) w.heap.size #[.slice (some ⟨g, 0, none⟩) d.1.length c1, .slice b1 d.2.length e1] 27) := f1
    have HG : Hid (OwnD ((W5.setCell ⟨w.heap.size, 0, none⟩ (.slice (some ⟨g, 0, none⟩) d.1.length c1)).setCell ⟨w.heap.size, 1, none⟩ (.slice b1 d.2.length e1)) w.heap.size (.agg #[.slice (some ⟨g, 0, none⟩) d.1.length c1, .slice b1 d.2.length e1]) (Z, d.2) ∧ Below w.heap.size w ((W5.setCell ⟨w.heap.size, 0, none⟩ (.slice (some ⟨g, 0, none⟩) d.1.length c1)).setCell ⟨w.heap.size, 1, none⟩ (.slice b1 d.2.length e1))) := ⟨f2, f3⟩
    clear f1 f2 f3 HI5
    go_wp2
    refine bodyPost_ret (results_row_tmp rfl _ _ w.heap.size 27 #[.slice (some ⟨g, 0, none⟩) d.1.length c1, .slice b1 d.2.length e1] _ rfl HF.out Tryd.underlying27 rfl Tryd.sizeDisk) rfl ?_
    exact ⟨_, (Z, d.2), (n : Int), rfl, HG.out.1, (by have h7 := HDL.out; have h8 := HL5.out; show Z.length ≤ 121; omega), (by have h7 := HDL.out; show d.2.length ≤ 401; omega), HS5.out, .inl ⟨by omega, by omega⟩, HG.out.2⟩
  by_cases h3 : r = 3
  · subst h3
    have HD4 : Hid (Drw (w3.alloc (.cells (badsL.map (Value.int .i64)).toArray 3)) P x cap l) := HI3.out.drw.alloc _
    go_wp2_with fail
    refine (pickIntO P w3.heap.size x cap l badsL _ HD4.out 4 rfl (by omega) (by omega) (by have := HI3.out.drw.lt; omega) (fun j hj => cells_list badsL (Value.int .i64) 0 w3 _ 3 rfl j hj)).mono ?_
    rintro e w4 ⟨m, hm, rfl, hd4, hon4⟩
    have h9 : m = 0 ∨ m = -1 ∨ m = 49 ∨ m = 9223372036854775807 := by unfold badsL at hm; simpa using hm
    have HM : Hid (m = 0 ∨ m = -1 ∨ m = 49 ∨ m = 9223372036854775807) := h9
    clear h9
    have HI4 : Hid (FInv w w4 lo P x cap l Q (some ⟨g, 0, none⟩) b1 c1 e1 d) := by
      refine FInv.step ?_ hP1 hlt1 hs2 hd4 hon4
      exact ⟨HD4.out, HI3.out.res.alloc _, HI3.out.var.alloc _, HI3.out.own.below (below1 _ _), HI3.out.below.alloc HI3.out.below.size _⟩
    clear hm hd4 hon4 HD4 HI3
    obtain ⟨f1, f2, f3, f4, f5, f6, f7⟩ := HI4.out.fin (by omega)
    have z0 : w4.cell? ⟨Q, 0, none⟩ = some (.slice (some ⟨g, 0, none⟩) d.1.length c1) := HI4.out.var.cell 0
    have z1 : w4.cell? ⟨Q, 1, none⟩ = some (.slice b1 d.2.length e1) := HI4.out.var.cell 1
    have HF : Hid (Var ((w4.setCell ⟨w.heap.size, 0, none⟩ (.slice (some ⟨g, 0, none⟩) d.1.length c1)).setCell ⟨w.heap.size, 1, none⟩ (.slice b1 d.2.length e1)) w.heap.size #[.slice (some ⟨g, 0, none⟩) d.1.length c1, .slice b1 d.2.length e1] 27) := f1
    have HG : Hid (OwnD ((w4.setCell ⟨w.heap.size, 0, none⟩ (.slice (some ⟨g, 0, none⟩) d.1.length c1)).setCell ⟨w.heap.size, 1, none⟩ (.slice b1 d.2.length e1)) w.heap.size (.agg #[.slice (some ⟨g, 0, none⟩) d.1.length c1, .slice b1 d.2.length e1]) d ∧ Below w.heap.size w ((w4.setCell ⟨w.heap.size, 0, none⟩ (.slice (some ⟨g, 0, none⟩) d.1.length c1)).setCell ⟨w.heap.size, 1, none⟩ (.slice b1 d.2.length e1))) := ⟨f2, f3⟩
    clear f1 f2 f3 HI4
    go_wp2
    refine bodyPost_ret (results_row_tmp rfl _ _ w.heap.size 27 #[.slice (some ⟨g, 0, none⟩) d.1.length c1, .slice b1 d.2.length e1] _ rfl HF.out Tryd.underlying27 rfl Tryd.sizeDisk) rfl ?_
    exact ⟨_, d, m, rfl, HG.out.1, (by have := HDL.out; omega), (by have := HDL.out; omega), smD_ok HDK.out, .inr ⟨HM.out, by have := HDL.out; omega, by have := HDL.out; omega⟩, HG.out.2⟩
  have g0 : ((r : Int) == 0) = false := by simp; omega
  have g1 : ((r : Int) == 1) = false := by simp; omega
  have g2 : ((r : Int) == 2) = false := by simp; omega
  have g3 : ((r : Int) == 3) = false := by simp; omega
  obtain ⟨f1, f2, f3, f4, f5, f6, f7⟩ := HI3.out.fin (by omega)
  have z0 : w3.cell? ⟨Q, 0, none⟩ = some (.slice (some ⟨g, 0, none⟩) d.1.length c1) := HI3.out.var.cell 0
  have z1 : w3.cell? ⟨Q, 1, none⟩ = some (.slice b1 d.2.length e1) := HI3.out.var.cell 1
  have HF : Hid (Var ((w3.setCell ⟨w.heap.size, 0, none⟩ (.slice (some ⟨g, 0, none⟩) d.1.length c1)).setCell ⟨w.heap.size, 1, none⟩ (.slice b1 d.2.length e1)) w.heap.size #[.slice (some ⟨g, 0, none⟩) d.1.length c1, .slice b1 d.2.length e1] 27) := f1
  have HG : Hid (OwnD ((w3.setCell ⟨w.heap.size, 0, none⟩ (.slice (some ⟨g, 0, none⟩) d.1.length c1)).setCell ⟨w.heap.size, 1, none⟩ (.slice b1 d.2.length e1)) w.heap.size (.agg #[.slice (some ⟨g, 0, none⟩) d.1.length c1, .slice b1 d.2.length e1]) d ∧ Below w.heap.size w ((w3.setCell ⟨w.heap.size, 0, none⟩ (.slice (some ⟨g, 0, none⟩) d.1.length c1)).setCell ⟨w.heap.size, 1, none⟩ (.slice b1 d.2.length e1))) := ⟨f2, f3⟩
  clear f1 f2 f3 HI3
  go_wp2
  refine bodyPost_ret (results_row_tmp rfl _ _ w.heap.size 27 #[.slice (some ⟨g, 0, none⟩) d.1.length c1, .slice b1 d.2.length e1] _ rfl HF.out Tryd.underlying27 rfl Tryd.sizeDisk) rfl ?_
  exact ⟨_, d, (n : Int), rfl, HG.out.1, (by have := HDL.out; omega), (by have := HDL.out; omega), smD_ok HDK.out, .inl ⟨by omega, by omega⟩, HG.out.2⟩
end Go.Proofs.YtlidmnehpcodkaaDoor
