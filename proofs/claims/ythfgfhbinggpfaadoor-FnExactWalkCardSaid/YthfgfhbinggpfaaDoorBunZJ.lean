/-
  Own texts, several together.
-/
import Derived.Test.YthfgfhbinggpfaaDoorBunZE
import Derived.Test.YthfgfhbinggpfaaDoorSSeenW
import Derived.Test.YthfgfhbinggpfaaDoorBunZI
/-
  Own text: whether a node is there and not free, by the program.
-/
namespace Go.Proofs.YthfgfhbinggpfaaDoor
open Go.RowKit

def thP (F : FsD) (i : Int) : Prop := 0 ≤ i ∧ i.toNat < F.ns.length ∧ (ndAt F i).k ≠ 0
noncomputable def thB (F : FsD) (i : Int) : Bool := @decide (thP F i) (Classical.propDecidable _)
theorem thB_yes {F : FsD} {i : Int} (h : thP F i) : thB F i = true := @decide_eq_true _ (Classical.propDecidable _) h
theorem thB_no {F : FsD} {i : Int} (h : ¬ thP F i) : thB F i = false := @decide_eq_false _ (Classical.propDecidable _) h

set_option maxRecDepth 20000 in
set_option maxHeartbeats 4000000 in
theorem implThere (P : Nat) (a : Option Addr) (ca : Nat) (F : FsD) (i : Int) (w : World) (hp0 : w.cell? ⟨P, 0, none⟩ = some (.slice a F.ns.length ca)) (r1 : RdNs w a F.ns) :
    Calls Tryd.prog 52 #[.pointer (some ⟨P, 0, none⟩), .int .i64 i] w fun e w' => e = .returned (.bool (thB F i)) ∧ w' = w := by
  by_cases hi0 : 0 ≤ i
  · obtain ⟨k, rfl⟩ := natOf hi0
    by_cases hk : k < F.ns.length
    · have HU : Hid (F.ns[k].k ≠ 0 ↔ thP F (k : Int)) := ⟨fun h => ⟨by omega, by simpa using hk, by rw [ndAt_nat hk]; exact h⟩, fun h => by have := h.2.2; rw [ndAt_nat hk] at this; exact this⟩
      have hkI : (k : Int) < (F.ns.length : Int) := by omega
      obtain ⟨g, off, u, rfl, hblt, _, c0, _, _, _, _⟩ := r1.at k hk
      clear r1
      by_cases h0 : F.ns[k].k = 0
      · have HA : Hid (thB F (k : Int) = false) := thB_no fun h => HU.out.2 h h0
        rw [h0] at c0
        clear h0
        go_enter Tryd.func52, Tryd.ntmps52
        go_wp2
        go_ret
        exact ⟨by rw [HA.out]; rfl, rfl⟩
      · have HA : Hid (thB F (k : Int) = true) := thB_yes (HU.out.1 h0)
        clear HU
        generalize F.ns[k].k = y at *
        go_enter Tryd.func52, Tryd.ntmps52
        go_wp2
        go_ret
        exact ⟨by rw [HA.out]; simp [h0], rfl⟩
    · have HA : Hid (thB F (k : Int) = false) := thB_no fun h => hk (by simpa using h.2.1)
      have hkI : ¬ (k : Int) < (F.ns.length : Int) := by omega
      clear r1
      go_enter Tryd.func52, Tryd.ntmps52
      go_wp2
      go_ret
      exact ⟨by rw [HA.out]; rfl, rfl⟩
  · have HA : Hid (thB F i = false) := thB_no fun h => hi0 h.1
    clear r1
    go_enter Tryd.func52, Tryd.ntmps52
    go_wp2
    go_ret
    exact ⟨by rw [HA.out]; rfl, rfl⟩
end Go.Proofs.YthfgfhbinggpfaaDoor

/-
  Own text, plain: which nodes are reached from the root on, counted; the other program's way down, and the program's row of places, tell the same.
-/
namespace Go.Proofs.YthfgfhbinggpfaaDoor
open Go.RowKit

def sm {α : Type} (g : α → Nat) : List α → Nat
  | [] => 0
  | a :: l => g a + sm g l
theorem sm_app {α : Type} (g : α → Nat) : ∀ a b : List α, sm g (a ++ b) = sm g a + sm g b
  | [], b => by simp [sm]
  | x :: a, b => by simp only [List.cons_append, sm, sm_app g a b]; omega
theorem sm_map {α β : Type} (g : β → Nat) (h : α → β) : ∀ l : List α, sm g (l.map h) = sm (fun a => g (h a)) l
  | [] => rfl
  | x :: l => by simp only [List.map_cons, sm, sm_map g h l]
theorem sm_le {α : Type} {g h : α → Nat} : ∀ l : List α, (∀ a ∈ l, g a ≤ h a) → sm g l ≤ sm h l
  | [], _ => Nat.le_refl _
  | x :: l, H => by
    have h1 := H x (List.mem_cons_self ..)
    have h2 := sm_le l fun a ha => H a (List.mem_cons_of_mem _ ha)
    simp only [sm]; omega
theorem sm_eq {α : Type} {g h : α → Nat} (l : List α) (H : ∀ a ∈ l, g a = h a) : sm g l = sm h l :=
  Nat.le_antisymm (sm_le l fun a ha => Nat.le_of_eq (H a ha)) (sm_le l fun a ha => Nat.le_of_eq (H a ha).symm)
theorem sm_pos {α : Type} {g : α → Nat} : ∀ {l : List α}, 0 < sm g l → ∃ a ∈ l, 0 < g a
  | [], h => by simp [sm] at h
  | x :: l, h => by
    by_cases hx : 0 < g x
    · exact ⟨x, List.mem_cons_self .., hx⟩
    · simp only [sm] at h
      obtain ⟨a, ha, hg⟩ := sm_pos (l := l) (g := g) (by omega)
      exact ⟨a, List.mem_cons_of_mem _ ha, hg⟩
theorem sm_add {α : Type} (g h : α → Nat) : ∀ l : List α, sm (fun a => g a + h a) l = sm g l + sm h l
  | [] => rfl
  | x :: l => by simp only [sm, sm_add g h l]; omega
theorem sm_one {α : Type} : ∀ l : List α, sm (fun _ => 1) l = l.length
  | [] => rfl
  | x :: l => by simp only [sm, sm_one l, List.length_cons]; omega
theorem sm_bound {α : Type} {g : α → Nat} {B : Nat} : ∀ l : List α, (∀ a ∈ l, g a ≤ B) → sm g l ≤ l.length * B
  | [], _ => by simp [sm]
  | x :: l, H => by
    have h1 := H x (List.mem_cons_self ..)
    have h2 := sm_bound l fun a ha => H a (List.mem_cons_of_mem _ ha)
    simp only [sm, List.length_cons]
    rw [Nat.add_mul]; omega

/-- What an entry of directory i may be. -/
def entP (F : FsD) (i : Nat) (e : EntD) : Prop := e.2 < (F.ns.length : Int) ∧ (ndAt F e.2).k ≠ 0 ∧ (bt e.1 = [126] → i = 0 ∧ (ndAt F e.2).k = 1)
/-- All that is below node i, so many levels at most. -/
def okD (F : FsD) : Nat → Nat → Prop
  | 0, _ => False
  | d + 1, i => (ndAt F (i : Int)).k ≠ 2 ∨ (dirO F i = true ∧ ∀ e ∈ dirE F i, entP F i e ∧ okD F d e.2.toNat)
noncomputable def cnD (F : FsD) : Nat → Nat → Nat → Nat
  | 0, _, _ => 0
  | d + 1, i, x => (if x = i then 1 else 0) + sm (fun e => cnD F d e.2.toNat x) (dirE F i)
noncomputable def tlD (F : FsD) (d i x : Nat) : Nat := sm (fun e => cnD F d e.2.toNat x) (dirE F i)
def FsOkP (F : FsD) : Prop := ShapeP F ∧ okD F 5 0 ∧ ∀ x, x < F.ns.length → cnD F 5 0 x = if (ndAt F (x : Int)).k ≠ 0 then 1 else 0
noncomputable def foB (F : FsD) : Bool := @decide (FsOkP F) (Classical.propDecidable _)
theorem foB_yes {F : FsD} (h : FsOkP F) : foB F = true := @decide_eq_true _ (Classical.propDecidable _) h
theorem foB_no {F : FsD} (h : ¬ FsOkP F) : foB F = false := @decide_eq_false _ (Classical.propDecidable _) h

theorem dirE_non {F : FsD} {i : Nat} (h : (ndAt F (i : Int)).k ≠ 2) : dirE F i = [] := by unfold dirE; rw [if_neg h]
theorem dirO_kind {F : FsD} {i : Nat} (h : dirO F i = true) : (ndAt F (i : Int)).k = 2 := by
  unfold dirO at h
  rw [Bool.and_eq_true] at h
  exact of_decide_eq_true h.1
theorem dirE_bad {F : FsD} {i : Nat} (h : dirO F i = false) : dirE F i = [] := by
  unfold dirE
  split
  · rename_i h2
    unfold dirO at h
    rw [decide_eq_true h2, Bool.true_and] at h
    refine (dir_none fun hx => ?_).1
    unfold dirOk at h
    rw [@decide_eq_true _ (Classical.propDecidable _) hx] at h
    cases h
  · rfl
theorem dirE_nodes {F : FsD} {i : Nat} : ∀ e ∈ dirE F i, 1 ≤ e.2 ∧ e.2 ≤ 9 := by
  cases h : dirO F i with
  | true => exact dirO_nodes h
  | false => rw [dirE_bad h]; intro e he; cases he
theorem dirE_len {F : FsD} {i : Nat} : (dirE F i).length ≤ 80 := by
  cases h : dirO F i with
  | true => exact dirO_len h
  | false => rw [dirE_bad h]; simp
theorem dirE_pre {F : FsD} {i : Nat} : PreP (dirE F i) (dirE F i).length := by
  cases h : dirO F i with
  | false => rw [dirE_bad h]; intro k hk; simp at hk
  | true =>
    have hk := dirO_kind h
    unfold dirO at h
    rw [Bool.and_eq_true] at h
    have hx : ∃ es, DirP (tx9 F i) es := by have h2 := h.2; unfold dirOk at h2; exact @of_decide_eq_true _ (Classical.propDecidable _) h2
    obtain ⟨es, h1, h2⟩ := hx
    unfold dirE
    rw [if_pos hk, (dir_yes h1 h2).1]
    have hP : EnP es := by unfold enOk at h2; exact @of_decide_eq_true _ (Classical.propDecidable _) h2
    exact hP.1
theorem dirE_name {F : FsD} {i : Nat} {e : EntD} (he : e ∈ dirE F i) : bt e.1 = [126] ∨ nmOk (bt e.1) = true := by
  obtain ⟨k, hk, rfl⟩ := List.getElem_of_mem he
  have h := (dirE_pre k hk hk).1.1
  unfold enName at h
  rw [Bool.or_eq_true] at h
  exact h.imp (fun h => @of_decide_eq_true _ (Classical.propDecidable _) h) id
theorem ent_ord {l : List EntD} (h : PreP l l.length) : ∀ (k : Nat) (hk : k < l.length) (j : Nat) (hj : j < l.length), j < k → ltB (l[j]).1 (l[k]).1 = true
  | 0, _, j, _, hjk => by omega
  | k + 1, hk, j, hj, hjk => by
    have hs : ltB (l[k]'(by omega)).1 (l[k + 1]).1 = true := (h (k + 1) hk hk).2.1 (by omega) (by omega)
    by_cases e : j = k
    · subst e; exact hs
    · exact ltB_trans (ent_ord h k (by omega) j hj (by omega)) hs
theorem dirE_find {F : FsD} {i : Nat} {e : EntD} (he : e ∈ dirE F i) : enFind (dirE F i) e.1 = e.2 := by
  obtain ⟨k, hk, rfl⟩ := List.getElem_of_mem he
  refine enFind_at hk rfl fun j hj hjk hh => ?_
  have := ent_ord dirE_pre k hk j hj hjk
  rw [hh, ltB_irrefl] at this
  cases this
theorem dirE_found {F : FsD} {i : Nat} {s : ByteArray} (h : ¬ enFind (dirE F i) s < 0) : ∃ e ∈ dirE F i, e.1 = s ∧ e.2 = enFind (dirE F i) s := by
  unfold enFind at h ⊢
  split at h
  · rename_i h1
    rw [dif_pos h1]
    refine ⟨_, List.getElem_mem h1, ?_, rfl⟩
    have := List.findIdx_getElem (w := h1)
    simpa using this
  · simp at h

theorem okD_file {F : FsD} {i : Nat} (d : Nat) (h : (ndAt F (i : Int)).k ≠ 2) : okD F (d + 1) i := .inl h
theorem cnD_pos {F : FsD} : ∀ (d i x : Nat), i < F.ns.length → (ndAt F (i : Int)).k ≠ 0 → okD F d i → 0 < cnD F d i x → x < F.ns.length ∧ (ndAt F (x : Int)).k ≠ 0
  | 0, _, _, _, _, h, _ => h.elim
  | d + 1, i, x, hi, hk, h, hc => by
    unfold cnD at hc
    by_cases hx : x = i
    · subst hx; exact ⟨hi, hk⟩
    · rw [if_neg hx, Nat.zero_add] at hc
      obtain ⟨e, he, hg⟩ := sm_pos hc
      rcases h with h | h
      · rw [dirE_non h] at he; cases he
      · obtain ⟨h1, h2⟩ := h.2 e he
        have hn := dirE_nodes e he
        refine cnD_pos d e.2.toNat x (by have := h1.1; omega) ?_ h2 hg
        rw [show ((e.2.toNat : Nat) : Int) = e.2 by omega]
        exact h1.2.1
theorem cnD_root {F : FsD} : ∀ (d i : Nat), i ≠ 0 → cnD F d i 0 = 0
  | 0, _, _ => rfl
  | d + 1, i, hi => by
    unfold cnD
    rw [if_neg (fun h => hi h.symm), Nat.zero_add]
    have : sm (fun e => cnD F d e.2.toNat 0) (dirE F i) = sm (fun _ => 0) (dirE F i) := sm_eq _ fun e he => cnD_root d _ (by have := dirE_nodes e he; omega)
    rw [this]
    have := sm_bound (g := fun (_ : EntD) => 0) (B := 0) (dirE F i) (fun _ _ => Nat.le_refl _)
    omega

/-! The other program: level by level. -/
theorem bump_get (i : Nat) (s : List Int) (hi : i < s.length) (x : Nat) : (bump i s).getD x 0 = s.getD x 0 + (if x = i then 1 else 0) := by
  unfold bump
  simp only [List.getD_eq_getElem?_getD, List.getElem?_set]
  by_cases h : i = x
  · subst h; simp [hi]
  · have : ¬ x = i := fun e => h e.symm
    simp [h, this]
theorem seenL_iff {F : FsD} {n i : Nat} (hn : n = F.ns.length) {G : Nat → List Int → List Int × Bool} (g : Nat → Nat → Nat) (okg : Nat → Prop)
    (hG : ∀ k s, k < n → Ones n s → ((G k s).2 = true ↔ okg k ∧ ∀ x, x < n → s.getD x 0 + (g k x : Int) ≤ 1) ∧ ((G k s).2 = true → Ones n (G k s).1 ∧ ∀ x, x < n → (G k s).1.getD x 0 = s.getD x 0 + (g k x : Int))) :
    ∀ (es : List EntD) (s : List Int), (∀ e ∈ es, 0 ≤ e.2) → Ones n s →
      ((seenL F G i es s).2 = true ↔ (∀ e ∈ es, entP F i e ∧ okg e.2.toNat) ∧ ∀ x, x < n → s.getD x 0 + ((sm (fun e => g e.2.toNat x) es : Nat) : Int) ≤ 1) ∧ ((seenL F G i es s).2 = true → ∀ x, x < n → (seenL F G i es s).1.getD x 0 = s.getD x 0 + ((sm (fun e => g e.2.toNat x) es : Nat) : Int))
  | [], s, _, hs => by
    refine ⟨⟨fun _ => ⟨fun e he => (by cases he), fun x hx => ?_⟩, fun _ => rfl⟩, fun _ x _ => by simp [seenL, sm]⟩
    have hl : x < s.length := by rw [hs.1]; exact hx
    have := (hs.2 s[x] (List.getElem_mem hl)).2
    simp [sm, List.getD, hl]; exact this
  | e :: es, s, hp, hs => by
    have h0 := hp e (List.mem_cons_self ..)
    have hnat : ((e.2.toNat : Nat) : Int) = e.2 := by omega
    unfold seenL
    by_cases h1 : (F.ns.length : Int) ≤ e.2 ∨ (ndAt F e.2).k = 0
    · rw [if_pos h1]
      refine ⟨⟨fun h => (by cases h), fun h => ?_⟩, fun h => by cases h⟩
      have := (h.1 e (List.mem_cons_self ..)).1
      rcases h1 with h1 | h1
      · have := this.1; omega
      · exact absurd h1 this.2.1
    rw [if_neg h1]
    by_cases h2 : bt e.1 = [126] ∧ (i ≠ 0 ∨ (ndAt F e.2).k ≠ 1)
    · rw [if_pos h2]
      refine ⟨⟨fun h => (by cases h), fun h => ?_⟩, fun h => by cases h⟩
      have := (h.1 e (List.mem_cons_self ..)).1.2.2 h2.1
      rcases h2.2 with h3 | h3
      · exact absurd this.1 h3
      · exact absurd this.2 h3
    rw [if_neg h2]
    have hE : entP F i e := by
      refine ⟨by have := fun h => h1 (.inl h); omega, fun h => h1 (.inr h), fun h => ?_⟩
      by_cases hi : i = 0
      · by_cases hk : (ndAt F e.2).k = 1
        · exact ⟨hi, hk⟩
        · exact absurd ⟨h, .inr hk⟩ h2
      · exact absurd ⟨h, .inl hi⟩ h2
    obtain ⟨hg1, hg2⟩ := hG e.2.toNat s (by have := hE.1; omega) hs
    by_cases h3 : (G e.2.toNat s).2 = true
    · rw [if_pos h3]
      obtain ⟨ho, hx⟩ := hg2 h3
      obtain ⟨ih1, ih2⟩ := seenL_iff hn g okg hG es (G e.2.toNat s).1 (fun x hx => hp x (List.mem_cons_of_mem _ hx)) ho
      refine ⟨ih1.trans ⟨fun h => ⟨fun y hy => ?_, fun x hxn => ?_⟩, fun h => ⟨fun y hy => h.1 y (List.mem_cons_of_mem _ hy), fun x hxn => ?_⟩⟩, fun h x hxn => ?_⟩
      · rcases List.mem_cons.1 hy with rfl | hy
        · exact ⟨hE, (hg1.1 h3).1⟩
        · exact h.1 y hy
      · have := h.2 x hxn
        rw [hx x hxn] at this
        simp only [sm]; omega
      · have := h.2 x hxn
        rw [hx x hxn]
        simp only [sm] at this; omega
      · have := ih2 h x hxn
        rw [hx x hxn] at this
        simp only [sm]; omega
    · rw [if_neg h3]
      refine ⟨⟨fun h => (by cases h), fun h => absurd (hg1.2 ⟨(h.1 e (List.mem_cons_self ..)).2, fun x hxn => ?_⟩) h3⟩, fun h => by cases h⟩
      have := h.2 x hxn
      simp only [sm] at this; omega
theorem seenF_iff {F : FsD} {n : Nat} (hn : n = F.ns.length) : ∀ (d i : Nat) (s : List Int), i < n → Ones n s → ((seenF F d i s).2 = true ↔ okD F d i ∧ ∀ x, x < n → s.getD x 0 + (cnD F d i x : Int) ≤ 1) ∧ ((seenF F d i s).2 = true → Ones n (seenF F d i s).1 ∧ ∀ x, x < n → (seenF F d i s).1.getD x 0 = s.getD x 0 + (cnD F d i x : Int))
  | 0, i, s, _, _ => ⟨⟨fun h => (by cases h), fun h => h.1.elim⟩, fun h => by cases h⟩
  | d + 1, i, s, hi, hs => by
    have hil : i < s.length := by rw [hs.1]; exact hi
    have hO := fun h => seenF_ones hn (d + 1) i s hi hs h
    have hb := bump_get i s hil
    suffices H : ((seenF F (d + 1) i s).2 = true ↔ okD F (d + 1) i ∧ ∀ x, x < n → s.getD x 0 + (cnD F (d + 1) i x : Int) ≤ 1) ∧ ((seenF F (d + 1) i s).2 = true → ∀ x, x < n → (seenF F (d + 1) i s).1.getD x 0 = s.getD x 0 + (cnD F (d + 1) i x : Int)) from ⟨H.1, fun h => ⟨hO h, H.2 h⟩⟩
    clear hO
    unfold seenF
    by_cases h1 : 1 < (bump i s).getD i 0
    · rw [if_pos h1]
      refine ⟨⟨fun h => (by cases h), fun h => ?_⟩, fun h => (by cases h)⟩
      have := h.2 i hi
      rw [hb i, if_pos rfl] at h1
      simp only [cnD, if_true] at this
      omega
    · rw [if_neg h1]
      have hbo := bump_ones hs hi h1
      by_cases h2 : (ndAt F (i : Int)).k ≠ 2
      · rw [if_pos h2]
        have hc : ∀ x, cnD F (d + 1) i x = if x = i then 1 else 0 := fun x => by simp [cnD, dirE_non h2, sm]
        refine ⟨⟨fun _ => ⟨.inl h2, fun x hx => ?_⟩, fun _ => rfl⟩, fun _ x hx => ?_⟩
        · have hl : x < (bump i s).length := by rw [hbo.1]; exact hx
          have h3 := (hbo.2 (bump i s)[x] (List.getElem_mem hl)).2
          have h4 : (bump i s).getD x 0 = (bump i s)[x] := by simp [List.getD, hl]
          rw [← h4, hb x] at h3
          rw [hc x]
          split <;> simp_all
        · show (bump i s).getD x 0 = _
          rw [hb x, hc x]; split <;> simp
      · rw [if_neg h2]
        by_cases h3 : dirO F i = true
        · rw [if_pos h3]
          obtain ⟨g1, g2⟩ := seenL_iff hn (i := i) (G := seenF F d) (cnD F d) (okD F d) (fun k s' hk hs' => seenF_iff hn d k s' hk hs') (dirE F i) (bump i s) (fun e he => by have := dirO_nodes h3 e he; omega) hbo
          refine ⟨g1.trans ⟨fun h => ⟨.inr ⟨h3, h.1⟩, fun x hx => ?_⟩, fun h => ⟨?_, fun x hx => ?_⟩⟩, fun h x hx => ?_⟩
          · have := h.2 x hx
            rw [hb x] at this
            simp only [cnD]
            split at this <;> simp_all <;> omega
          · rcases h.1 with h4 | h4
            · exact absurd h4 h2
            · exact h4.2
          · have := h.2 x hx
            rw [hb x]
            simp only [cnD] at this
            split at this <;> simp_all <;> omega
          · have := g2 h x hx
            rw [hb x] at this
            rw [this]
            simp only [cnD]
            split <;> simp <;> omega
        · rw [if_neg h3]
          refine ⟨⟨fun h => (by cases h), fun h => ?_⟩, fun h => (by cases h)⟩
          rcases h.1 with h4 | h4
          · exact absurd h4 h2
          · exact absurd h4.1 h3
end Go.Proofs.YthfgfhbinggpfaaDoor

/-
  Own text, plain: the program's row of places: what stands in it, and what becomes of the marks.
-/
namespace Go.Proofs.YthfgfhbinggpfaaDoor
open Go.RowKit

abbrev PlD := ByteArray × Int × Int
def rootPl : PlD := (tx [47], 0, 0)
def plOf (p : PlD) (e : EntD) : PlD := (tx (jn (bt p.1) (bt e.1)), p.2.2, e.2)
noncomputable def entO (F : FsD) (k : Nat) : Bool := if (ndAt F (k : Int)).k = 2 then dirO F k else true
/-- What is done with the entries of one directory. -/
def stp {σ : Type} (see : σ → PlD → σ × Bool) (p : PlD) : List EntD → σ → List PlD → σ × List PlD × Bool
  | [], s, q => (s, q, true)
  | e :: es, s, q => if (see s (plOf p e)).2 = true then stp see p es (see s (plOf p e)).1 (q ++ [plOf p e]) else ((see s (plOf p e)).1, q, false)
def PlG (F : FsD) (p : PlD) (q : List PlD) : Prop := 0 ≤ p.2.2 ∧ p.2.2.toNat < F.ns.length ∧ p.1.size ≤ 64 ∧ q.length ≤ 1000000000000
/-- The row of places, worked off. -/
noncomputable def wk {σ : Type} (F : FsD) (see : σ → PlD → σ × Bool) : Nat → σ → List PlD → Option (σ × Bool)
  | 0, _, _ => none
  | _ + 1, s, [] => some (s, true)
  | f + 1, s, p :: q => @ite _ (PlG F p q) (Classical.propDecidable _) (if entO F p.2.2.toNat = true then (if (stp see p (dirE F p.2.2.toNat) s (p :: q)).2.2 = true then wk F see f (stp see p (dirE F p.2.2.toNat) s (p :: q)).1 (stp see p (dirE F p.2.2.toNat) s (p :: q)).2.1.tail else some ((stp see p (dirE F p.2.2.toNat) s (p :: q)).1, false)) else some (s, false)) none

def dep (p : PlD) : Nat := 4 - (nms (bt p.1)).length
def PlR (F : FsD) (p : PlD) : Prop := 0 ≤ p.2.2 ∧ p.2.2.toNat < F.ns.length ∧ p.1.size ≤ 64 ∧ (bt p.1 = [] → (ndAt F p.2.2).k = 1) ∧ (bt p.1 ≠ [] → ptOk (bt p.1) = true) ∧ (p.2.2 = 0 → bt p.1 = [47]) ∧ (ndAt F p.2.2).k ≠ 0

theorem ptOf_size {l : List (List UInt8)} (h : l.all nmOk = true) : (ptOf l).length ≤ 64 := by
  unfold ptOf
  split
  · simp
  · split
    · rename_i h2
      simp only [Bool.and_eq_true, decide_eq_true_eq] at h2
      have := join_len h
      have h4 := h2.1
      have : 7 * l.length ≤ 28 := by omega
      omega
    · simp
theorem nmOk_hid : nmOk [126] = false := by decide
/-- A place's path with one name more. -/
theorem child_path {p : PlD} {e : EntD} (h : bt p.1 ≠ [] → ptOk (bt p.1) = true) :
    bt (plOf p e).1 = jn (bt p.1) (bt e.1) ∧ (plOf p e).1.size ≤ 64 ∧
    ((bt (plOf p e).1 ≠ []) ↔ (bt p.1 ≠ [] ∧ nmOk (bt e.1) = true ∧ 1 ≤ dep p)) ∧
    (bt (plOf p e).1 ≠ [] → ptOk (bt (plOf p e).1) = true ∧ nms (bt (plOf p e).1) = nms (bt p.1) ++ [bt e.1] ∧ dep (plOf p e) + 1 = dep p) := by
  have hb : bt (plOf p e).1 = jn (bt p.1) (bt e.1) := by unfold plOf; simp [bt_tx]
  have hsz : (plOf p e).1.size = (jn (bt p.1) (bt e.1)).length := by rw [← hb, bt_len]
  have hna := nms_all (bt p.1)
  have hdep : dep (plOf p e) = 4 - (nms (jn (bt p.1) (bt e.1))).length := by unfold dep; rw [hb]
  rw [hsz, hb, hdep]
  by_cases h0 : bt p.1 = []
  · have hp : ptOk (bt p.1) = false := by rw [h0]; decide
    rw [jn_not hp]
    refine ⟨rfl, by simp, ⟨fun h => absurd rfl h, fun h => absurd h0 h.1⟩, fun h => absurd rfl h⟩
  · have hp := h h0
    have hj : jn (bt p.1) (bt e.1) = ptOf (nms (bt p.1) ++ [bt e.1]) := by unfold jn; rw [if_pos hp]
    rw [hj]
    by_cases hn : nmOk (bt e.1) = true
    · have hall : (nms (bt p.1) ++ [bt e.1]).all nmOk = true := by rw [List.all_append, hna.2]; simp [hn]
      by_cases hd : 1 ≤ dep p
      · have hl : (nms (bt p.1) ++ [bt e.1]).length ≤ 4 := by unfold dep at hd; simp; omega
        obtain ⟨h1, h2⟩ := nms_ptOf hl hall
        have hne : ptOf (nms (bt p.1) ++ [bt e.1]) ≠ [] := by intro he; rw [he] at h1; exact absurd h1 (by decide)
        refine ⟨rfl, ptOf_size hall, ⟨fun _ => ⟨h0, hn, hd⟩, fun _ => hne⟩, fun _ => ⟨h1, h2, ?_⟩⟩
        rw [h2]; unfold dep at hd ⊢; simp; omega
      · have hl : ¬ (nms (bt p.1) ++ [bt e.1]).length ≤ 4 := by unfold dep at hd; simp; omega
        have he : ptOf (nms (bt p.1) ++ [bt e.1]) = [] := by unfold ptOf; rw [if_neg (by simp), decide_eq_false hl]; rfl
        rw [he]
        exact ⟨rfl, by simp, ⟨fun h => absurd rfl h, fun h => absurd h.2.2 hd⟩, fun h => absurd rfl h⟩
    · have hna2 : ((nms (bt p.1) ++ [bt e.1]).all nmOk) = false := by rw [List.all_append]; simp [hn]
      have he : ptOf (nms (bt p.1) ++ [bt e.1]) = [] := by unfold ptOf; rw [if_neg (by simp), hna2]; simp
      rw [he]
      exact ⟨rfl, by simp, ⟨fun h => absurd rfl h, fun h => absurd h.2.1 hn⟩, fun h => absurd rfl h⟩

theorem bt_ne_root {p : PlD} (h : bt p.1 = [47]) : dep p = 4 := by unfold dep; rw [h, nms_root]; rfl
/-- The place of an entry that is right. -/
theorem child_right {F : FsD} {p : PlD} {e : EntD} (hP : PlR F p) (he : e ∈ dirE F p.2.2.toNat) (hE : entP F p.2.2.toNat e) (hd : 1 ≤ dep p) :
    PlR F (plOf p e) ∧ (okD F (dep (plOf p e) + 1) e.2.toNat ↔ okD F (dep p) e.2.toNat) ∧ (∀ x, (if x = e.2.toNat then 1 else 0) + tlD F (dep (plOf p e)) e.2.toNat x = cnD F (dep p) e.2.toNat x) ∧ (bt (plOf p e).1 ≠ [] ∨ (ndAt F e.2).k = 1) := by
  have hn := dirE_nodes e he
  have hnat : ((e.2.toNat : Nat) : Int) = e.2 := by omega
  obtain ⟨c1, c2, c3, c4⟩ := child_path (p := p) (e := e) hP.2.2.2.2.1
  have hpk : (ndAt F p.2.2).k = 2 := by
    by_cases h2 : (ndAt F ((p.2.2.toNat : Nat) : Int)).k = 2
    · rw [show ((p.2.2.toNat : Nat) : Int) = p.2.2 by have := hP.1; omega] at h2; exact h2
    · rw [dirE_non h2] at he; cases he
  have hpne : bt p.1 ≠ [] := fun h => by have := hP.2.2.2.1 h; omega
  obtain ⟨d, hdd⟩ : ∃ d, dep p = d + 1 := ⟨dep p - 1, by omega⟩
  by_cases h0 : bt (plOf p e).1 = []
  · have hk : (ndAt F e.2).k = 1 := by
      rcases dirE_name he with h | h
      · exact (hE.2.2 h).2
      · exact absurd h0 (c3.2 ⟨hpne, h, hd⟩)
    have hk2 : (ndAt F ((e.2.toNat : Nat) : Int)).k ≠ 2 := by rw [hnat, hk]; decide
    refine ⟨⟨by show 0 ≤ e.2; omega, by show e.2.toNat < _; have := hE.1; omega, c2, fun _ => hk, fun h => absurd h0 h, fun h => by have h' : e.2 = 0 := h; omega, hE.2.1⟩, ?_, fun x => ?_, .inr hk⟩
    · rw [hdd]; exact ⟨fun _ => okD_file _ hk2, fun _ => okD_file _ hk2⟩
    · rw [hdd]
      simp [tlD, cnD, dirE_non hk2, sm]
  · obtain ⟨d1, d2, d3⟩ := c4 h0
    refine ⟨⟨by show 0 ≤ e.2; omega, by show e.2.toNat < _; have := hE.1; omega, c2, fun h => absurd h h0, fun _ => d1, fun h => by have h' : e.2 = 0 := h; omega, hE.2.1⟩, ?_, fun x => ?_, .inl h0⟩
    · rw [d3]
    · rw [← d3]; rfl

/-! The marks. -/
noncomputable def seeS (F : FsD) (s : List Bool) (p : PlD) : List Bool × Bool := if thB F p.2.2 = false ∨ s.getD p.2.2.toNat false = true then (s, false) else (s.set p.2.2.toNat true, decide (bt p.1 ≠ [] ∨ p.2.1 = 0 ∧ (ndAt F p.2.2).k = 1))
def mk1 (s : List Bool) (x : Nat) : Nat := if s.getD x false = true then 1 else 0
def unm : List Bool → Nat
  | [] => 0
  | b :: l => (if b = true then 0 else 1) + unm l
theorem unm_set : ∀ (s : List Bool) (k : Nat), k < s.length → s.getD k false = false → unm (s.set k true) + 1 = unm s
  | [], k, h, _ => by simp at h
  | b :: l, 0, _, h => by simp at h; subst h; simp [unm]; omega
  | b :: l, k + 1, hk, h => by
    have := unm_set l k (by simpa using hk) (by simpa using h)
    simp only [List.set_cons_succ, unm]; omega
theorem mk_set (s : List Bool) (k x : Nat) (hk : k < s.length) (h : s.getD k false = false) : mk1 (s.set k true) x = mk1 s x + if x = k then 1 else 0 := by
  unfold mk1
  simp only [List.getD_eq_getElem?_getD, List.getElem?_set] at h ⊢
  by_cases e : k = x
  · subst e
    have h' : s[k] = false := by simpa [hk] using h
    simp [hk, h']
  · have : ¬ x = k := fun e' => e e'.symm
    simp [e, this]
theorem see_one {F : FsD} {p : PlD} {e : EntD} {s : List Bool} (hP : PlR F p) (he : e ∈ dirE F p.2.2.toNat) :
    ((seeS F s (plOf p e)).2 = true ↔ (entP F p.2.2.toNat e ∧ 1 ≤ dep p) ∧ mk1 s e.2.toNat = 0) ∧ ((seeS F s (plOf p e)).2 = true → (seeS F s (plOf p e)).1 = s.set e.2.toNat true) := by
  have hn := dirE_nodes e he
  have hpk : (ndAt F p.2.2).k = 2 := by
    by_cases h2 : (ndAt F ((p.2.2.toNat : Nat) : Int)).k = 2
    · rw [show ((p.2.2.toNat : Nat) : Int) = p.2.2 by have := hP.1; omega] at h2; exact h2
    · rw [dirE_non h2] at he; cases he
  have hpne : bt p.1 ≠ [] := fun h => by have := hP.2.2.2.1 h; omega
  obtain ⟨c1, c2, c3, c4⟩ := child_path (p := p) (e := e) hP.2.2.2.2.1
  have e2 : (plOf p e).2.2 = e.2 := rfl
  have e1 : (plOf p e).2.1 = p.2.2 := rfl
  unfold seeS
  rw [e2, e1]
  by_cases hT : thB F e.2 = false
  · rw [if_pos (.inl hT)]
    refine ⟨⟨fun h => (by cases h), fun h => ?_⟩, fun h => (by cases h)⟩
    have := h.1.1
    have hy : thB F e.2 = true := thB_yes ⟨by omega, by have := this.1; omega, this.2.1⟩
    rw [hT] at hy; cases hy
  · by_cases hM : s.getD e.2.toNat false = true
    · rw [if_pos (.inr hM)]
      refine ⟨⟨fun h => (by cases h), fun h => ?_⟩, fun h => (by cases h)⟩
      have := h.2
      unfold mk1 at this
      rw [if_pos hM] at this
      cases this
    · rw [if_neg (fun h => h.elim hT hM)]
      have hth : thP F e.2 := by
        have : thB F e.2 = true := by simpa using hT
        unfold thB at this
        exact @of_decide_eq_true _ (Classical.propDecidable _) this
      refine ⟨⟨fun h => ?_, fun h => ?_⟩, fun _ => rfl⟩
      · have h1 := of_decide_eq_true h
        have hi0 : p.2.2.toNat = 0 ↔ p.2.2 = 0 := by have := hP.1; omega
        have hroot : p.2.2 = 0 → 1 ≤ dep p := fun h => by rw [bt_ne_root (hP.2.2.2.2.2.1 h)]; omega
        refine ⟨⟨⟨by have := hth.2.1; omega, hth.2.2, fun hh => ?_⟩, ?_⟩, by unfold mk1; rw [if_neg hM]⟩
        · rcases h1 with h1 | h1
          · have := (c3.1 h1).2.1
            rw [hh, nmOk_hid] at this
            cases this
          · exact ⟨hi0.2 h1.1, h1.2⟩
        · rcases h1 with h1 | h1
          · exact (c3.1 h1).2.2
          · exact hroot h1.1
      · refine decide_eq_true ?_
        obtain ⟨⟨hE, hd⟩, _⟩ := h
        rcases dirE_name he with hh | hh
        · have := hE.2.2 hh
          exact .inr ⟨by have := hP.1; omega, this.2⟩
        · exact .inl (c3.2 ⟨hpne, hh, hd⟩)
theorem stpS {F : FsD} {p : PlD} (hn : F.ns.length ≤ 10) (hP : PlR F p) : ∀ (es : List EntD) (s : List Bool) (q : List PlD), (∀ e ∈ es, e ∈ dirE F p.2.2.toNat) → s.length = 10 →
    ((stp (seeS F) p es s q).1.length = 10) ∧ ((stp (seeS F) p es s q).2.2 = true ↔ (∀ e ∈ es, entP F p.2.2.toNat e ∧ 1 ≤ dep p) ∧ ∀ x, x < 10 → mk1 s x + sm (fun e => if x = e.2.toNat then 1 else 0) es ≤ 1) ∧
    ((stp (seeS F) p es s q).2.2 = true → (∀ x, x < 10 → mk1 (stp (seeS F) p es s q).1 x = mk1 s x + sm (fun e => if x = e.2.toNat then 1 else 0) es) ∧ (stp (seeS F) p es s q).2.1 = q ++ es.map (plOf p) ∧ unm (stp (seeS F) p es s q).1 + es.length = unm s)
  | [], s, q, _, hl => by
    refine ⟨hl, ⟨fun _ => ⟨fun e he => (by cases he), fun x _ => ?_⟩, fun _ => rfl⟩, fun _ => ⟨fun x _ => rfl, by simp [stp], rfl⟩⟩
    simp only [sm, mk1]; split <;> omega
  | e :: es, s, q, hes, hl => by
    have he := hes e (List.mem_cons_self ..)
    have hnd := dirE_nodes e he
    obtain ⟨h1, h2⟩ := see_one (s := s) hP he
    unfold stp
    by_cases hS : (seeS F s (plOf p e)).2 = true
    · rw [if_pos hS]
      have hset := h2 hS
      obtain ⟨hE, hm⟩ := h1.1 hS
      have hgd : s.getD e.2.toNat false = false := by
        unfold mk1 at hm
        split at hm
        · cases hm
        · simp_all
      have hlt : e.2.toNat < s.length := by omega
      rw [hset]
      obtain ⟨i1, i2, i3⟩ := stpS hn hP es (s.set e.2.toNat true) (q ++ [plOf p e]) (fun y hy => hes y (List.mem_cons_of_mem _ hy)) (by rw [List.length_set]; exact hl)
      have hmk := fun x => mk_set s e.2.toNat x hlt hgd
      have hun := unm_set s e.2.toNat hlt hgd
      refine ⟨i1, i2.trans ⟨fun h => ⟨fun y hy => ?_, fun x hx => ?_⟩, fun h => ⟨fun y hy => h.1 y (List.mem_cons_of_mem _ hy), fun x hx => ?_⟩⟩, fun h => ⟨fun x hx => ?_, ?_, ?_⟩⟩
      · rcases List.mem_cons.1 hy with rfl | hy
        · exact hE
        · exact h.1 y hy
      · have := h.2 x hx
        rw [hmk x] at this
        simp only [sm]; omega
      · have := h.2 x hx
        simp only [sm] at this
        rw [hmk x]; omega
      · have := (i3 h).1 x hx
        rw [hmk x] at this
        simp only [sm]; omega
      · rw [(i3 h).2.1]; simp
      · have := (i3 h).2.2
        rw [List.length_cons]; omega
    · rw [if_neg hS]
      refine ⟨?_, ⟨fun h => (by cases h), fun h => absurd (h1.2 ⟨h.1 e (List.mem_cons_self ..), ?_⟩) hS⟩, fun h => (by cases h)⟩
      · show (seeS F s (plOf p e)).1.length = 10
        unfold seeS
        split
        · exact hl
        · rw [List.length_set]; exact hl
      · have := h.2 e.2.toNat (by omega)
        simp only [sm, if_true] at this; omega

theorem cn_ge {F : FsD} {d i x : Nat} (h : okD F d i) : (if x = i then 1 else 0) ≤ cnD F d i x := by
  cases d with
  | zero => exact h.elim
  | succ d => unfold cnD; omega
theorem wkS {F : FsD} (hn : F.ns.length ≤ 10) : ∀ (f : Nat) (s : List Bool) (Q : List PlD), s.length = 10 → (∀ p ∈ Q, PlR F p) → unm s + Q.length < f → unm s + Q.length ≤ 100 →
    ∃ s' b, wk F (seeS F) f s Q = some (s', b) ∧ s'.length = 10 ∧ (b = true ↔ (∀ p ∈ Q, okD F (dep p + 1) p.2.2.toNat) ∧ ∀ x, x < 10 → mk1 s x + sm (fun p => tlD F (dep p) p.2.2.toNat x) Q ≤ 1) ∧ (b = true → ∀ x, x < 10 → mk1 s' x = mk1 s x + sm (fun p => tlD F (dep p) p.2.2.toNat x) Q)
  | 0, _, _, _, _, h, _ => by omega
  | f + 1, s, [], hl, _, _, _ => by
    refine ⟨s, true, rfl, hl, ⟨fun _ => ⟨fun p hp => (by cases hp), fun x _ => ?_⟩, fun _ => rfl⟩, fun _ x _ => rfl⟩
    simp only [sm, mk1]; split <;> omega
  | f + 1, s, p :: q, hl, hQ, hf, hc => by
    have hP := hQ p (List.mem_cons_self ..)
    have hnat : ((p.2.2.toNat : Nat) : Int) = p.2.2 := by have := hP.1; omega
    rw [List.length_cons] at hf hc
    have hG : PlG F p q := ⟨hP.1, hP.2.1, hP.2.2.1, by omega⟩
    unfold wk
    rw [if_pos hG]
    by_cases hk : (ndAt F ((p.2.2.toNat : Nat) : Int)).k = 2
    · by_cases hd : dirO F p.2.2.toNat = true
      · have hen : entO F p.2.2.toNat = true := by unfold entO; rw [if_pos hk]; exact hd
        rw [if_pos hen]
        obtain ⟨i1, i2, i3⟩ := stpS hn hP (dirE F p.2.2.toNat) s (p :: q) (fun e he => he) hl
        have hok : okD F (dep p + 1) p.2.2.toNat ↔ ∀ e ∈ dirE F p.2.2.toNat, entP F p.2.2.toNat e ∧ okD F (dep p) e.2.toNat := by
          constructor
          · intro h
            rcases h with h | h
            · exact absurd hk h
            · exact h.2
          · intro h; exact .inr ⟨hd, h⟩
        by_cases hr : (stp (seeS F) p (dirE F p.2.2.toNat) s (p :: q)).2.2 = true
        · rw [if_pos hr]
          obtain ⟨j1, j2, j3⟩ := i3 hr
          obtain ⟨hE, _⟩ := i2.1 hr
          generalize hr0 : stp (seeS F) p (dirE F p.2.2.toNat) s (p :: q) = r at *
          have htl : r.2.1.tail = q ++ (dirE F p.2.2.toNat).map (plOf p) := by rw [j2]; rfl
          rw [htl]
          have hch := fun e he => child_right (F := F) (p := p) (e := e) hP he (hE e he).1 (hE e he).2
          obtain ⟨s', b, k1, k2, k3, k4⟩ := wkS hn f r.1 (q ++ (dirE F p.2.2.toNat).map (plOf p)) i1 (fun p' hp' => by
            rcases List.mem_append.1 hp' with h | h
            · exact hQ p' (List.mem_cons_of_mem _ h)
            · obtain ⟨e, he, rfl⟩ := List.mem_map.1 h
              exact (hch e he).1) (by rw [List.length_append, List.length_map]; omega) (by rw [List.length_append, List.length_map]; omega)
          have hsum : ∀ x, x < 10 → mk1 r.1 x + sm (fun p => tlD F (dep p) p.2.2.toNat x) (q ++ (dirE F p.2.2.toNat).map (plOf p)) = mk1 s x + sm (fun p => tlD F (dep p) p.2.2.toNat x) (p :: q) := by
            intro x hx
            have ht : tlD F (dep p) p.2.2.toNat x = sm (fun e => (if x = e.2.toNat then 1 else 0) + tlD F (dep (plOf p e)) e.2.toNat x) (dirE F p.2.2.toNat) := by
              unfold tlD
              exact sm_eq _ fun e he => ((hch e he).2.2.1 x).symm
            rw [sm_add] at ht
            rw [j1 x hx, sm_app, sm_map]
            simp only [sm]
            rw [ht]
            have : sm (fun a => tlD F (dep (plOf p a)) (plOf p a).2.2.toNat x) (dirE F p.2.2.toNat) = sm (fun e => tlD F (dep (plOf p e)) e.2.toNat x) (dirE F p.2.2.toNat) := rfl
            omega
          refine ⟨s', b, k1, k2, k3.trans ⟨fun h => ⟨fun p' hp' => ?_, fun x hx => ?_⟩, fun h => ⟨fun p' hp' => ?_, fun x hx => ?_⟩⟩, fun h x hx => ?_⟩
          · rcases List.mem_cons.1 hp' with rfl | hp'
            · exact hok.2 fun e he => ⟨(hE e he).1, (hch e he).2.1.1 (h.1 _ (List.mem_append.2 (.inr (List.mem_map.2 ⟨e, he, rfl⟩))))⟩
            · exact h.1 p' (List.mem_append.2 (.inl hp'))
          · rw [← hsum x hx]; exact h.2 x hx
          · rcases List.mem_append.1 hp' with h1 | h1
            · exact h.1 p' (List.mem_cons_of_mem _ h1)
            · obtain ⟨e, he, rfl⟩ := List.mem_map.1 h1
              exact (hch e he).2.1.2 (hok.1 (h.1 p (List.mem_cons_self ..)) e he).2
          · rw [hsum x hx]; exact h.2 x hx
          · rw [← hsum x hx]; exact k4 h x hx
        · rw [if_neg hr]
          refine ⟨_, false, rfl, i1, ⟨fun h => (by cases h), fun h => absurd (i2.2 ⟨fun e he => ?_, fun x hx => ?_⟩) hr⟩, fun h => (by cases h)⟩
          · have h1 := hok.1 (h.1 p (List.mem_cons_self ..)) e he
            refine ⟨h1.1, ?_⟩
            have h2 := h1.2
            cases hdp : dep p with
            | zero => rw [hdp] at h2; exact h2.elim
            | succ d => omega
          · have h1 := h.2 x hx
            have h2 : sm (fun e => if x = e.2.toNat then 1 else 0) (dirE F p.2.2.toNat) ≤ tlD F (dep p) p.2.2.toNat x := sm_le _ fun e he => cn_ge (hok.1 (h.1 p (List.mem_cons_self ..)) e he).2
            simp only [sm] at h1
            omega
      · have hen : ¬ entO F p.2.2.toNat = true := by unfold entO; rw [if_pos hk]; exact hd
        rw [if_neg hen]
        refine ⟨s, false, rfl, hl, ⟨fun h => (by cases h), fun h => ?_⟩, fun h => (by cases h)⟩
        rcases h.1 p (List.mem_cons_self ..) with h1 | h1
        · exact absurd hk h1
        · exact absurd h1.1 hd
    · have hen : entO F p.2.2.toNat = true := by unfold entO; rw [if_neg hk]
      rw [if_pos hen, dirE_non hk]
      obtain ⟨s', b, k1, k2, k3, k4⟩ := wkS hn f s q hl (fun p' hp' => hQ p' (List.mem_cons_of_mem _ hp')) (by omega) (by omega)
      have hz : ∀ x, tlD F (dep p) p.2.2.toNat x = 0 := fun x => by unfold tlD; rw [dirE_non hk]; rfl
      refine ⟨s', b, k1, k2, k3.trans ⟨fun h => ⟨fun p' hp' => ?_, fun x hx => ?_⟩, fun h => ⟨fun p' hp' => h.1 p' (List.mem_cons_of_mem _ hp'), fun x hx => ?_⟩⟩, fun h x hx => ?_⟩
      · rcases List.mem_cons.1 hp' with rfl | hp'
        · exact okD_file _ hk
        · exact h.1 p' hp'
      · have := h.2 x hx
        simp only [sm, hz]; omega
      · have := h.2 x hx
        simp only [sm, hz] at this; omega
      · rw [k4 h x hx]; simp only [sm, hz]; omega

/-- All of it: the program's walk with marks tells whether the branch is right. -/
theorem root_right {F : FsD} (hp : ShapeP F) : PlR F rootPl := by
  have h2 := hp.1.1
  obtain ⟨n, hn0, hk⟩ := hp.2.1
  have hk0 : (ndAt F (0 : Int)).k = 2 := by unfold ndAt; simp [hn0, hk]
  have hb : bt rootPl.1 = [47] := bt_tx _
  refine ⟨by show (0 : Int) ≤ 0; omega, by show (0 : Int).toNat < _; simp; omega, by rw [← bt_len, hb]; simp, fun h => ?_, fun _ => by rw [hb]; exact ptOk_root, fun _ => hb, by show (ndAt F 0).k ≠ 0; rw [hk0]; decide⟩
  rw [hb] at h; cases h
theorem sight_res {F : FsD} (hp : ShapeP F) : ∃ s' b, wk F (seeS F) 20 (List.replicate 10 false) [rootPl] = some (s', b) ∧ s'.length = 10 ∧ ((b = true ∧ ∀ x, 0 < x → x < F.ns.length → (ndAt F (x : Int)).k ≠ 0 → s'.getD x false = true) ↔ FsOkP F) := by
  have hn := hp.1.2.1
  have hR := root_right hp
  obtain ⟨n, hn0, hk⟩ := hp.2.1
  have hk0 : (ndAt F ((0 : Nat) : Int)).k = 2 := by unfold ndAt; simp [hn0, hk]
  have hd4 : dep rootPl = 4 := bt_ne_root (bt_tx _)
  obtain ⟨s', b, h1, h2, h3, h4⟩ := wkS hn 20 (List.replicate 10 false) [rootPl] (by simp) (fun p hp => by rw [List.mem_singleton.1 hp]; exact hR) (by decide) (by decide)
  have hz : ∀ x, mk1 (List.replicate 10 false) x = 0 := fun x => by
    unfold mk1
    rw [if_neg]
    simp only [List.getD_eq_getElem?_getD, List.getElem?_replicate]
    split <;> simp
  have hcn : ∀ x, cnD F 5 0 x = (if x = 0 then 1 else 0) + tlD F 4 0 x := fun x => rfl
  have hc0 : tlD F 4 0 0 = 0 := by
    unfold tlD
    have : sm (fun e => cnD F 4 e.2.toNat 0) (dirE F 0) = sm (fun _ => 0) (dirE F 0) := sm_eq _ fun e he => cnD_root 4 _ (by have := dirE_nodes e he; omega)
    rw [this]
    have := sm_bound (g := fun (_ : EntD) => 0) (B := 0) (dirE F 0) (fun _ _ => Nat.le_refl _)
    omega
  have hs1 : ∀ x, sm (fun p => tlD F (dep p) p.2.2.toNat x) [rootPl] = tlD F 4 0 x := fun x => by
    show tlD F (dep rootPl) rootPl.2.2.toNat x + 0 = _
    rw [hd4]; rfl
  have hok : (∀ p ∈ [rootPl], okD F (dep p + 1) p.2.2.toNat) ↔ okD F 5 0 := by
    constructor
    · intro h; have := h rootPl (List.mem_singleton.2 rfl); rw [hd4] at this; exact this
    · intro h p hp; rw [List.mem_singleton.1 hp, hd4]; exact h
  have hpos : okD F 5 0 → ∀ x, 0 < cnD F 5 0 x → x < F.ns.length ∧ (ndAt F (x : Int)).k ≠ 0 := fun h x hx => cnD_pos 5 0 x (by have := hp.1.1; omega) (by rw [hk0]; decide) h hx
  refine ⟨s', b, h1, h2, ⟨fun h => ?_, fun h => ?_⟩⟩
  · obtain ⟨o1, o2⟩ := h3.1 h.1
    have hO := hok.1 o1
    refine ⟨hp, hO, fun x hx => ?_⟩
    have hx10 : x < 10 := by omega
    have hm := h4 h.1 x hx10
    have hle := o2 x hx10
    rw [hz, hs1] at hm hle
    by_cases hkx : (ndAt F (x : Int)).k ≠ 0
    · rw [if_pos hkx, hcn]
      by_cases hx0 : x = 0
      · subst hx0; rw [hc0]; rfl
      · have := h.2 x (by omega) hx hkx
        unfold mk1 at hm
        rw [if_pos this] at hm
        rw [if_neg hx0]; omega
    · rw [if_neg hkx]
      rcases Nat.eq_zero_or_pos (cnD F 5 0 x) with h0 | h0
      · exact h0
      · exact absurd (hpos hO x h0).2 hkx
  · obtain ⟨_, hO, hc⟩ := h
    have hle : ∀ x, x < 10 → tlD F 4 0 x ≤ 1 := fun x _ => by
      by_cases hx : x < F.ns.length
      · have := hc x hx
        rw [hcn] at this
        split at this <;> split at this <;> omega
      · rcases Nat.eq_zero_or_pos (cnD F 5 0 x) with h0 | h0
        · rw [hcn] at h0; omega
        · exact absurd (hpos hO x h0).1 hx
    have hb : b = true := h3.2 ⟨hok.2 hO, fun x hx => by rw [hz, hs1]; have := hle x hx; omega⟩
    refine ⟨hb, fun x hx0 hx hkx => ?_⟩
    have hm := h4 hb x (by omega)
    rw [hz, hs1] at hm
    have := hc x hx
    rw [hcn, if_pos hkx, if_neg (by omega)] at this
    unfold mk1 at hm
    split at hm
    · assumption
    · omega
end Go.Proofs.YthfgfhbinggpfaaDoor

/-
  Own text, plain: where a path leads, name by name; the program's search along its row of places finds the same.
-/
namespace Go.Proofs.YthfgfhbinggpfaaDoor
open Go.RowKit

noncomputable def wlk (F : FsD) : Int → List ByteArray → Int
  | i, [] => i
  | i, n :: ns => if dirO F i.toNat = true then (if enFind (dirE F i.toNat) n < 0 then -1 else wlk F (enFind (dirE F i.toNat) n) ns) else -1
theorem wlk_app {F : FsD} : ∀ (a b : List ByteArray) (i : Int), 0 ≤ i → ¬ wlk F i a < 0 → wlk F i (a ++ b) = wlk F (wlk F i a) b
  | [], b, i, _, _ => rfl
  | n :: a, b, i, hi, h => by
    have e1 : wlk F i (n :: a) = if dirO F i.toNat = true then (if enFind (dirE F i.toNat) n < 0 then -1 else wlk F (enFind (dirE F i.toNat) n) a) else -1 := rfl
    have e2 : wlk F i (n :: a ++ b) = if dirO F i.toNat = true then (if enFind (dirE F i.toNat) n < 0 then -1 else wlk F (enFind (dirE F i.toNat) n) (a ++ b)) else -1 := rfl
    rw [e1] at h
    rw [e2]
    by_cases hd : dirO F i.toNat = true
    · rw [if_pos hd] at h e1 ⊢
      by_cases hf : enFind (dirE F i.toNat) n < 0
      · rw [if_pos hf] at h; omega
      · rw [if_neg hf] at h e1 ⊢
        rw [e1]
        exact wlk_app a b _ (by omega) h
    · rw [if_neg hd] at h; omega
theorem wlk_neg {F : FsD} {i : Int} {ns : List ByteArray} (hi : 0 ≤ i) (h : wlk F i ns < 0) : wlk F i ns = -1 := by
  induction ns generalizing i with
  | nil => simp only [wlk] at h; omega
  | cons n ns ih =>
    simp only [wlk] at h ⊢
    by_cases hd : dirO F i.toNat = true
    · rw [if_pos hd] at h ⊢
      by_cases hf : enFind (dirE F i.toNat) n < 0
      · rw [if_pos hf]
      · rw [if_neg hf] at h ⊢
        exact ih (by omega) h
    · rw [if_neg hd]

noncomputable def szD (F : FsD) : Nat → Nat → Nat
  | 0, _ => 0
  | d + 1, i => sm (fun e => 1 + szD F d e.2.toNat) (dirE F i)
def bnd : Nat → Nat
  | 0 => 0
  | d + 1 => 80 * (1 + bnd d)
theorem szD_le {F : FsD} : ∀ d i, szD F d i ≤ bnd d
  | 0, _ => Nat.le_refl _
  | d + 1, i => by
    unfold szD bnd
    have h1 := sm_bound (g := fun (e : EntD) => 1 + szD F d e.2.toNat) (B := 1 + bnd d) (dirE F i) (fun e _ => by have := szD_le (F := F) d e.2.toNat; omega)
    exact Nat.le_trans h1 (Nat.mul_le_mul_right _ dirE_len)
def seeW (t : ByteArray) (s : Int) (p : PlD) : Int × Bool := (if bt p.1 = bt t then p.2.2 else s, decide ((if bt p.1 = bt t then p.2.2 else s) = -1))

theorem stpW {t : ByteArray} {p : PlD} : ∀ (es : List EntD) (q : List PlD), (∀ e ∈ es, 1 ≤ e.2) →
    (∃ e ∈ es, bt (plOf p e).1 = bt t ∧ (stp (seeW t) p es (-1) q).1 = e.2 ∧ (stp (seeW t) p es (-1) q).2.2 = false) ∨ ((∀ e ∈ es, bt (plOf p e).1 ≠ bt t) ∧ stp (seeW t) p es (-1) q = (-1, q ++ es.map (plOf p), true))
  | [], q, _ => .inr ⟨fun e he => (by cases he), by simp [stp]⟩
  | e :: es, q, h => by
    have h1 := h e (List.mem_cons_self ..)
    unfold stp
    by_cases he : bt (plOf p e).1 = bt t
    · have hs : seeW t (-1) (plOf p e) = (e.2, false) := by
        unfold seeW
        rw [if_pos he]
        show (e.2, decide (e.2 = -1)) = _
        rw [decide_eq_false (by omega)]
      rw [hs]
      exact .inl ⟨e, List.mem_cons_self .., he, rfl, rfl⟩
    · have hs : seeW t (-1) (plOf p e) = (-1, true) := by
        unfold seeW
        rw [if_neg he]; rfl
      rw [hs, if_pos rfl]
      rcases stpW es (q ++ [plOf p e]) (fun y hy => h y (List.mem_cons_of_mem _ hy)) with ⟨y, hy, h2⟩ | ⟨h2, h3⟩
      · exact .inl ⟨y, List.mem_cons_of_mem _ hy, h2⟩
      · refine .inr ⟨fun y hy => ?_, by rw [h3]; simp⟩
        rcases List.mem_cons.1 hy with rfl | hy
        · exact he
        · exact h2 y hy

def txs (l : List (List UInt8)) : List ByteArray := l.map tx
theorem child_led {F : FsD} {p : PlD} {e : EntD} (hP : PlR F p) (hA : bt p.1 ≠ [] → wlk F 0 (txs (nms (bt p.1))) = p.2.2) (he : e ∈ dirE F p.2.2.toNat) (hd : dirO F p.2.2.toNat = true) (h : bt (plOf p e).1 ≠ []) : wlk F 0 (txs (nms (bt (plOf p e).1))) = e.2 := by
  obtain ⟨c1, c2, c3, c4⟩ := child_path (p := p) (e := e) hP.2.2.2.2.1
  obtain ⟨d1, d2, d3⟩ := c4 h
  have hn := dirE_nodes e he
  have h0 := hP.1
  rw [d2]
  unfold txs
  rw [List.map_append]
  have hA' := hA (c3.1 h).1
  unfold txs at hA'
  rw [wlk_app _ _ _ (by omega) (by rw [hA']; omega), hA']
  simp only [List.map_cons, List.map_nil, wlk]
  rw [tx_bt, if_pos hd, dirE_find he, if_neg (by omega)]

theorem wkF {F : FsD} {t : ByteArray} (ht : ptOk (bt t) = true) (hr : bt t ≠ [47]) : ∀ (f : Nat) (Q : List PlD),
    (∀ p ∈ Q, PlR F p ∧ okD F (dep p + 1) p.2.2.toNat ∧ (bt p.1 ≠ [] → wlk F 0 (txs (nms (bt p.1))) = p.2.2)) →
    (wlk F 0 (txs (nms (bt t))) ≠ -1 → ∃ p ∈ Q, bt p.1 ≠ [] ∧ ∃ n r, nms (bt t) = nms (bt p.1) ++ n :: r) →
    sm (fun p => 1 + szD F (dep p + 1) p.2.2.toNat) Q < f → sm (fun p => 1 + szD F (dep p + 1) p.2.2.toNat) Q ≤ 1000000000000 →
    ∃ b, wk F (seeW t) f (-1) Q = some (wlk F 0 (txs (nms (bt t))), b)
  | 0, _, _, _, h, _ => by omega
  | f + 1, [], _, hB, _, _ => by
    by_cases h : wlk F 0 (txs (nms (bt t))) = -1
    · exact ⟨true, by rw [h]; rfl⟩
    · obtain ⟨p, hp, _⟩ := hB h
      cases hp
  | f + 1, p :: q, hQ, hB, hf, hc => by
    obtain ⟨hP, hok, hA⟩ := hQ p (List.mem_cons_self ..)
    have hnat : ((p.2.2.toNat : Nat) : Int) = p.2.2 := by have := hP.1; omega
    have hql : q.length ≤ sm (fun p => 1 + szD F (dep p + 1) p.2.2.toNat) q := by
      rw [← sm_one q]; exact sm_le _ fun a _ => by omega
    simp only [sm] at hf hc
    have hG : PlG F p q := ⟨hP.1, hP.2.1, hP.2.2.1, by omega⟩
    have htn := pt_names ht hr
    unfold wk
    rw [if_pos hG]
    by_cases hk : (ndAt F ((p.2.2.toNat : Nat) : Int)).k = 2
    · have hd : dirO F p.2.2.toNat = true := by
        rcases hok with h | h
        · exact absurd hk h
        · exact h.1
      have hE : ∀ e ∈ dirE F p.2.2.toNat, entP F p.2.2.toNat e ∧ okD F (dep p) e.2.toNat := by
        rcases hok with h | h
        · exact absurd hk h
        · exact h.2
      have hdp : ∀ e ∈ dirE F p.2.2.toNat, 1 ≤ dep p := fun e he => by
        have h2 := (hE e he).2
        cases hdp : dep p with
        | zero => rw [hdp] at h2; exact h2.elim
        | succ d => omega
      have hen : entO F p.2.2.toNat = true := by unfold entO; rw [if_pos hk]; exact hd
      rw [if_pos hen]
      have hled := fun e he => child_led (F := F) (p := p) (e := e) hP hA he hd
      have hch := fun e he => child_right (F := F) (p := p) (e := e) hP he (hE e he).1 (hdp e he)
      rcases stpW (t := t) (p := p) (dirE F p.2.2.toNat) (p :: q) (fun e he => (dirE_nodes e he).1) with ⟨e, he, e1, e2, e3⟩ | ⟨e1, e2⟩
      · refine ⟨false, ?_⟩
        rw [e3, e2, if_neg (by decide)]
        have hne : bt (plOf p e).1 ≠ [] := by rw [e1]; intro h; rw [h] at ht; exact absurd ht (by decide)
        have := hled e he hne
        rw [e1] at this
        rw [this]
      · rw [e2, if_pos rfl]
        show ∃ b, wk F (seeW t) f (-1) ((p :: q) ++ (dirE F p.2.2.toNat).map (plOf p)).tail = _
        rw [List.cons_append, List.tail_cons]
        have hsz : sm (fun p => 1 + szD F (dep p + 1) p.2.2.toNat) ((dirE F p.2.2.toNat).map (plOf p)) = szD F (dep p + 1) p.2.2.toNat := by
          rw [sm_map]
          show _ = sm (fun e => 1 + szD F (dep p) e.2.toNat) (dirE F p.2.2.toNat)
          refine sm_eq _ fun e he => ?_
          show 1 + szD F (dep (plOf p e) + 1) e.2.toNat = _
          obtain ⟨c1, c2, c3, c4⟩ := child_path (p := p) (e := e) hP.2.2.2.2.1
          by_cases h0 : bt (plOf p e).1 = []
          · have hkk := (hch e he).2.2.2.resolve_left (fun h => h h0)
            have hn := dirE_nodes e he
            have hk2 : (ndAt F ((e.2.toNat : Nat) : Int)).k ≠ 2 := by rw [show ((e.2.toNat : Nat) : Int) = e.2 by omega, hkk]; decide
            have hz : ∀ d, szD F d e.2.toNat = 0 := fun d => by
              cases d with
              | zero => rfl
              | succ d => unfold szD; rw [dirE_non hk2]; rfl
            rw [hz, hz]
          · rw [(c4 h0).2.2]
        refine wkF ht hr f (q ++ (dirE F p.2.2.toNat).map (plOf p)) (fun p' hp' => ?_) (fun hR => ?_) (by rw [sm_app, hsz]; omega) (by rw [sm_app, hsz]; omega)
        · rcases List.mem_append.1 hp' with h | h
          · exact hQ p' (List.mem_cons_of_mem _ h)
          · obtain ⟨e, he, rfl⟩ := List.mem_map.1 h
            exact ⟨(hch e he).1, (hch e he).2.1.2 (hE e he).2, fun h0 => hled e he h0⟩
        · obtain ⟨p', hp', h0, n, r, hnr⟩ := hB hR
          rcases List.mem_cons.1 hp' with rfl | hp'
          · rw [hnr] at hR
            unfold txs at hR
            have hA' := hA h0
            unfold txs at hA'
            have hp0 := hP.1
            rw [List.map_append, wlk_app _ _ _ (by omega) (by rw [hA']; omega), hA'] at hR
            simp only [List.map_cons, wlk] at hR
            rw [if_pos hd] at hR
            by_cases hfn : enFind (dirE F p'.2.2.toNat) (tx n) < 0
            · rw [if_pos hfn] at hR; exact absurd rfl hR
            · obtain ⟨e, he, f1, f2⟩ := dirE_found hfn
              have hnm : nmOk n = true := by
                have := htn.2.2.2.2
                rw [hnr, List.all_append, List.all_cons] at this
                simp only [Bool.and_eq_true] at this
                exact this.2.1
              have hbe : bt e.1 = n := by rw [f1, bt_tx]
              obtain ⟨c1, c2, c3, c4⟩ := child_path (p := p') (e := e) hP.2.2.2.2.1
              have hcne : bt (plOf p' e).1 ≠ [] := c3.2 ⟨h0, by rw [hbe]; exact hnm, hdp e he⟩
              obtain ⟨d1, d2, d3⟩ := c4 hcne
              cases r with
              | nil =>
                refine absurd ?_ (e1 e he)
                rw [← ptOf_nms d1, d2, hbe, ← hnr, ptOf_nms ht]
              | cons m r =>
                exact ⟨plOf p' e, List.mem_append.2 (.inr (List.mem_map.2 ⟨e, he, rfl⟩)), hcne, m, r, by rw [d2, hbe, hnr]; simp⟩
          · exact ⟨p', List.mem_append.2 (.inl hp'), h0, n, r, hnr⟩
    · have hen : entO F p.2.2.toNat = true := by unfold entO; rw [if_neg hk]
      rw [if_pos hen, dirE_non hk]
      show ∃ b, wk F (seeW t) f (-1) q = _
      refine wkF ht hr f q (fun p' hp' => hQ p' (List.mem_cons_of_mem _ hp')) (fun hR => ?_) (by omega) (by omega)
      obtain ⟨p', hp', h0, n, r, hnr⟩ := hB hR
      rcases List.mem_cons.1 hp' with rfl | hp'
      · rw [hnr] at hR
        unfold txs at hR
        have hA' := hA h0
        unfold txs at hA'
        have hp0 := hP.1
        rw [List.map_append, wlk_app _ _ _ (by omega) (by rw [hA']; omega), hA'] at hR
        simp only [List.map_cons, wlk] at hR
        rw [if_neg (fun h => hk (dirO_kind h))] at hR
        exact absurd rfl hR
      · exact ⟨p', hp', h0, n, r, hnr⟩

theorem find_res {F : FsD} (h : FsOkP F) {t : ByteArray} (ht : ptOk (bt t) = true) (hr : bt t ≠ [47]) : ∃ f b, wk F (seeW t) f (-1) [rootPl] = some (wlk F 0 (txs (nms (bt t))), b) := by
  have hd4 : dep rootPl = 4 := bt_ne_root (bt_tx _)
  have hb : bt rootPl.1 = [47] := bt_tx _
  have hsz := szD_le (F := F) 5 0
  have hb5 : bnd 5 ≤ 100000000000 := by decide
  have hs : sm (fun p => 1 + szD F (dep p + 1) p.2.2.toNat) [rootPl] = 1 + szD F 5 0 := by
    show 1 + szD F (dep rootPl + 1) rootPl.2.2.toNat + 0 = _
    rw [hd4]; rfl
  refine ⟨2 + szD F 5 0, wkF ht hr _ _ (fun p hp => ?_) (fun _ => ⟨rootPl, List.mem_singleton.2 rfl, by rw [hb]; simp, ?_⟩) (by rw [hs]; omega) (by rw [hs]; omega)⟩
  · rw [List.mem_singleton.1 hp]
    refine ⟨root_right h.1, by rw [hd4]; exact h.2.1, fun _ => ?_⟩
    rw [hb, nms_root]; rfl
  · rw [hb, nms_root]
    have htn := pt_names ht hr
    cases hc : nms (bt t) with
    | nil => rw [hc] at htn; simp at htn
    | cons n r => exact ⟨n, r, rfl⟩

/-- What is told of a path, and of the hidden file. -/
noncomputable def wkAt (F : FsD) (s : ByteArray) : Int := if foB F = true ∧ ptOk (bt s) = true then wlk F 0 (txs (nms (bt s))) else -1
theorem okD_walk {F : FsD} : ∀ (ns : List ByteArray) (d : Nat) (i : Int), 0 ≤ i → i.toNat < F.ns.length → (ndAt F i).k ≠ 0 → okD F d i.toNat → 0 ≤ wlk F i ns → (wlk F i ns).toNat < F.ns.length ∧ (ndAt F (wlk F i ns)).k ≠ 0
  | [], _, i, _, h1, h2, _, _ => ⟨h1, h2⟩
  | n :: ns, 0, i, _, _, _, h, _ => h.elim
  | n :: ns, d + 1, i, h0, h1, h2, h3, h4 => by
    simp only [wlk] at h4 ⊢
    by_cases hd : dirO F i.toNat = true
    · rw [if_pos hd] at h4 ⊢
      by_cases hf : enFind (dirE F i.toNat) n < 0
      · rw [if_pos hf] at h4; omega
      · rw [if_neg hf] at h4 ⊢
        obtain ⟨e, he, f1, f2⟩ := dirE_found hf
        have hE : entP F i.toNat e ∧ okD F d e.2.toNat := by
          rcases h3 with h | h
          · exact absurd (dirO_kind hd) h
          · exact h.2 e he
        have hn := dirE_nodes e he
        rw [← f2] at h4 ⊢
        exact okD_walk ns d e.2 (by omega) (by have := hE.1.1; omega) hE.1.2.1 hE.2 h4
    · rw [if_neg hd] at h4; omega
theorem walk_used {F : FsD} (h : FsOkP F) (ns : List ByteArray) (hw : 0 ≤ wlk F 0 ns) : UsP F (wlk F 0 ns) := by
  obtain ⟨n, hn0, hk⟩ := h.1.2.1
  have hk0 : (ndAt F (0 : Int)).k = 2 := by unfold ndAt; simp [hn0, hk]
  have h2 := h.1.1.1
  obtain ⟨h3, h4⟩ := okD_walk ns 5 0 (by omega) (by simp; omega) (by rw [hk0]; decide) h.2.1 hw
  exact ⟨h.1, hw, h3, h4⟩
end Go.Proofs.YthfgfhbinggpfaaDoor
