/-
  Own text, plain: names and paths as lists of bytes: a text cut at slashes, names, paths, what is within what, normal paths. Nothing of the program.
-/
import Derived.Test.YtmnngfaelanbcaaBase
namespace Go.Proofs.Ytmnngfaelanbcaa

/-- A byte of a name. -/
def nb (b : UInt8) : Bool := (decide (97 ≤ b.toNat) && decide (b.toNat ≤ 122)) || (decide (48 ≤ b.toNat) && decide (b.toNat ≤ 57))
/-- A name. -/
def nmOk (l : List UInt8) : Bool := decide (1 ≤ l.length) && decide (l.length ≤ 6) && l.all nb

/-- A text cut at its slashes. -/
def cutL : List UInt8 → List (List UInt8)
  | [] => [[]]
  | b :: t => if b = 47 then [] :: cutL t else match cutL t with
    | h :: r => (b :: h) :: r
    | [] => [[b]]
theorem cutL_cons (l : List UInt8) : ∃ h r, cutL l = h :: r := by
  induction l with
  | nil => exact ⟨_, _, rfl⟩
  | cons b t ih =>
    obtain ⟨h, r, e⟩ := ih
    by_cases hb : b = 47
    · exact ⟨[], cutL t, by simp [cutL, hb]⟩
    · exact ⟨b :: h, r, by simp [cutL, hb, e]⟩
theorem cutL_slash (t : List UInt8) : cutL (47 :: t) = [] :: cutL t := by simp [cutL]
theorem cutL_step {b : UInt8} {t h : List UInt8} {r : List (List UInt8)} (hb : b ≠ 47) (e : cutL t = h :: r) : cutL (b :: t) = (b :: h) :: r := by simp [cutL, hb, e]
theorem cutL_app (x t : List UInt8) : cutL (x ++ 47 :: t) = cutL x ++ cutL t := by
  induction x with
  | nil => simp [cutL]
  | cons b x ih =>
    by_cases hb : b = 47
    · subst hb; rw [List.cons_append, cutL_slash, cutL_slash, ih]; rfl
    · obtain ⟨h, r, e⟩ := cutL_cons x
      rw [List.cons_append, cutL_step hb (by rw [ih, e]; rfl), cutL_step hb e]
      rfl
theorem cutL_plain (x : List UInt8) (h : ∀ b ∈ x, b ≠ 47) : cutL x = [x] := by
  induction x with
  | nil => rfl
  | cons b x ih => exact cutL_step (h b (by simp)) (ih fun c hc => h c (by simp [hc]))
theorem cutL_one {x : List UInt8} (h : (cutL x).length ≤ 1) : cutL x = [x] := by
  induction x with
  | nil => rfl
  | cons b x ih =>
    obtain ⟨y, r, e⟩ := cutL_cons x
    by_cases hb : b = 47
    · subst hb; rw [cutL_slash, e] at h; simp at h
    · rw [cutL_step hb e] at h
      have := ih (by rw [e]; simpa using h)
      exact cutL_step hb this
theorem nb_slash : nb 47 = false := by decide
theorem nmOk_no {x : List UInt8} (h : nmOk x = true) : ∀ b ∈ x, b ≠ 47 := by
  intro b hb e
  subst e
  simp only [nmOk, Bool.and_eq_true, List.all_eq_true] at h
  have := h.2 47 hb
  rw [nb_slash] at this
  cases this
theorem nmOk_cut {x : List UInt8} (h : nmOk x = true) : cutL x = [x] := cutL_plain x (nmOk_no h)

/-- Names, each behind a slash. -/
def joinL (l : List (List UInt8)) : List UInt8 := l.flatMap (47 :: ·)
theorem joinL_cons (x : List UInt8) (l : List (List UInt8)) : joinL (x :: l) = 47 :: (x ++ joinL l) := by simp [joinL]
theorem joinL_app (a b : List (List UInt8)) : joinL (a ++ b) = joinL a ++ joinL b := by simp [joinL]
theorem cutL_join (l : List (List UInt8)) : ∀ x, cutL (x ++ joinL l) = cutL x ++ l.flatMap cutL := by
  induction l with
  | nil => intro x; simp [joinL]
  | cons y l ih => intro x; rw [joinL_cons, cutL_app, ih y]; simp
theorem cut_names {l : List (List UInt8)} (h : l.all nmOk = true) : l.flatMap cutL = l := by
  induction l with
  | nil => rfl
  | cons y l ih =>
    simp only [List.all_cons, Bool.and_eq_true] at h
    rw [List.flatMap_cons, nmOk_cut h.1, ih h.2]; rfl
theorem cut_joined {l : List (List UInt8)} (h : l.all nmOk = true) : cutL (joinL l) = [] :: l := by
  have := cutL_join l []
  rw [List.nil_append, cut_names h] at this
  simpa [cutL] using this

/-- What is behind the first slash. -/
def tailsOk (q : List (List UInt8)) : Bool := match q with
  | [] :: r => decide (1 ≤ r.length) && decide (r.length ≤ 4) && r.all nmOk
  | _ => false
/-- A path. -/
def ptOk (p : List UInt8) : Bool := p == [47] || tailsOk (cutL p)
/-- Its names. -/
def nms (p : List UInt8) : List (List UInt8) := if ptOk p && !(p == [47]) then (cutL p).tail else []
/-- The path of names. -/
def ptOf (l : List (List UInt8)) : List UInt8 := if l = [] then [47] else if decide (l.length ≤ 4) && l.all nmOk then joinL l else []

theorem tailsOk_iff {q : List (List UInt8)} : tailsOk q = true ↔ ∃ r, q = [] :: r ∧ 1 ≤ r.length ∧ r.length ≤ 4 ∧ r.all nmOk = true := by
  unfold tailsOk
  split
  · rename_i r
    simp only [Bool.and_eq_true, decide_eq_true_eq]
    constructor
    · rintro ⟨⟨h1, h2⟩, h3⟩; exact ⟨r, rfl, h1, h2, h3⟩
    · rintro ⟨r', e, h1, h2, h3⟩
      obtain rfl : r = r' := by simpa using e
      exact ⟨⟨h1, h2⟩, h3⟩
  · rename_i h
    constructor
    · intro h; cases h
    · rintro ⟨r, e, _⟩; exact absurd e (h r)

theorem uncut : ∀ {p : List UInt8} {h : List UInt8} {r : List (List UInt8)}, cutL p = h :: r → p = h ++ joinL r
  | [], h, r, e => by simp [cutL] at e; obtain ⟨rfl, rfl⟩ := e; rfl
  | b :: t, h, r, e => by
    obtain ⟨h', r', e'⟩ := cutL_cons t
    by_cases hb : b = 47
    · subst hb
      rw [cutL_slash, e'] at e
      simp at e
      obtain ⟨rfl, rfl⟩ := e
      rw [List.nil_append, joinL_cons, ← uncut e']
    · rw [cutL_step hb e'] at e
      simp at e
      obtain ⟨rfl, rfl⟩ := e
      rw [List.cons_append, ← uncut e']

/-- A path that is not the root: its names are one to four, and it is theirs. -/
theorem pt_names {p : List UInt8} (h : ptOk p = true) (h' : p ≠ [47]) : cutL p = [] :: nms p ∧ p = joinL (nms p) ∧ 1 ≤ (nms p).length ∧ (nms p).length ≤ 4 ∧ (nms p).all nmOk = true := by
  have hb : (p == [47]) = false := by simpa using h'
  have ht : tailsOk (cutL p) = true := by simpa [ptOk, hb] using h
  obtain ⟨r, e, h1, h2, h3⟩ := tailsOk_iff.1 ht
  have en : nms p = r := by simp [nms, h, hb, e]
  rw [en]
  exact ⟨e, by simpa using uncut e, h1, h2, h3⟩
theorem nms_root : nms [47] = [] := by simp [nms]
theorem nms_not {p : List UInt8} (h : ptOk p = false) : nms p = [] := by simp [nms, h]
theorem ptOk_root : ptOk [47] = true := by simp [ptOk]
theorem nms_all (p : List UInt8) : (nms p).length ≤ 4 ∧ (nms p).all nmOk = true := by
  by_cases h : ptOk p = true
  · by_cases h' : p = [47]
    · subst h'; rw [nms_root]; simp
    · exact ⟨(pt_names h h').2.2.2.1, (pt_names h h').2.2.2.2⟩
  · rw [nms_not (by simpa using h)]; simp
theorem joinL_ne_root {l : List (List UInt8)} (h : l.all nmOk = true) : joinL l ≠ [47] := by
  intro e
  have := cut_joined h
  rw [e, cutL_slash] at this
  simp [cutL] at this
  subst this
  simp [nmOk] at h
theorem pt_of_names {l : List (List UInt8)} (h1 : 1 ≤ l.length) (h2 : l.length ≤ 4) (h : l.all nmOk = true) : ptOk (joinL l) = true ∧ nms (joinL l) = l := by
  have hr : (joinL l == [47]) = false := by simpa using joinL_ne_root h
  have ho : ptOk (joinL l) = true := by simp [ptOk, hr, tailsOk_iff.2 ⟨l, cut_joined h, h1, h2, h⟩]
  exact ⟨ho, by simp [nms, ho, hr, cut_joined h]⟩
theorem ptOf_nil : ptOf [] = [47] := by simp [ptOf]
theorem ptOf_ok {l : List (List UInt8)} (h1 : 1 ≤ l.length) (h2 : l.length ≤ 4) (h : l.all nmOk = true) : ptOf l = joinL l := by
  have : l ≠ [] := by intro e; subst e; simp at h1
  simp only [ptOf, this, h2, h]; simp
theorem ptOf_nms {p : List UInt8} (h : ptOk p = true) : ptOf (nms p) = p := by
  by_cases h' : p = [47]
  · subst h'; rw [nms_root, ptOf_nil]
  · obtain ⟨_, h2, h3, h4, h5⟩ := pt_names h h'
    rw [ptOf_ok h3 h4 h5, ← h2]
theorem nms_ptOf {l : List (List UInt8)} (h2 : l.length ≤ 4) (h : l.all nmOk = true) : ptOk (ptOf l) = true ∧ nms (ptOf l) = l := by
  by_cases h1 : 1 ≤ l.length
  · rw [ptOf_ok h1 h2 h]; exact pt_of_names h1 h2 h
  · obtain rfl : l = [] := List.eq_nil_of_length_eq_zero (by omega)
    rw [ptOf_nil]; exact ⟨ptOk_root, nms_root⟩

theorem flat_len_ge (l : List (List UInt8)) : l.length ≤ (l.flatMap cutL).length := by
  induction l with
  | nil => simp
  | cons y l ih =>
    obtain ⟨h, r, e⟩ := cutL_cons y
    rw [List.flatMap_cons, List.length_append, e, List.length_cons, List.length_cons]; omega
theorem flat_len {l : List (List UInt8)} (hl : (l.flatMap cutL).length ≤ l.length) : l.flatMap cutL = l := by
  induction l with
  | nil => rfl
  | cons y l ih =>
    obtain ⟨h, r, e⟩ := cutL_cons y
    rw [List.flatMap_cons, List.length_append] at hl
    have := flat_len_ge l
    rw [List.length_cons] at hl
    have hy : cutL y = [y] := cutL_one (by rw [e] at hl ⊢; rw [List.length_cons] at hl ⊢; omega)
    rw [List.flatMap_cons, hy, ih (by rw [hy, List.length_singleton] at hl; omega)]; rfl

/-- The path of names, asked by joining first and looking then. -/
theorem ptOf_asked (l : List (List UInt8)) (h0 : l ≠ []) : ptOf l = if ptOk (joinL l) = true ∧ (nms (joinL l)).length = l.length then joinL l else [] := by
  have h1 : 1 ≤ l.length := by cases l with | nil => exact absurd rfl h0 | cons => simp
  split
  · rename_i h
    obtain ⟨ho, hn⟩ := h
    by_cases hr : joinL l = [47]
    · rw [hr, nms_root] at hn; simp at hn; omega
    · obtain ⟨hc, _, _, h4, h5⟩ := pt_names ho hr
      have hj := cutL_join l []
      rw [List.nil_append, hc] at hj
      simp [cutL] at hj
      rw [hj] at hn h4 h5
      have hf := flat_len (l := l) (by omega)
      rw [hf] at h4 h5
      exact ptOf_ok h1 h4 h5
  · rename_i h
    unfold ptOf
    rw [if_neg h0]
    split
    · rename_i h'
      simp only [Bool.and_eq_true, decide_eq_true_eq] at h'
      have := pt_of_names h1 h'.1 h'.2
      exact absurd ⟨this.1, by rw [this.2]⟩ h
    · rfl

/-! ### A path looked at byte by byte -/
def scanP : List UInt8 → Nat → Nat → Bool
  | [], d, z => decide (0 < z) && decide (d ≤ 4)
  | b :: t, d, z => if b = 47 then (if 0 < d ∧ z = 0 then false else scanP t (d + 1) 0) else if d = 0 ∨ 6 < z + 1 ∨ nb b = false then false else scanP t d (z + 1)
theorem scanP_in (t : List UInt8) : ∀ (d z : Nat) (h : List UInt8) (r : List (List UInt8)), cutL t = h :: r → z ≤ 6 → scanP t (d + 1) z = (decide (1 ≤ z + h.length) && decide (z + h.length ≤ 6) && h.all nb && r.all nmOk && decide (d + 1 + r.length ≤ 4)) := by
  induction t with
  | nil => intro d z h r e hz; simp [cutL] at e; obtain ⟨rfl, rfl⟩ := e; simp [scanP, hz, show (0 < z) = (1 ≤ z) from rfl]
  | cons b t ih =>
    intro d z h r e hz
    obtain ⟨h', r', e'⟩ := cutL_cons t
    by_cases hb : b = 47
    · subst hb
      rw [cutL_slash, e'] at e
      simp at e
      obtain ⟨rfl, rfl⟩ := e
      rw [scanP, if_pos rfl]
      by_cases h0 : z = 0
      · subst h0; simp
      · rw [if_neg (by omega), ih (d + 1) 0 h' r' e' (by omega)]
        have hz1 : 1 ≤ z := by omega
        simp only [List.length_nil, Nat.add_zero, hz, hz1, List.all_nil, List.all_cons, nmOk, List.length_cons, Nat.zero_add, decide_true, Bool.true_and]
        rw [show d + 1 + 1 + r'.length = d + 1 + (r'.length + 1) from by omega]
    · rw [cutL_step hb e'] at e
      simp at e
      obtain ⟨rfl, rfl⟩ := e
      rw [scanP, if_neg hb]
      by_cases hn : nb b = true
      · by_cases h6 : 6 < z + 1
        · rw [if_pos (by omega)]
          have : ¬ (z + (h'.length + 1) ≤ 6) := by omega
          simp [this]
        · rw [if_neg (by simp [hn]; omega), ih d (z + 1) h' r' e' (by omega)]
          simp only [List.length_cons, List.all_cons, hn, Bool.true_and]
          have e1 : z + 1 + h'.length = z + (h'.length + 1) := by omega
          rw [e1]
      · have hn' : nb b = false := by simpa using hn
        rw [if_pos (Or.inr (Or.inr hn'))]
        simp [hn']
theorem scanP_all (p : List UInt8) : (p == [47] || scanP p 0 0) = ptOk p := by
  unfold ptOk
  cases p with
  | nil => simp [scanP, cutL, tailsOk]
  | cons b t =>
    obtain ⟨h, r, e⟩ := cutL_cons t
    by_cases hb : b = 47
    · subst hb
      have e2 : (47 :: t == [47]) = (t == []) := by simp
      rw [scanP, if_pos rfl, if_neg (by omega), cutL_slash, scanP_in t 0 0 h r e (by omega), e]
      simp only [tailsOk, List.length_cons, List.all_cons, nmOk, Nat.zero_add]
      congr 1
      simp only [show 1 ≤ r.length + 1 from by omega, decide_true, Bool.true_and]
      have : decide (1 + r.length ≤ 4) = decide (r.length + 1 ≤ 4) := by congr 1; rw [Nat.add_comm]
      rw [this]
      cases decide (r.length + 1 ≤ 4) <;> simp
    · rw [scanP, if_neg hb, if_pos (Or.inl rfl), cutL_step hb e]
      simp [tailsOk]

/-! ### Within -/
def wthn (p q : List UInt8) : Bool := ptOk p && ptOk q && decide (nms q <+: nms p)
theorem wthn_said {p q : List UInt8} (hp : ptOk p = true) (hq : ptOk q = true) : decide (nms q <+: nms p) = (p == q || q == [47] || decide (q ++ [47] <+: p)) := by
  by_cases hq' : q = [47]
  · subst hq'; simp [nms_root]
  have hqb : (q == [47]) = false := by simpa using hq'
  obtain ⟨hqc, hqj, hq1, hq4, hqa⟩ := pt_names hq hq'
  by_cases hp' : p = [47]
  · subst hp'
    rw [nms_root]
    have h1 : ¬ nms q <+: [] := by intro h; have := h.length_le; simp at this; rw [this] at hq1; simp at hq1
    have h2 : ¬ ([47] : List UInt8) = q := fun h => hq' h.symm
    have h3 : ¬ q ++ [47] <+: [47] := by
      intro h; have := h.length_le; simp at this
      rw [hqj] at this
      cases hn : nms q with
      | nil => rw [hn] at hq1; simp at hq1
      | cons y l => rw [hn, joinL_cons] at this; simp at this
    simp [h1, h2, h3, hqb]
  · obtain ⟨hpc, hpj, hp1, hp4, hpa⟩ := pt_names hp hp'
    rw [hqb, Bool.or_false, Bool.eq_iff_iff]
    simp only [decide_eq_true_eq, Bool.or_eq_true, beq_iff_eq]
    constructor
    · rintro ⟨c, hc⟩
      cases c with
      | nil => left; rw [List.append_nil] at hc; rw [hpj, hqj, hc]
      | cons y c =>
        right
        refine ⟨y ++ joinL c, ?_⟩
        have := congrArg joinL hc
        rw [joinL_app, ← hpj, ← hqj, joinL_cons] at this
        rw [← this]; simp
    · rintro (rfl | ⟨t, ht⟩)
      · exact List.prefix_refl _
      · refine ⟨cutL t, ?_⟩
        have : cutL p = cutL q ++ cutL t := by rw [← ht, List.append_assoc]; exact cutL_app q t
        rw [hpc, hqc] at this
        simpa using this.symm

/-! ### Normal paths -/
def nrm : List (List UInt8) → List (List UInt8) → Option (List (List UInt8))
  | st, [] => some st
  | st, x :: t => if x = [] ∨ x = [46] then nrm st t else if x = [46, 46] then nrm st.dropLast t else if nmOk x then nrm (st ++ [x]) t else none
/-- The normal form, the empty text where there is none. -/
def normL (s : List UInt8) : List UInt8 := if s.length ≤ 60 ∧ s.head? = some 47 then (match nrm [] (cutL s) with | some l => ptOf l | none => []) else []
theorem nmOk_dots {x : List UInt8} (h : nmOk x = true) : ¬ (x = [] ∨ x = [46]) ∧ x ≠ [46, 46] := by
  refine ⟨?_, ?_⟩
  · rintro (rfl | rfl) <;> revert h <;> decide
  · rintro rfl; revert h; decide
theorem nrm_names {l : List (List UInt8)} (h : l.all nmOk = true) : ∀ st t, nrm st (l ++ t) = nrm (st ++ l) t := by
  induction l with
  | nil => intro st t; simp
  | cons y l ih =>
    intro st t
    simp only [List.all_cons, Bool.and_eq_true] at h
    have := nmOk_dots h.1
    rw [List.cons_append, nrm, if_neg this.1, if_neg this.2, if_pos h.1, ih h.2]
    simp
theorem nrm_all : ∀ (t : List (List UInt8)) (st l : List (List UInt8)), st.all nmOk = true → nrm st t = some l → l.all nmOk = true
  | [], st, l, h, e => by simp [nrm] at e; subst e; exact h
  | x :: t, st, l, h, e => by
    rw [nrm] at e
    split at e
    · exact nrm_all t st l h e
    · split at e
      · refine nrm_all t _ l ?_ e
        rw [List.all_eq_true] at h ⊢
        intro y hy
        exact h y (List.dropLast_subset _ hy)
      · split at e
        · rename_i hx
          refine nrm_all t _ l ?_ e
          rw [List.all_append, h]; simp [hx]
        · cases e
theorem ptOf_some {l : List (List UInt8)} (h : ptOf l ≠ []) : l.length ≤ 4 ∧ l.all nmOk = true := by
  unfold ptOf at h
  split at h
  · rename_i h0; subst h0; simp
  · split at h
    · rename_i h2; simpa using h2
    · exact absurd rfl h
/-- A normal form is a path. -/
theorem normL_path {s : List UInt8} (h : normL s ≠ []) : ptOk (normL s) = true := by
  unfold normL at h ⊢
  split at h
  · rename_i hs
    rw [if_pos hs]
    split at h
    · rename_i l hl
      have := ptOf_some h
      exact (nms_ptOf this.1 this.2).1
    · exact absurd rfl h
  · exact absurd rfl h
theorem join_len {l : List (List UInt8)} (h : l.all nmOk = true) : (joinL l).length ≤ 7 * l.length := by
  induction l with
  | nil => simp [joinL]
  | cons y l ih =>
    simp only [List.all_cons, Bool.and_eq_true] at h
    have := ih h.2
    have hy : y.length ≤ 6 := by have := h.1; simp [nmOk] at this; omega
    rw [joinL_cons]; simp; omega
theorem pt_len {p : List UInt8} (h : ptOk p = true) : 1 ≤ p.length ∧ p.length ≤ 28 ∧ p.head? = some 47 := by
  by_cases h' : p = [47]
  · subst h'; simp
  · obtain ⟨_, hj, h1, h4, ha⟩ := pt_names h h'
    have := join_len ha
    rw [← hj] at this
    refine ⟨?_, by omega, ?_⟩
    · rw [hj]
      cases hn : nms p with
      | nil => rw [hn] at h1; simp at h1
      | cons y l => rw [joinL_cons]; simp
    · rw [hj]
      cases hn : nms p with
      | nil => rw [hn] at h1; simp at h1
      | cons y l => rw [joinL_cons]; simp
/-- A path is its own normal form, and behind one name more and two dots, too. -/
theorem norm_same {p : List UInt8} (h : ptOk p = true) : normL p = p := by
  have hl := pt_len h
  unfold normL
  rw [if_pos ⟨by omega, hl.2.2⟩]
  by_cases h' : p = [47]
  · subst h'
    have : nrm [] (cutL [47]) = some [] := by simp [cutL, nrm]
    rw [this]; exact ptOf_nil
  · obtain ⟨hc, hj, h1, h4, ha⟩ := pt_names h h'
    have : nrm [] (cutL p) = some (nms p) := by
      rw [hc, nrm, if_pos (Or.inl rfl)]
      have := nrm_names ha [] []
      simpa [nrm] using this
    rw [this]; exact ptOf_nms h
theorem norm_back {p : List UInt8} (h : ptOk p = true) : normL (p ++ [47, 113, 47, 46, 46]) = p := by
  have hl := pt_len h
  have hh : (p ++ [47, 113, 47, 46, 46]).head? = some 47 := by
    rw [List.head?_append, hl.2.2]; rfl
  have hcut : cutL (p ++ [47, 113, 47, 46, 46]) = cutL p ++ [[113], [46, 46]] := by
    rw [show p ++ ([47, 113, 47, 46, 46] : List UInt8) = p ++ 47 :: [113, 47, 46, 46] from rfl, cutL_app]
    simp [cutL]
  unfold normL
  rw [if_pos ⟨by simp; omega, hh⟩, hcut]
  have hq : nmOk [113] = true := by decide
  have hdots : ∀ st : List (List UInt8), nrm st [[113], [46, 46]] = some st := by
    intro st
    simp [nrm, hq]
  by_cases h' : p = [47]
  · subst h'
    have : nrm [] (cutL [47] ++ [[113], [46, 46]]) = some [] := by
      simp only [cutL, if_true]
      simp [nrm, hq]
    rw [this]; exact ptOf_nil
  · obtain ⟨hc, hj, h1, h4, ha⟩ := pt_names h h'
    have : nrm [] (cutL p ++ [[113], [46, 46]]) = some (nms p) := by
      rw [hc, List.cons_append, nrm, if_pos (Or.inl rfl), nrm_names ha, hdots]
      simp
    rw [this]; exact ptOf_nms h
end Go.Proofs.Ytmnngfaelanbcaa
