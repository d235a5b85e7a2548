/-
  Own text, plain: the journal: which lists can be committed, what a head says, what a commit, its events, a recovery and the home blocks are.
-/
import Derived.Test.YtioecnfgliponaaGoodW
import Derived.Test.YtioecnfgliponaaTextW
import Derived.Test.YtioecnfgliponaaDiskMath
namespace Go.Proofs.Ytioecnfgliponaa
open Go.RowKit

def TxP (n : Int) (l : List PutD) : Prop :=
  1 ≤ n ∧ n ≤ 48 ∧ l ≠ [] ∧ l.all (putOk n.toNat) = true ∧ ∀ i (h : i + 1 < l.length), (l[i]'(Nat.lt_of_succ_lt h)).1 < l[i + 1].1
noncomputable def jtx (n : Int) (l : List PutD) : Bool := @decide (TxP n l) (Classical.propDecidable _)
theorem jtx_yes {n : Int} {l : List PutD} (h : TxP n l) : jtx n l = true := by unfold jtx; exact @decide_eq_true _ (Classical.propDecidable _) h
theorem jtx_no {n : Int} {l : List PutD} (h : ¬ TxP n l) : jtx n l = false := by unfold jtx; exact @decide_eq_false _ (Classical.propDecidable _) h
theorem jtx_iff {n : Int} {l : List PutD} : jtx n l = true ↔ TxP n l :=
  ⟨fun h => Classical.byContradiction fun h' => absurd ((jtx_no h').symm.trans h) (by decide), jtx_yes⟩
theorem putOk_iff {n : Nat} {p : PutD} : putOk n p = true ↔ 0 ≤ p.1 ∧ p.1 ≤ (n : Int) - 1 ∧ p.2.size ≤ 90 := by
  simp [putOk, and_assoc]
theorem TxP.at {n : Int} {l : List PutD} (h : TxP n l) : ∀ p ∈ l, 0 ≤ p.1 ∧ p.1 ≤ n - 1 ∧ p.2.size ≤ 90 := by
  intro p hp
  have := putOk_iff.1 (List.all_eq_true.1 h.2.2.2.1 p hp)
  have h1 := h.1
  exact ⟨this.1, by omega, this.2.2⟩
theorem TxP.lt {n : Int} {l : List PutD} (h : TxP n l) {i j : Nat} (hij : i < j) (hj : j < l.length) : (l[i]'(by omega)).1 < l[j].1 := by
  induction j with
  | zero => omega
  | succ j ih =>
    have h1 := h.2.2.2.2 j hj
    by_cases e : i = j
    · subst e; exact h1
    · exact Int.lt_trans (ih (by omega) (by omega)) h1
theorem TxP.ge {n : Int} {l : List PutD} (h : TxP n l) : ∀ i (hi : i < l.length), (i : Int) ≤ l[i].1
  | 0, hi => (h.at _ (List.getElem_mem hi)).1
  | i + 1, hi => by have := h.ge i (by omega); have := h.2.2.2.2 i hi; omega
theorem TxP.len {n : Int} {l : List PutD} (h : TxP n l) : (l.length : Int) ≤ n := by
  have h0 : 0 < l.length := List.length_pos_iff.2 h.2.2.1
  have h1 := h.ge (l.length - 1) (by omega)
  have h2 := (h.at _ (List.getElem_mem (show l.length - 1 < l.length by omega))).2.1
  omega
theorem TxP.mono {n : Int} {l : List PutD} (h : TxP n l) : TxP 48 l := by
  refine ⟨by omega, by omega, h.2.2.1, List.all_eq_true.2 fun p hp => putOk_iff.2 ?_, h.2.2.2.2⟩
  have := h.at p hp
  have h2 := h.2.1
  exact ⟨this.1, by show p.1 ≤ (48 : Int) - 1; omega, this.2.2⟩

/-! ### Heads -/
def sumB (l : List ByteArray) : List Int := l.flatMap putText
def sumOf (l : List ByteArray) : Nat := crcTo (sumB l) (sumB l).length ^^^ 4294967295
theorem sumB_u8 (l : List ByteArray) : U8 (sumB l) := by
  intro n hn
  obtain ⟨s, _, h⟩ := List.mem_flatMap.1 hn
  exact putText_u8 s n h
theorem sumOf_lt (l : List ByteArray) : sumOf l < 4294967296 := xor_lt (crcTo_lt (sumB_u8 l) _) (by omega)
def four (n : Nat) : List Int := [((n / 16777216 : Nat) : Int), ((n / 65536 % 256 : Nat) : Int), ((n / 256 % 256 : Nat) : Int), ((n % 256 : Nat) : Int)]
def headB (ats : List Int) (sum : Nat) : List Int := 74 :: putNum (ats.length : Int) ++ ats.flatMap putNum ++ four sum
noncomputable def headText (l : List PutD) : ByteArray := if jtx 48 l = true then baOf (headB (l.map (·.1)) (sumOf (l.map (·.2)))) else ⟨#[]⟩
theorem flatNum_u8 (ats : List Int) : U8 (ats.flatMap putNum) := by
  intro n hn
  obtain ⟨s, _, h⟩ := List.mem_flatMap.1 hn
  exact putNum_u8 s n h
theorem four_u8 {n : Nat} (h : n < 4294967296) : U8 (four n) := by
  intro x hx
  simp only [four, List.mem_cons, List.not_mem_nil, or_false] at hx
  omega
theorem headB_u8 {ats : List Int} {sum : Nat} (h : sum < 4294967296) : U8 (headB ats sum) := by
  intro x hx
  unfold headB at hx
  rcases List.mem_append.1 hx with hx | hx
  · rcases List.mem_append.1 hx with hx | hx
    · rcases List.mem_cons.1 hx with rfl | hx
      · omega
      · exact putNum_u8 _ x hx
    · exact flatNum_u8 ats x hx
  · exact four_u8 h x hx
theorem bytesOf_S {l : List Int} (h : U8 l) : bytesOf (baOf l) = l := by
  simp only [baOf, bytesOf, List.map_map]
  conv => rhs; rw [← List.map_id l]
  apply List.map_congr_left
  intro x hx
  have := h x hx
  simp
  omega
/-- The numbers xs stand one behind the other from p on; q is the place behind them. -/
def AtsFrom (b : List Int) : Nat → List Int → Nat → Prop
  | p, [], q => p = q
  | p, x :: xs, q => ∃ n next, Good b (p : Int) n next ∧ x = (n : Int) ∧ AtsFrom b next xs q
theorem AtsFrom.unique {b : List Int} : ∀ {xs ys : List Int} {p q r : Nat}, AtsFrom b p xs q → AtsFrom b p ys r → xs.length = ys.length → xs = ys ∧ q = r
  | [], [], _, _, _, h, h', _ => ⟨rfl, h.symm.trans h'⟩
  | x :: xs, y :: ys, p, q, r, h, h', hl => by
    obtain ⟨n, nx, hg, rfl, hr⟩ := h
    obtain ⟨n', nx', hg', rfl, hr'⟩ := h'
    obtain ⟨rfl, rfl⟩ := hg.unique hg'
    obtain ⟨rfl, rfl⟩ := hr.unique hr' (by simpa using hl)
    exact ⟨rfl, rfl⟩
theorem AtsFrom.snoc {b : List Int} : ∀ {xs : List Int} {p q n next : Nat}, AtsFrom b p xs q → Good b (q : Int) n next → AtsFrom b p (xs ++ [(n : Int)]) next
  | [], p, q, n, next, h, hg => by cases h; exact ⟨n, next, hg, rfl, rfl⟩
  | x :: xs, p, q, n, next, ⟨m, nx, h1, h2, h3⟩, hg => ⟨m, nx, h1, h2, h3.snoc hg⟩
theorem ats_mid (suf : List Int) : ∀ (ats : List Int) (pre : List Int), (∀ x ∈ ats, 0 ≤ x ∧ x ≤ 2147483647) → AtsFrom (pre ++ ats.flatMap putNum ++ suf) pre.length ats (pre.length + (ats.flatMap putNum).length)
  | [], pre, _ => by simp [AtsFrom]
  | x :: ats, pre, h => by
    obtain ⟨n, rfl⟩ : ∃ n : Nat, x = (n : Int) := ⟨x.toNat, by have := h x (by simp); omega⟩
    have hn : n ≤ 2147483647 := by have := h (n : Int) (by simp); omega
    have hg := good_midP pre (ats.flatMap putNum ++ suf) n hn
    have ih := ats_mid suf ats (pre ++ putNum n) (fun y hy => h y (by simp [hy]))
    simp only [List.flatMap_cons, List.append_assoc, List.length_append] at hg ih ⊢
    refine ⟨n, _, hg, rfl, ?_⟩
    rw [← Nat.add_assoc]
    exact ih
def HeadP (b : List Int) (n : Int) (ats : List Int) (sum : Nat) : Prop :=
  ∃ many at' q : Nat, Good b 1 many at' ∧ b.getD 0 0 = 74 ∧ 1 ≤ many ∧ many ≤ 48 ∧ ats.length = many ∧ AtsFrom b at' ats q ∧ b.length = q + 4 ∧ TxP n (ats.map fun x => (x, (⟨#[]⟩ : ByteArray))) ∧
    (sum : Int) = ((b.getD q 0 * 256 + b.getD (q + 1) 0) * 256 + b.getD (q + 2) 0) * 256 + b.getD (q + 3) 0
theorem HeadP.unique {b : List Int} {n : Int} {ats ats' : List Int} {sum sum' : Nat} (h : HeadP b n ats sum) (h' : HeadP b n ats' sum') : ats = ats' ∧ sum = sum' := by
  obtain ⟨m, a, q, h1, _, _, _, h2, h3, _, _, h4⟩ := h
  obtain ⟨m', a', q', h1', _, _, _, h2', h3', _, _, h4'⟩ := h'
  obtain ⟨rfl, rfl⟩ := h1.unique h1'
  obtain ⟨rfl, rfl⟩ := h3.unique h3' (by omega)
  exact ⟨rfl, by omega⟩
open Classical in
noncomputable def headOf (s : ByteArray) (n : Int) : Option (List Int × Nat) :=
  if h : ∃ x : List Int × Nat, HeadP (bytesOf s) n x.1 x.2 then some h.choose else none
theorem headOf_some {s : ByteArray} {n : Int} {ats : List Int} {sum : Nat} (h : HeadP (bytesOf s) n ats sum) : headOf s n = some (ats, sum) := by
  have hx : ∃ x : List Int × Nat, HeadP (bytesOf s) n x.1 x.2 := ⟨(ats, sum), h⟩
  unfold headOf
  rw [dif_pos hx]
  obtain ⟨h1, h2⟩ := hx.choose_spec.unique h
  rw [← h1, ← h2]
theorem headOf_none {s : ByteArray} {n : Int} (h : ∀ ats sum, ¬ HeadP (bytesOf s) n ats sum) : headOf s n = none := by
  unfold headOf
  rw [dif_neg (fun ⟨x, hx⟩ => h _ _ hx)]
theorem headOf_empty (n : Int) : headOf ⟨#[]⟩ n = none := by
  refine headOf_none ?_
  rintro ats sum ⟨m, a, q, h1, h2, _⟩
  simp [bytesOf] at h2
theorem headOf_spec {s : ByteArray} {n : Int} {ats : List Int} {sum : Nat} (h : headOf s n = some (ats, sum)) : HeadP (bytesOf s) n ats sum := by
  unfold headOf at h
  split at h
  · rename_i hx
    have hs := hx.choose_spec
    simp only [Option.some.injEq] at h
    rw [h] at hs
    exact hs
  · cases h
theorem head_read {n : Int} {l : List PutD} (h : TxP n l) : headOf (headText l) n = some (l.map (·.1), sumOf (l.map (·.2))) := by
  apply headOf_some
  have hs := sumOf_lt (l.map (·.2))
  unfold headText
  rw [if_pos (jtx_yes h.mono), bytesOf_S (headB_u8 hs)]
  have h0 : 0 < l.length := List.length_pos_iff.2 h.2.2.1
  have hlen := h.len
  have h48 := h.2.1
  have hml : (l.map (·.1)).length = l.length := by simp
  generalize hsum : sumOf (l.map (·.2)) = sum at *
  have e1 : headB (l.map (·.1)) sum = [74] ++ putNum ((l.length : Nat) : Int) ++ ((l.map (·.1)).flatMap putNum ++ four sum) := by simp [headB]
  have g1 := good_midP [74] ((l.map (·.1)).flatMap putNum ++ four sum) l.length (by omega)
  have e2 : headB (l.map (·.1)) sum = ([74] ++ putNum ((l.length : Nat) : Int)) ++ (l.map (·.1)).flatMap putNum ++ four sum := by simp [headB]
  have g2 := ats_mid (four sum) (l.map (·.1)) ([74] ++ putNum ((l.length : Nat) : Int)) (fun x hx => by
    obtain ⟨p, hp, rfl⟩ := List.mem_map.1 hx
    have := h.at p hp
    omega)
  rw [← e1] at g1
  rw [← e2] at g2
  refine ⟨l.length, _, ([74] : List Int).length + (putNum ((l.length : Nat) : Int)).length + ((l.map (·.1)).flatMap putNum).length, g1, by rw [e1]; rfl, by omega, by omega, hml, ?_, ?_, ?_, ?_⟩
  · rw [List.length_append] at g2
    exact g2
  · rw [e2]; simp [four]; omega
  · refine ⟨h.1, h.2.1, by simp [List.ne_nil_of_length_pos h0], List.all_eq_true.2 ?_, ?_⟩
    · intro p hp
      simp only [List.map_map, List.mem_map] at hp
      obtain ⟨x, hx, rfl⟩ := hp
      have := h.at x hx
      have h1 := h.1
      exact putOk_iff.2 ⟨this.1, by show x.1 ≤ _; omega, by show (0 : Nat) ≤ 90; omega⟩
    · intro i hi
      simp only [List.map_map, List.length_map] at hi
      have := h.2.2.2.2 i (by simpa using hi)
      simpa using this
  · have ee : ∀ j, j < 4 → (headB (l.map (·.1)) sum).getD ((1 + (putNum ((l.length : Nat) : Int)).length) + ((l.map (·.1)).flatMap putNum).length + j) 0 = (four sum).getD j 0 := by
      intro j hj
      rw [e2]
      have := getD_midP (([74] ++ putNum ((l.length : Nat) : Int)) ++ (l.map (·.1)).flatMap putNum) (four sum) [] j (by simpa [four] using hj)
      rw [List.append_nil] at this
      rw [← this]
      congr 1
      simp only [List.length_append, List.length_cons, List.length_nil]
    have hl1 : ([74] : List Int).length = 1 := rfl
    have f0 := ee 0 (by omega)
    have f1 := ee 1 (by omega)
    have f2 := ee 2 (by omega)
    have f3 := ee 3 (by omega)
    simp only [hl1, Nat.add_zero] at f0 f1 f2 f3 ⊢
    rw [f0, f1, f2, f3]
    simp only [four, List.getD_cons_zero, List.getD_cons_succ]
    omega
theorem flatNum_len (ats : List Int) (h : ∀ x ∈ ats, 0 ≤ x ∧ x ≤ 127) : (ats.flatMap putNum).length = ats.length := by
  induction ats with
  | nil => rfl
  | cons x ats ih =>
    have hx := h x (by simp)
    have e : putNum x = [x] := by rw [putNum, if_pos (by omega), vlq_small _ _ (by omega)]; simp; omega
    rw [List.flatMap_cons, List.length_append, ih (fun y hy => h y (by simp [hy])), e]
    simp
    omega
theorem head_size {l : List PutD} : (headText l).size ≤ 90 := by
  unfold headText
  split
  · rename_i h
    have h := jtx_iff.1 h
    have hl := h.len
    have e : (baOf (headB (l.map (·.1)) (sumOf (l.map (·.2))))).size = (headB (l.map (·.1)) (sumOf (l.map (·.2)))).length := by
      rw [← bytesOf_len, bytesOf_S (headB_u8 (sumOf_lt _))]
    have hf := flatNum_len (l.map (·.1)) (fun x hx => by
      obtain ⟨p, hp, rfl⟩ := List.mem_map.1 hx
      have := h.at p hp
      omega)
    have hp := putNum_len ((l.map (·.1)).length : Int)
    rw [e]
    simp only [headB, four, List.length_append, List.length_cons, List.length_nil, hf, List.length_map] at hp ⊢
    omega
  · decide

/-! ### Events, commits, recoveries -/
abbrev EvD := Int × Int × ByteArray
noncomputable def commitE (n : Int) (l : List PutD) : List EvD :=
  if jtx n l = true then
    (List.range l.length).map (fun k => ((0 : Int), ((1 + k : Nat) : Int), (l.getD k (0, ⟨#[]⟩)).2)) ++ [(1, 0, ⟨#[]⟩), (0, 0, headText l), (1, 0, ⟨#[]⟩)] ++
      l.map (fun p => ((0 : Int), n + 1 + p.1, p.2)) ++ [(1, 0, ⟨#[]⟩), (0, 0, ⟨#[]⟩), (1, 0, ⟨#[]⟩)]
  else []
end Go.Proofs.Ytioecnfgliponaa
