/-
  Own text, plain: events on disks, recovery, home blocks; wherever within a commit the power fails: behind recovery all of it is there, or nothing.
-/
import Derived.Test.YtlidmnehpcodkaaJMath
import Derived.Test.YtlidmnehpcodkaaFallMath
namespace Go.Proofs.Ytlidmnehpcodkaa
open Go.RowKit

abbrev DkD := List ByteArray × List PutD
def evStep (d : DkD) (e : EvD) : DkD := if e.1 = 0 then (dkWrite d e.2.1 e.2.2).getD d else if e.1 = 1 then dkFlush d else d
def evDo (d : DkD) (l : List EvD) : DkD := l.foldl evStep d
def okJ (d : DkD) (n : Int) : Bool := dkOk d && (decide (1 ≤ n) && decide (n ≤ 48)) && decide ((d.1.length : Int) = 2 * n + 1)
def applyTo (n : Int) (ats : List Int) (s : List ByteArray) : Nat → List ByteArray
  | 0 => s
  | k + 1 => (applyTo n ats s k).set (n + 1 + ats.getD k 0).toNat ((applyTo n ats s k).getD (1 + k) ⟨#[]⟩)
noncomputable def recS (s : List ByteArray) (n : Int) : List ByteArray :=
  (match headOf (s.getD 0 ⟨#[]⟩) n with
    | some (ats, sum) => if sumOf ((s.drop 1).take ats.length) = sum then applyTo n ats s ats.length else s
    | none => s).set 0 ⟨#[]⟩
noncomputable def recD (d : DkD) (n : Int) : DkD := if okJ d n = true then (recS d.1 n, []) else d
def homeD (d : DkD) (n : Int) : List ByteArray := if okJ d n = true then (List.range n.toNat).map fun (k : Nat) => (dkRead d (n + 1 + (k : Int))).getD ⟨#[]⟩ else []

theorem okJ_iff {d : DkD} {n : Int} : okJ d n = true ↔ dkOk d = true ∧ 1 ≤ n ∧ n ≤ 48 ∧ (d.1.length : Int) = 2 * n + 1 := by
  simp [okJ, and_assoc]
theorem homeD_no {d : DkD} {n : Int} (h : okJ d n = false) : homeD d n = [] := by unfold homeD; rw [if_neg (by simp [h])]
theorem homeD_len {d : DkD} {n : Int} (h : okJ d n = true) : (homeD d n).length = n.toNat := by unfold homeD; rw [if_pos h]; simp
theorem recD_no {d : DkD} {n : Int} (h : okJ d n = false) : recD d n = d := by unfold recD; rw [if_neg (by simp [h])]
theorem evDo_app (d : DkD) (a b : List EvD) : evDo d (a ++ b) = evDo (evDo d a) b := by simp [evDo]

section
variable {N : Nat}
/-- Sectors of a disk for N home blocks. -/
def Sec (N : Nat) (s : List ByteArray) : Prop := s.length = 2 * N + 1 ∧ ∀ x ∈ s, x.size ≤ 90
def homes (N : Nat) (s : List ByteArray) : List ByteArray := (List.range N).map fun k => s.getD (N + 1 + k) ⟨#[]⟩
theorem homes_len (s : List ByteArray) : (homes N s).length = N := by simp [homes]
theorem Sec.set {s : List ByteArray} (h : Sec N s) (i : Nat) {x : ByteArray} (hx : x.size ≤ 90) : Sec N (s.set i x) := by
  refine ⟨by rw [List.length_set]; exact h.1, fun y hy => ?_⟩
  rcases List.mem_or_eq_of_mem_set hy with hy | rfl
  · exact h.2 y hy
  · exact hx
theorem Sec.put {s : List ByteArray} (h : Sec N s) {l : List PutD} (hl : ∀ p ∈ l, p.2.size ≤ 90) : Sec N (putIn s l) := ⟨by rw [putIn_len]; exact h.1, putIn_small h.2 hl⟩
theorem Sec.ok {s : List ByteArray} (h : Sec N s) (h2 : N ≤ 48) : dkOk (s, ([] : List PutD)) = true := dkOk_iff.2 ⟨by rw [h.1]; omega, by simp, h.2, by simp⟩
theorem Sec.okJ {s : List ByteArray} (h : Sec N s) (h1 : 1 ≤ N) (h2 : N ≤ 48) : okJ (s, ([] : List PutD)) (N : Int) = true := okJ_iff.2 ⟨h.ok h2, by omega, by omega, by have h3 : s.length = 2 * N + 1 := h.1; show (s.length : Int) = _; omega⟩
theorem homeD_homes {s : List ByteArray} (h : Sec N s) (h1 : 1 ≤ N) (h2 : N ≤ 48) : homeD (s, []) (N : Int) = homes N s := by
  unfold homeD homes
  rw [if_pos (h.okJ h1 h2)]
  have e : (N : Int).toNat = N := by omega
  rw [e]
  apply List.map_congr_left
  intro k hk
  have hk := List.mem_range.1 hk
  have hl : s.length = 2 * N + 1 := h.1
  unfold dkRead
  rw [if_pos ⟨h.ok h2, by omega, by show _ ≤ (s.length : Int) - 1; omega⟩]
  simp only [lastAt, List.reverse_nil, List.find?_nil, Option.map_none, Option.getD_none, Option.getD_some]
  congr 1
theorem getD_set_ne (s : List ByteArray) {i j : Nat} (h : i ≠ j) (x : ByteArray) : (s.set i x).getD j ⟨#[]⟩ = s.getD j ⟨#[]⟩ := by simp [List.getD, List.getElem?_set_ne h]
theorem getD_set_eq (s : List ByteArray) {i : Nat} (h : i < s.length) (x : ByteArray) : (s.set i x).getD i ⟨#[]⟩ = x := by simp [List.getD, h]
theorem putIn_cons (s : List ByteArray) (p : PutD) (l : List PutD) : putIn s (p :: l) = putIn (s.set p.1.toNat p.2) l := rfl
theorem putIn_off {l : List PutD} {i : Nat} (h : ∀ p ∈ l, p.1.toNat ≠ i) : ∀ s : List ByteArray, (putIn s l).getD i ⟨#[]⟩ = s.getD i ⟨#[]⟩ := by
  induction l with
  | nil => intro s; rfl
  | cons p l ih =>
    intro s
    rw [putIn_cons, ih (fun q hq => h q (by simp [hq])), getD_set_ne _ (h p (by simp))]
theorem homes_low {s t : List ByteArray} (h : ∀ i, N + 1 ≤ i → t.getD i ⟨#[]⟩ = s.getD i ⟨#[]⟩) : homes N t = homes N s := by
  unfold homes
  exact List.map_congr_left fun k _ => h _ (by omega)
theorem homes_set (s : List ByteArray) (hs : s.length = 2 * N + 1) {a : Nat} (ha : a < N) (x : ByteArray) : homes N (s.set (N + 1 + a) x) = (homes N s).set a x := by
  apply List.ext_getElem?
  intro i
  unfold homes
  rw [List.getElem?_set]
  by_cases hi : i < N
  · by_cases e : a = i
    · subst e
      simp [hi, List.getD, show N + 1 + a < s.length by omega]
    · simp [hi, e, List.getD, List.getElem?_set_ne (show N + 1 + a ≠ N + 1 + i by omega)]
  · by_cases e : a = i
    · omega
    · simp [hi, e]
def shift (N : Nat) (l : List PutD) : List PutD := l.map fun p => ((N : Int) + 1 + p.1, p.2)
theorem homes_put {l : List PutD} (hl : ∀ p ∈ l, 0 ≤ p.1 ∧ p.1 < (N : Int)) : ∀ (s : List ByteArray), s.length = 2 * N + 1 → homes N (putIn s (shift N l)) = putIn (homes N s) l := by
  induction l with
  | nil => intro s _; rfl
  | cons p l ih =>
    intro s hs
    have hp := hl p (by simp)
    have e : ((N : Int) + 1 + p.1).toNat = N + 1 + p.1.toNat := by omega
    show homes N (putIn (s.set ((N : Int) + 1 + p.1).toNat p.2) (shift N l)) = _
    rw [ih (fun q hq => hl q (by simp [hq])) _ (by simpa using hs), e, homes_set s hs (by omega), putIn_cons]
theorem over_put {l : List PutD} : ∀ (h : List ByteArray) (i : Nat) (x : ByteArray), (∃ q ∈ l, q.1.toNat = i) → putIn (h.set i x) l = putIn h l := by
  induction l with
  | nil => rintro h i x ⟨q, hq, _⟩; cases hq
  | cons p l ih =>
    rintro h i x ⟨q, hq, hi⟩
    rw [putIn_cons, putIn_cons]
    by_cases e : p.1.toNat = i
    · rw [e, List.set_set]
    · rw [List.set_comm _ _ (fun h => e h.symm)]
      rcases List.mem_cons.1 hq with rfl | hq
      · exact absurd hi e
      · exact ih _ _ _ ⟨q, hq, hi⟩
theorem over_all {l : List PutD} : ∀ (m : List PutD) (h : List ByteArray), (∀ p ∈ m, ∃ q ∈ l, q.1.toNat = p.1.toNat) → putIn (putIn h m) l = putIn h l := by
  intro m
  induction m with
  | nil => intro h _; rfl
  | cons p m ih =>
    intro h hm
    rw [putIn_cons, ih _ (fun q hq => hm q (by simp [hq])), over_put _ _ _ (hm p (by simp))]
theorem keepL_map (f : PutD → PutD) : ∀ (l : List PutD) (ks : List Bool), keepL (l.map f) ks = (keepL l ks).map f
  | [], ks => by cases ks <;> rfl
  | p :: l, [] => rfl
  | p :: l, k :: ks => by
    rw [List.map_cons, keepL, keepL, keepL_map f l ks]
    split <;> simp

/-- Behind a recovery where there is no head: the home blocks as they are. -/
theorem rec_none {s : List ByteArray} (h : Sec N s) (h1 : 1 ≤ N) (h2 : N ≤ 48) (h0 : s.getD 0 ⟨#[]⟩ = ⟨#[]⟩) : homeD (recD (s, []) (N : Int)) (N : Int) = homes N s := by
  have e : recD (s, []) (N : Int) = (s.set 0 ⟨#[]⟩, []) := by
    unfold recD recS
    rw [if_pos (h.okJ h1 h2), h0, headOf_empty]
  rw [e, homeD_homes (h.set 0 (by decide)) h1 h2]
  exact homes_low fun i hi => getD_set_ne s (by omega) _
theorem applyTo_eq {s : List ByteArray} {l : List PutD} (hl : (l.length : Int) ≤ (N : Int)) (hp : ∀ p ∈ l, 0 ≤ p.1 ∧ p.1 < (N : Int)) (hj : ∀ k (hk : k < l.length), s.getD (1 + k) ⟨#[]⟩ = l[k].2) :
    ∀ m, m ≤ l.length → applyTo (N : Int) (l.map (·.1)) s m = putIn s (shift N (l.take m))
  | 0, _ => rfl
  | m + 1, hm => by
    rw [applyTo, applyTo_eq hl hp hj m (by omega)]
    have hm' : m < l.length := by omega
    have e1 : (l.map (·.1)).getD m 0 = l[m].1 := by simp [List.getD, hm']
    have e2 : (putIn s (shift N (l.take m))).getD (1 + m) ⟨#[]⟩ = l[m].2 := by
      rw [putIn_off (fun p hq => ?_), hj m hm']
      obtain ⟨q, hq', rfl⟩ := List.mem_map.1 hq
      have := hp q (List.mem_of_mem_take hq')
      show ((N : Int) + 1 + q.1).toNat ≠ _
      omega
    have e3 : shift N (l.take m ++ [l[m]]) = shift N (l.take m) ++ [((N : Int) + 1 + l[m].1, l[m].2)] := by unfold shift; rw [List.map_append]; rfl
    rw [e1, e2, List.take_succ_eq_append_getElem hm', e3, putIn_app]
    rfl
/-- Behind a recovery where there is a head, and the journal is its own: the home blocks as the list makes them. -/
theorem rec_head {s : List ByteArray} {l : List PutD} (h : Sec N s) (ht : TxP (N : Int) l) (h0 : s.getD 0 ⟨#[]⟩ = headText l) (hj : ∀ k (hk : k < l.length), s.getD (1 + k) ⟨#[]⟩ = l[k].2) :
    homeD (recD (s, []) (N : Int)) (N : Int) = putIn (homes N s) l := by
  have h1 : 1 ≤ N := by have := ht.1; omega
  have h2 : N ≤ 48 := by have := ht.2.1; omega
  have hlen := ht.len
  have hs : s.length = 2 * N + 1 := h.1
  have hp : ∀ p ∈ l, 0 ≤ p.1 ∧ p.1 < (N : Int) := fun p hp => ⟨(ht.at p hp).1, by have := (ht.at p hp).2.1; omega⟩
  have ej : (s.drop 1).take l.length = l.map (·.2) := by
    apply List.ext_getElem?
    intro i
    by_cases hi : i < l.length
    · have := hj i hi
      have hi2 : 1 + i < s.length := by omega
      rw [List.getElem?_take_of_lt hi, List.getElem?_drop, List.getElem?_map, List.getElem?_eq_getElem hi, List.getElem?_eq_getElem hi2]
      simp [List.getD, hi2] at this
      simp [this]
    · rw [List.getElem?_eq_none (by simp; omega), List.getElem?_eq_none (by simp; omega)]
  have e : recD (s, []) (N : Int) = ((putIn s (shift N l)).set 0 ⟨#[]⟩, []) := by
    unfold recD recS
    rw [if_pos (h.okJ h1 h2), h0, head_read ht]
    simp only [List.length_map]
    rw [ej, if_pos rfl, applyTo_eq hlen hp hj l.length (Nat.le_refl _), List.take_length]
  have hsz : ∀ p ∈ shift N l, p.2.size ≤ 90 := by
    intro p hq
    obtain ⟨q, hq', rfl⟩ := List.mem_map.1 hq
    exact (ht.at q hq').2.2
  rw [e, homeD_homes ((h.put hsz).set 0 (by decide)) h1 h2, homes_low (fun i hi => getD_set_ne _ (by omega) _), homes_put hp s hs]

/-! ### A commit's events, one behind the other -/
def wrE (l : List PutD) : List EvD := l.map fun p => ((0 : Int), p.1, p.2)
theorem evDo_wr {s : List ByteArray} (h : Sec N s) (h2 : N ≤ 48) : ∀ (l p : List PutD), (∀ q ∈ p ++ l, 0 ≤ q.1 ∧ q.1 < 2 * (N : Int) + 1 ∧ q.2.size ≤ 90) → (p ++ l).length ≤ 400 → evDo (s, p) (wrE l) = (s, p ++ l)
  | [], p, _, _ => by simp [wrE, evDo]
  | q :: l, p, hq, hc => by
    have hs : s.length = 2 * N + 1 := h.1
    have hok : ∀ m : List PutD, (∀ x ∈ m, x ∈ p ++ q :: l) → m.length ≤ 400 → dkOk (s, m) = true := by
      intro m hm hl
      refine dkOk_iff.2 ⟨by show s.length ≤ 120; omega, hl, h.2, fun x hx => ?_⟩
      have := hq x (hm x hx)
      exact ⟨this.1, by show x.1 < (s.length : Int); omega, this.2.2⟩
    have hlen : p.length + (l.length + 1) ≤ 400 := by simpa using hc
    have e : evStep (s, p) (0, q.1, q.2) = (s, p ++ [q]) := by
      unfold evStep dkWrite
      rw [if_pos rfl, if_pos ⟨hok p (fun x hx => by simp [hx]) (by omega), hok (p ++ [q]) (fun x hx => by
        rcases List.mem_append.1 hx with hx | hx
        · simp [hx]
        · simp at hx; simp [hx]) (by simp; omega)⟩]
      rfl
    show evDo (evStep (s, p) (0, q.1, q.2)) (wrE l) = _
    rw [e, evDo_wr h h2 l (p ++ [q]) (by simpa using hq) (by simpa using hc)]
    simp
theorem flush_ev {s : List ByteArray} {p : List PutD} (h : dkOk (s, p) = true) : evStep (s, p) (1, 0, ⟨#[]⟩) = (putIn s p, []) := by
  unfold evStep dkFlush
  rw [if_neg (by decide), if_pos rfl, if_pos h]
theorem fall_ev {s : List ByteArray} {p : List PutD} (h : dkOk (s, p) = true) (ks : List Bool) : dkFall (s, p) ks = (putIn s (keepL p ks), []) := by
  unfold dkFall
  rw [if_pos h]
def jour (l : List PutD) : List PutD := (List.range l.length).map fun k => (((1 + k : Nat) : Int), (l.getD k (0, ⟨#[]⟩)).2)
theorem commitE_eq {l : List PutD} (ht : TxP (N : Int) l) : commitE (N : Int) l = wrE (jour l) ++ ((1, 0, ⟨#[]⟩) :: (0, 0, headText l) :: (1, 0, ⟨#[]⟩) :: (wrE (shift N l) ++ [(1, 0, ⟨#[]⟩), (0, 0, ⟨#[]⟩), (1, 0, ⟨#[]⟩)])) := by
  unfold commitE
  rw [if_pos (jtx_yes ht)]
  simp [wrE, jour, shift, Function.comp_def]
theorem keepL_one (p : PutD) (ks : List Bool) : keepL [p] ks = [] ∨ keepL [p] ks = [p] := by
  match ks with
  | [] => exact .inl rfl
  | true :: ks => right; cases ks <;> simp [keepL]
  | false :: ks => left; cases ks <;> simp [keepL]

/-- Wherever within a commit the power fails, and whichever writes are kept: behind recovery all of it is there, or nothing. -/
theorem atomic {s : List ByteArray} {l : List PutD} (h : Sec N s) (ht : TxP (N : Int) l) (h0 : s.getD 0 ⟨#[]⟩ = ⟨#[]⟩) (k : Nat) (ks : List Bool) :
    homeD (recD (dkFall (evDo (s, []) ((commitE (N : Int) l).take k)) ks) (N : Int)) (N : Int) = homes N s ∨
    homeD (recD (dkFall (evDo (s, []) ((commitE (N : Int) l).take k)) ks) (N : Int)) (N : Int) = putIn (homes N s) l := by
  have h1 : 1 ≤ N := by have := ht.1; omega
  have h2 : N ≤ 48 := by have := ht.2.1; omega
  have hlen := ht.len
  have hs : s.length = 2 * N + 1 := h.1
  have hp : ∀ p ∈ l, 0 ≤ p.1 ∧ p.1 < (N : Int) := fun p hp => ⟨(ht.at p hp).1, by have := (ht.at p hp).2.1; omega⟩
  have hjl : (jour l).length = l.length := by simp [jour]
  have hsl : (shift N l).length = l.length := by simp [shift]
  have hj : ∀ q ∈ jour l, 1 ≤ q.1 ∧ q.1 ≤ (N : Int) ∧ q.2.size ≤ 90 := by
    intro q hq
    obtain ⟨i, hi, rfl⟩ := List.mem_map.1 hq
    have hi := List.mem_range.1 hi
    have e : l.getD i (0, ⟨#[]⟩) = l[i] := by simp [List.getD, hi]
    refine ⟨by show (1 : Int) ≤ ((1 + i : Nat) : Int); omega, by show ((1 + i : Nat) : Int) ≤ _; omega, ?_⟩
    show (l.getD i (0, ⟨#[]⟩)).2.size ≤ 90
    rw [e]
    exact (ht.at _ (List.getElem_mem hi)).2.2
  have hh : ∀ q ∈ shift N l, (N : Int) + 1 ≤ q.1 ∧ q.1 < 2 * (N : Int) + 1 ∧ q.2.size ≤ 90 := by
    intro q hq
    obtain ⟨x, hx, rfl⟩ := List.mem_map.1 hq
    have := hp x hx
    exact ⟨by show _ ≤ (N : Int) + 1 + x.1; omega, by show (N : Int) + 1 + x.1 < _; omega, (ht.at x hx).2.2⟩
  have okp : ∀ {t : List ByteArray} {p : List PutD}, Sec N t → (∀ q ∈ p, 0 ≤ q.1 ∧ q.1 < 2 * (N : Int) + 1 ∧ q.2.size ≤ 90) → p.length ≤ 400 → dkOk (t, p) = true := by
    intro t p hT hq hl
    have := hT.1
    exact dkOk_iff.2 ⟨by show t.length ≤ 120; omega, hl, hT.2, fun x hx => ⟨(hq x hx).1, by show x.1 < (t.length : Int); have := (hq x hx).2.1; omega, (hq x hx).2.2⟩⟩
  -- what is known of each state
  have low : ∀ m : List PutD, (∀ q ∈ m, q ∈ jour l) → Sec N (putIn s m) ∧ (putIn s m).getD 0 ⟨#[]⟩ = ⟨#[]⟩ ∧ homes N (putIn s m) = homes N s := by
    intro m hm
    refine ⟨h.put fun q hq => (hj q (hm q hq)).2.2, ?_, homes_low fun i hi => putIn_off (fun q hq => ?_) s⟩
    · rw [putIn_off (fun q hq => ?_) s, h0]
      have := hj q (hm q hq); omega
    · have := hj q (hm q hq); omega
  obtain ⟨s1, hs1⟩ : ∃ s1, putIn s (jour l) = s1 := ⟨_, rfl⟩
  have L1 := low (jour l) (fun _ h => h)
  rw [hs1] at L1
  have jat : ∀ i (hi : i < l.length), s1.getD (1 + i) ⟨#[]⟩ = l[i].2 := by
    have key : ∀ m, m ≤ l.length → ∀ i (hi : i < m), (putIn s ((jour l).take m)).getD (1 + i) ⟨#[]⟩ = (l.getD i (0, ⟨#[]⟩)).2 := by
      intro m
      induction m with
      | zero => intro _ i hi; omega
      | succ m ih =>
        intro hm i hi
        have e : (jour l).take (m + 1) = (jour l).take m ++ [(((1 + m : Nat) : Int), (l.getD m (0, ⟨#[]⟩)).2)] := by
          rw [List.take_succ_eq_append_getElem (by omega)]
          simp [jour]
        have e2 : ((1 + m : Nat) : Int).toNat = 1 + m := by omega
        rw [e, putIn_app, putIn_cons]
        show ((putIn s ((jour l).take m)).set ((1 + m : Nat) : Int).toNat _).getD (1 + i) _ = _
        rw [e2]
        by_cases hc : i = m
        · subst hc
          rw [getD_set_eq _ (by rw [putIn_len]; omega)]
        · rw [getD_set_ne _ (by omega), ih (by omega) i (by omega)]
    intro i hi
    have := key l.length (Nat.le_refl _) i hi
    rw [← hjl, List.take_length, hs1] at this
    rw [this]
    simp [List.getD, hi]
  have hdz := head_size (l := l)
  have L2 : Sec N (s1.set 0 (headText l)) := L1.1.set 0 hdz
  have g2 : (s1.set 0 (headText l)).getD 0 ⟨#[]⟩ = headText l := getD_set_eq _ (by have := L1.1.1; omega) _
  have j2 : ∀ i (hi : i < l.length), (s1.set 0 (headText l)).getD (1 + i) ⟨#[]⟩ = l[i].2 := fun i hi => by rw [getD_set_ne _ (by omega), jat i hi]
  have m2 : homes N (s1.set 0 (headText l)) = homes N s := by rw [homes_low (fun i hi => getD_set_ne s1 (by omega) _), L1.2.2]
  have high : ∀ m : List PutD, (∀ q ∈ m, q ∈ l) → homeD (recD (putIn (s1.set 0 (headText l)) (shift N m), []) (N : Int)) (N : Int) = putIn (homes N s) l := by
    intro m hm
    have off : ∀ i, i < N + 1 → (putIn (s1.set 0 (headText l)) (shift N m)).getD i ⟨#[]⟩ = (s1.set 0 (headText l)).getD i ⟨#[]⟩ := by
      intro i hi
      refine putIn_off (fun q hq => ?_) _
      obtain ⟨x, hx, rfl⟩ := List.mem_map.1 hq
      have := hp x (hm x hx)
      show ((N : Int) + 1 + x.1).toNat ≠ i
      omega
    have hS : Sec N (putIn (s1.set 0 (headText l)) (shift N m)) := L2.put fun q hq => by
      obtain ⟨x, hx, rfl⟩ := List.mem_map.1 hq
      exact (ht.at x (hm x hx)).2.2
    rw [rec_head hS ht (by rw [off 0 (by omega)]; exact g2) (fun i hi => by rw [off (1 + i) (by omega)]; exact j2 i hi), homes_put (fun q hq => hp q (hm q hq)) _ L2.1, m2]
    exact over_all m _ fun q hq => ⟨q, hm q hq, rfl⟩
  have full := high l (fun _ h => h)
  obtain ⟨s2, hs2⟩ : ∃ s2, s1.set 0 (headText l) = s2 := ⟨_, rfl⟩
  rw [hs2] at L2 high full
  have S3 : Sec N (putIn s2 (shift N l)) := L2.put fun q hq => (hh q hq).2.2
  have m3 : homes N (putIn s2 (shift N l)) = putIn (homes N s) l := by rw [homes_put hp _ L2.1, ← hs2, m2]
  have at2 : homeD (recD (s2, []) (N : Int)) (N : Int) = putIn (homes N s) l := high [] (fun _ h => by cases h)
  have last : ∀ {t : List ByteArray}, Sec N t → homes N t = putIn (homes N s) l → t.getD 0 ⟨#[]⟩ = ⟨#[]⟩ → homeD (recD (t, []) (N : Int)) (N : Int) = putIn (homes N s) l := fun hT hm h0 => (rec_none hT h1 h2 h0).trans hm
  have S4 : Sec N ((putIn s2 (shift N l)).set 0 ⟨#[]⟩) := S3.set 0 (by decide)
  have at4 : homeD (recD ((putIn s2 (shift N l)).set 0 ⟨#[]⟩, []) (N : Int)) (N : Int) = putIn (homes N s) l :=
    last S4 (by rw [homes_low (fun i hi => getD_set_ne _ (by omega) _), m3]) (getD_set_eq _ (by have := S3.1; omega) _)
  have nofall : ∀ {t : List ByteArray}, Sec N t → dkFall (t, []) ks = (t, []) := fun hT => by rw [fall_ev (hT.ok h2) ks]; cases ks <;> rfl
  have dok : ∀ (p : PutD), p.1 = 0 → p.2.size ≤ 90 → ∀ q ∈ [p], 0 ≤ q.1 ∧ q.1 < 2 * (N : Int) + 1 ∧ q.2.size ≤ 90 := by
    intro p e1 e2 q hq
    obtain rfl : q = p := by simpa using hq
    exact ⟨by omega, by omega, e2⟩
  have wrA : ∀ {t : List ByteArray} (p : PutD), Sec N t → p.1 = 0 → p.2.size ≤ 90 → evStep (t, []) (0, p.1, p.2) = (t, [p]) := by
    intro t p hT e1 e2
    have := evDo_wr hT h2 [p] [] (by simpa using dok p e1 e2) (by simp)
    simpa [wrE, evDo] using this
  have jok : ∀ q ∈ jour l, 0 ≤ q.1 ∧ q.1 < 2 * (N : Int) + 1 ∧ q.2.size ≤ 90 := fun q hq => by have := hj q hq; exact ⟨by omega, by omega, this.2.2⟩
  have sok : ∀ q ∈ shift N l, 0 ≤ q.1 ∧ q.1 < 2 * (N : Int) + 1 ∧ q.2.size ≤ 90 := fun q hq => by have := hh q hq; exact ⟨by omega, by omega, this.2.2⟩
  rw [commitE_eq ht]
  have hwl : (wrE (jour l)).length = l.length := by simp [wrE, hjl]
  have hwh : (wrE (shift N l)).length = l.length := by simp [wrE, hsl]
  by_cases hk : k ≤ l.length
  · have e : ∀ R : List EvD, (wrE (jour l) ++ R).take k = wrE ((jour l).take k) := by
      intro R
      rw [List.take_append_of_le_length (by omega)]
      simp [wrE, List.map_take]
    rw [e, evDo_wr h h2 _ [] (fun q hq => jok q (List.mem_of_mem_take (by simpa using hq))) (by simp; omega), List.nil_append]
    rw [fall_ev (okp h (fun q hq => jok q (List.mem_of_mem_take hq)) (by simp; omega))]
    have L := low (keepL ((jour l).take k) ks) (fun q hq => List.mem_of_mem_take (keepL_mem hq))
    exact .inl ((rec_none L.1 h1 h2 L.2.1).trans L.2.2)
  obtain ⟨j, rfl⟩ : ∃ j, k = l.length + (j + 1) := ⟨k - l.length - 1, by omega⟩
  have e : ∀ (R : List EvD), (wrE (jour l) ++ R).take (l.length + (j + 1)) = wrE (jour l) ++ R.take (j + 1) := by
    intro R
    rw [← hwl, List.take_length_add_append]
  rw [e, evDo_app, evDo_wr h h2 (jour l) [] (by simpa using jok) (by simp; omega), List.nil_append, List.take_succ_cons]
  have f1 : evStep (s, jour l) (1, 0, ⟨#[]⟩) = (s1, []) := by rw [flush_ev (okp h jok (by omega)), hs1]
  show homeD (recD (dkFall (evDo (evStep (s, jour l) (1, 0, ⟨#[]⟩)) _) ks) _) _ = _ ∨ homeD (recD (dkFall (evDo (evStep (s, jour l) (1, 0, ⟨#[]⟩)) _) ks) _) _ = _
  rw [f1]
  have at1 : homeD (recD (s1, []) (N : Int)) (N : Int) = homes N s := (rec_none L1.1 h1 h2 L1.2.1).trans L1.2.2
  cases j with
  | zero =>
    left
    show homeD (recD (dkFall (s1, []) ks) _) _ = _
    rw [nofall L1.1, at1]
  | succ j =>
    rw [List.take_succ_cons]
    show homeD (recD (dkFall (evDo (evStep (s1, []) (0, ((0 : Int), headText l).1, ((0 : Int), headText l).2)) _) ks) _) _ = _ ∨ homeD (recD (dkFall (evDo (evStep (s1, []) (0, ((0 : Int), headText l).1, ((0 : Int), headText l).2)) _) ks) _) _ = _
    rw [wrA (0, headText l) L1.1 rfl hdz]
    have okh := okp L1.1 (dok (0, headText l) rfl hdz) (by simp)
    cases j with
    | zero =>
      show homeD (recD (dkFall (s1, [(0, headText l)]) ks) _) _ = _ ∨ homeD (recD (dkFall (s1, [(0, headText l)]) ks) _) _ = _
      rw [fall_ev okh]
      rcases keepL_one (0, headText l) ks with hk1 | hk1
      · left; rw [hk1]; exact at1
      · right; rw [hk1]; show homeD (recD (s1.set 0 (headText l), []) _) _ = _; rw [hs2]; exact at2
    | succ j =>
      right
      rw [List.take_succ_cons]
      show homeD (recD (dkFall (evDo (evStep (s1, [(0, headText l)]) (1, 0, ⟨#[]⟩)) _) ks) _) _ = _
      have f2 : evStep (s1, [((0 : Int), headText l)]) (1, 0, ⟨#[]⟩) = (s2, []) := by rw [flush_ev okh]; show (s1.set 0 (headText l), _) = _; rw [hs2]
      rw [f2]
      by_cases hj2 : j ≤ l.length
      · have e : (wrE (shift N l) ++ [((1 : Int), (0 : Int), (⟨#[]⟩ : ByteArray)), (0, 0, ⟨#[]⟩), (1, 0, ⟨#[]⟩)]).take j = wrE (shift N (l.take j)) := by
          rw [List.take_append_of_le_length (by omega)]
          simp [wrE, shift, List.map_take]
        have sub : ∀ q ∈ shift N (l.take j), q ∈ shift N l := by
          intro q hq
          obtain ⟨x, hx, rfl⟩ := List.mem_map.1 hq
          exact List.mem_map.2 ⟨x, List.mem_of_mem_take hx, rfl⟩
        rw [e, evDo_wr L2 h2 _ [] (fun q hq => sok q (sub q (by simpa using hq))) (by simp [shift]; omega), List.nil_append]
        rw [fall_ev (okp L2 (fun q hq => sok q (sub q hq)) (by simp [shift]; omega))]
        unfold shift at high ⊢
        rw [keepL_map]
        exact high _ (fun q hq => List.mem_of_mem_take (keepL_mem hq))
      obtain ⟨i, rfl⟩ : ∃ i, j = l.length + (i + 1) := ⟨j - l.length - 1, by omega⟩
      have e : ∀ (R : List EvD), (wrE (shift N l) ++ R).take (l.length + (i + 1)) = wrE (shift N l) ++ R.take (i + 1) := by
        intro R
        rw [← hwh, List.take_length_add_append]
      rw [e, evDo_app, evDo_wr L2 h2 (shift N l) [] (by simpa using sok) (by simp; omega), List.nil_append, List.take_succ_cons]
      have f3 : evStep (s2, shift N l) (1, 0, ⟨#[]⟩) = (putIn s2 (shift N l), []) := flush_ev (okp L2 sok (by omega))
      show homeD (recD (dkFall (evDo (evStep (s2, shift N l) (1, 0, ⟨#[]⟩)) _) ks) _) _ = _
      rw [f3]
      generalize putIn s2 (shift N l) = s3 at *
      cases i with
      | zero =>
        show homeD (recD (dkFall (s3, []) ks) _) _ = _
        rw [nofall S3]; exact full
      | succ i =>
        rw [List.take_succ_cons]
        show homeD (recD (dkFall (evDo (evStep (s3, []) (0, ((0 : Int), (⟨#[]⟩ : ByteArray)).1, ((0 : Int), (⟨#[]⟩ : ByteArray)).2)) _) ks) _) _ = _
        rw [wrA (0, ⟨#[]⟩) S3 rfl (by decide)]
        have oke := okp S3 (dok (0, ⟨#[]⟩) rfl (by decide)) (by simp)
        cases i with
        | zero =>
          show homeD (recD (dkFall (s3, [(0, ⟨#[]⟩)]) ks) _) _ = _
          rw [fall_ev oke]
          rcases keepL_one (0, ⟨#[]⟩) ks with hk1 | hk1
          · rw [hk1]; exact full
          · rw [hk1]; exact at4
        | succ i =>
          rw [List.take_succ_cons, List.take_nil]
          show homeD (recD (dkFall (evStep (s3, [(0, ⟨#[]⟩)]) (1, 0, ⟨#[]⟩)) ks) _) _ = _
          rw [flush_ev oke]
          show homeD (recD (dkFall (s3.set 0 ⟨#[]⟩, []) ks) _) _ = _
          rw [nofall S4]; exact at4
/-- Behind a commit's end all of it is there. -/
theorem atomic_end {s : List ByteArray} {l : List PutD} (h : Sec N s) (ht : TxP (N : Int) l) :
    homeD (recD (evDo (s, []) (commitE (N : Int) l)) (N : Int)) (N : Int) = putIn (homes N s) l := by
  have h1 : 1 ≤ N := by have := ht.1; omega
  have h2 : N ≤ 48 := by have := ht.2.1; omega
  have hlen := ht.len
  have hp : ∀ p ∈ l, 0 ≤ p.1 ∧ p.1 < (N : Int) := fun p hp => ⟨(ht.at p hp).1, by have := (ht.at p hp).2.1; omega⟩
  have hj : ∀ q ∈ jour l, 1 ≤ q.1 ∧ q.1 ≤ (N : Int) ∧ q.2.size ≤ 90 := by
    intro q hq
    obtain ⟨i, hi, rfl⟩ := List.mem_map.1 hq
    have hi := List.mem_range.1 hi
    have e : l.getD i (0, ⟨#[]⟩) = l[i] := by simp [List.getD, hi]
    refine ⟨by show (1 : Int) ≤ ((1 + i : Nat) : Int); omega, by show ((1 + i : Nat) : Int) ≤ _; omega, ?_⟩
    show (l.getD i (0, ⟨#[]⟩)).2.size ≤ 90
    rw [e]
    exact (ht.at _ (List.getElem_mem hi)).2.2
  have hh : ∀ q ∈ shift N l, (N : Int) + 1 ≤ q.1 ∧ q.1 < 2 * (N : Int) + 1 ∧ q.2.size ≤ 90 := by
    intro q hq
    obtain ⟨x, hx, rfl⟩ := List.mem_map.1 hq
    have := hp x hx
    exact ⟨by show _ ≤ (N : Int) + 1 + x.1; omega, by show (N : Int) + 1 + x.1 < _; omega, (ht.at x hx).2.2⟩
  have okp : ∀ {t : List ByteArray} {p : List PutD}, Sec N t → (∀ q ∈ p, 0 ≤ q.1 ∧ q.1 < 2 * (N : Int) + 1 ∧ q.2.size ≤ 90) → p.length ≤ 400 → dkOk (t, p) = true := by
    intro t p hT hq hl
    have := hT.1
    exact dkOk_iff.2 ⟨by show t.length ≤ 120; omega, hl, hT.2, fun x hx => ⟨(hq x hx).1, by show x.1 < (t.length : Int); have := (hq x hx).2.1; omega, (hq x hx).2.2⟩⟩
  have wrA : ∀ {t : List ByteArray} (p : PutD), Sec N t → p.1 = 0 → p.2.size ≤ 90 → evStep (t, []) (0, p.1, p.2) = (t, [p]) ∧ evStep (t, [p]) (1, 0, ⟨#[]⟩) = (t.set 0 p.2, []) := by
    intro t p hT e1 e2
    have d : ∀ q ∈ [p], 0 ≤ q.1 ∧ q.1 < 2 * (N : Int) + 1 ∧ q.2.size ≤ 90 := by
      intro q hq
      obtain rfl : q = p := by simpa using hq
      exact ⟨by omega, by omega, e2⟩
    have := evDo_wr hT h2 [p] [] (by simpa using d) (by simp)
    refine ⟨by simpa [wrE, evDo] using this, ?_⟩
    rw [flush_ev (okp hT d (by simp)), putIn_cons, e1]
    rfl
  have jok : ∀ q ∈ jour l, 0 ≤ q.1 ∧ q.1 < 2 * (N : Int) + 1 ∧ q.2.size ≤ 90 := fun q hq => by have := hj q hq; exact ⟨by omega, by omega, this.2.2⟩
  have sok : ∀ q ∈ shift N l, 0 ≤ q.1 ∧ q.1 < 2 * (N : Int) + 1 ∧ q.2.size ≤ 90 := fun q hq => by have := hh q hq; exact ⟨by omega, by omega, this.2.2⟩
  have hjl : (jour l).length = l.length := by simp [jour]
  have hsl : (shift N l).length = l.length := by simp [shift]
  have S1 : Sec N (putIn s (jour l)) := h.put fun q hq => (hj q hq).2.2
  have S2 : Sec N ((putIn s (jour l)).set 0 (headText l)) := S1.set 0 head_size
  have S3 : Sec N (putIn ((putIn s (jour l)).set 0 (headText l)) (shift N l)) := S2.put fun q hq => (hh q hq).2.2
  have S4 : Sec N ((putIn ((putIn s (jour l)).set 0 (headText l)) (shift N l)).set 0 ⟨#[]⟩) := S3.set 0 (by decide)
  have e : evDo (s, []) (commitE (N : Int) l) = ((putIn ((putIn s (jour l)).set 0 (headText l)) (shift N l)).set 0 ⟨#[]⟩, []) := by
    rw [commitE_eq ht, evDo_app, evDo_wr h h2 (jour l) [] (by simpa using jok) (by simp; omega), List.nil_append]
    show evDo (evStep (evStep (evStep (s, jour l) (1, 0, ⟨#[]⟩)) (0, ((0 : Int), headText l).1, ((0 : Int), headText l).2)) (1, 0, ⟨#[]⟩)) _ = _
    rw [flush_ev (okp h jok (by omega)), (wrA (0, headText l) S1 rfl head_size).1, (wrA (0, headText l) S1 rfl head_size).2, evDo_app, evDo_wr S2 h2 (shift N l) [] (by simpa using sok) (by simp; omega), List.nil_append]
    show evStep (evStep (evStep (_, shift N l) (1, 0, ⟨#[]⟩)) (0, ((0 : Int), (⟨#[]⟩ : ByteArray)).1, ((0 : Int), (⟨#[]⟩ : ByteArray)).2)) (1, 0, ⟨#[]⟩) = _
    rw [flush_ev (okp S2 sok (by omega)), (wrA (0, ⟨#[]⟩) S3 rfl (by decide)).1, (wrA (0, ⟨#[]⟩) S3 rfl (by decide)).2]
  rw [e, rec_none S4 h1 h2 (getD_set_eq _ (by have := S3.1; omega) _), homes_low (fun i hi => getD_set_ne _ (by omega) _), homes_put hp _ S2.1, homes_low (fun i hi => getD_set_ne _ (by omega) _), homes_low (fun i hi => putIn_off (fun q hq => by have := hj q hq; omega) s)]
end
/-! ### Recoveries -/
theorem applyTo_len (n : Int) (ats : List Int) (s : List ByteArray) : ∀ k, (applyTo n ats s k).length = s.length
  | 0 => rfl
  | k + 1 => by rw [applyTo, List.length_set, applyTo_len n ats s k]
theorem applyTo_small {n : Int} {ats : List Int} {s : List ByteArray} (h : ∀ x ∈ s, x.size ≤ 90) : ∀ k, ∀ x ∈ applyTo n ats s k, x.size ≤ 90
  | 0 => h
  | k + 1 => by
    intro x hx
    rw [applyTo] at hx
    rcases List.mem_or_eq_of_mem_set hx with hx | rfl
    · exact applyTo_small h k x hx
    · by_cases hl : 1 + k < (applyTo n ats s k).length
      · have e : (applyTo n ats s k).getD (1 + k) ⟨#[]⟩ = (applyTo n ats s k)[1 + k] := by simp [List.getD, hl]
        rw [e]
        exact applyTo_small h k _ (List.getElem_mem hl)
      · have e : (applyTo n ats s k).getD (1 + k) ⟨#[]⟩ = ⟨#[]⟩ := by
          rw [List.getD, List.getElem?_eq_none (by omega)]; rfl
        rw [e]
        decide
theorem recS_len (s : List ByteArray) (n : Int) : (recS s n).length = s.length := by
  unfold recS
  rw [List.length_set]
  split
  · split
    · rw [applyTo_len]
    · rfl
  · rfl
theorem recS_small {s : List ByteArray} {n : Int} (h : ∀ x ∈ s, x.size ≤ 90) : ∀ x ∈ recS s n, x.size ≤ 90 := by
  intro x hx
  unfold recS at hx
  rcases List.mem_or_eq_of_mem_set hx with hx | rfl
  · split at hx
    · split at hx
      · exact applyTo_small h _ x hx
      · exact h x hx
    · exact h x hx
  · decide
theorem recS_zero {s : List ByteArray} {n : Int} (h : 0 < s.length) : (recS s n).getD 0 ⟨#[]⟩ = ⟨#[]⟩ := by
  have e : (recS s n).length = s.length := recS_len s n
  unfold recS at e ⊢
  rw [List.length_set] at e
  exact getD_set_eq _ (by omega) _
theorem recD_sec {d : DkD} {n : Int} (h : okJ d n = true) : ∃ N : Nat, n = (N : Int) ∧ 1 ≤ N ∧ N ≤ 48 ∧ recD d n = (recS d.1 n, []) ∧ Sec N (recS d.1 n) ∧ (recS d.1 n).getD 0 ⟨#[]⟩ = ⟨#[]⟩ := by
  obtain ⟨h1, h2, h3, h4⟩ := okJ_iff.1 h
  refine ⟨n.toNat, by omega, by omega, by omega, by unfold recD; rw [if_pos h], ⟨by rw [recS_len]; omega, recS_small (dkOk_iff.1 h1).2.2.1⟩, recS_zero (by omega)⟩
/-- A recovery a second time is none. -/
theorem rec_twice (d : DkD) (n : Int) (h : okJ d n = true) : recD (recD d n) n = recD d n := by
  obtain ⟨N, rfl, h1, h2, e, hS, h0⟩ := recD_sec h
  rw [e]
  unfold recD
  rw [if_pos (hS.okJ h1 h2)]
  generalize recS d.1 (N : Int) = t at *
  show (recS t (N : Int), _) = _
  have hl : 0 < t.length := by have := hS.1; omega
  unfold recS
  rw [h0, headOf_empty]
  show (t.set 0 ⟨#[]⟩, _) = _
  have e0 : t.set 0 ⟨#[]⟩ = t := by
    have : t[0] = ⟨#[]⟩ := by have h0 := h0; simp [List.getD, hl] at h0; exact h0
    rw [← this]
    exact List.set_getElem_self hl
  rw [e0]
theorem rec_fallen (d : DkD) (n : Int) (h : okJ d n = true) : recD (dkFall d []) n = recD d n := by
  obtain ⟨h1, h2, h3, h4⟩ := okJ_iff.1 h
  rw [fall_nil h1]
  have hk : okJ (d.1, ([] : List PutD)) n = true := okJ_iff.2 ⟨none_ok h1, h2, h3, h4⟩
  unfold recD
  rw [if_pos hk, if_pos h]
end Go.Proofs.Ytlidmnehpcodkaa
