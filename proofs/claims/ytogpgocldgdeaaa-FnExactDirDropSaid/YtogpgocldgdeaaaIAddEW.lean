/-
  Own text: an entry is added, by the program.
-/
import Derived.Test.YtogpgocldgdeaaaIWithEW
namespace Go.Proofs.Ytogpgocldgdeaaa
open Go.RowKit

theorem ord_all {l : List EntD} (h : OrdP l l.length) : ∀ (k j : Nat) (hk : k < l.length) (hj : j < l.length), j < k → ltB (l[j]).1 (l[k]).1 = true := by
  intro k
  induction k with
  | zero => intro j _ _ hjk; omega
  | succ k ih =>
    intro j hk hj hjk
    have h1 := h (k + 1) hk hk (by omega) (by simp; omega)
    simp at h1
    by_cases e : j = k
    · subst e; exact h1
    · exact ltB_trans (ih j (by omega) hj (by omega)) h1
/-- Where an entry stands when another one has been put in at q. -/
def upE (q k : Nat) : Nat := if k < q then k else k + 1
theorem insE_at {l : List EntD} {q : Nat} {s : ByteArray} {n : Int} (hq : q ≤ l.length) (k : Nat) (hk : k < l.length) (h : upE q k < (insE l q s n).length) : (insE l q s n)[upE q k] = l[k] := by
  have htl : (l.take q).length = q := by rw [List.length_take]; omega
  have e : (insE l q s n)[upE q k]? = some l[k] := by
    unfold insE upE
    by_cases hkq : k < q
    · rw [if_pos hkq, List.getElem?_append_left (by omega), List.getElem?_take_of_lt hkq, List.getElem?_eq_getElem hk]
    · rw [if_neg hkq, List.getElem?_append_right (by omega), htl, show k + 1 - q = (k - q) + 1 by omega, List.getElem?_cons_succ, List.getElem?_drop, show q + (k - q) = k by omega, List.getElem?_eq_getElem hk]
  rw [List.getElem?_eq_getElem h] at e
  injection e
theorem enP_less {l : List EntD} {s : ByteArray} {n : Int} (h : EnP (enAdded l s n)) : EnP l := by
  rw [enAdded_ins] at h
  have hq := enAt_le l s
  generalize enAt l s = q at *
  have hL := insE_len (s := s) (n := n) hq
  obtain ⟨h1, h2, h3, h4⟩ := (enP_iff _).1 h
  have hup : ∀ k, k < l.length → upE q k < (insE l q s n).length := fun k hk => by unfold upE; split <;> omega
  have hlt : ∀ j k, j < k → upE q j < upE q k := fun j k hjk => by unfold upE; split <;> split <;> omega
  refine (enP_iff l).2 ⟨fun k hk _ => ?_, fun k hk _ h0 hk1 => ?_, fun k hk _ => ⟨?_, fun j hj hjk he => ?_⟩, ?_⟩
  · have := h1 _ (hup k hk) (hup k hk)
    rw [insE_at hq k hk] at this
    exact this
  · have := ord_all h2 (upE q k) (upE q (k - 1)) (hup k hk) (hup _ hk1) (hlt _ _ (by omega))
    rw [insE_at hq k hk, insE_at hq (k - 1) hk1] at this
    exact this
  · have := (h3 _ (hup k hk) (hup k hk)).1
    rw [insE_at hq k hk] at this
    exact this
  · have := (h3 _ (hup k hk) (hup k hk)).2 _ (hup j hj) (hlt _ _ hjk)
    rw [insE_at hq k hk, insE_at hq j hj] at this
    exact this he
  · refine Nat.le_trans ?_ h4
    have e : enText l = enText (l.take q) ++ enText (l.drop q) := by unfold enText; rw [← List.flatMap_append, List.take_append_drop]
    have e2 : enText (insE l q s n) = enText (l.take q) ++ (putText s ++ putNum n ++ enText (l.drop q)) := by unfold enText insE; rw [List.flatMap_append, List.flatMap_cons]
    rw [e, e2]
    simp only [List.length_append]
    omega
theorem addOk_eq (l : List EntD) (s : ByteArray) (n : Int) : addOk l s n = enOk (enAdded l s n) := by
  unfold addOk
  cases h : enOk (enAdded l s n) with
  | false => simp
  | true =>
    have : EnP (enAdded l s n) := by unfold enOk at h; exact @of_decide_eq_true _ (Classical.propDecidable _) h
    rw [enOk_yes (enP_less this)]
    rfl

set_option maxRecDepth 20000 in
set_option maxHeartbeats 1000000 in
theorem implDirAdd (a : Option Addr) (c : Nat) (l : List EntD) (s : ByteArray) (n : Int) (w : World) (hl : szEn l ≤ 1048576) (hs : s.size ≤ 1048576) (hr : RdF encN 2 w a l) :
    Calls Try.prog 18 #[.slice a l.length c, .string s, .int .i64 n] w fun e w' => ∃ v, e = .returned (.tuple #[v, .bool (addOk l s n)]) ∧ OwnEn w' w.heap.size w'.heap.size v (addD l s n) ∧ Below w.heap.size w w' := by
  have hsh : ShE l := (smE_of hl).sh
  have HW : Hid (Calls Try.prog 37 #[.slice a l.length c, .agg #[.string s, .int .i64 n]] w fun e w' => ∃ v, e = .returned v ∧ w'.ownsRow w.heap.size 41 2 v (l.length + 1) ((enAdded l s n).flatMap encN) ∧ Below w.heap.size w w') := implWith a c l s n w hsh hs hr
  have hal2 : (enAdded l s n).length = l.length + 1 := by rw [enAdded_ins]; exact insE_len (enAt_le l s)
  have HE : Hid (∀ W v, W.ownsRow w.heap.size 41 2 v (l.length + 1) ((enAdded l s n).flatMap encN) → Calls Try.prog 11 #[v] W fun e w' => e = .returned (.bool (addOk l s n)) ∧ Below W.heap.size W w') := fun W v h => by
    obtain ⟨a2, c2, rfl, _, hr2⟩ := own_rdF encN_len h hal2
    have := implEntriesOk a2 c2 (enAdded l s n) W (enAdded_sm hl hs) hr2
    rw [hal2, ← addOk_eq] at this
    exact this
  have HF : Hid (∀ W, Below w.heap.size w W → Calls Try.prog 38 #[.slice a l.length c] W fun e w' => ∃ v, e = .returned v ∧ OwnEn w' w.heap.size w'.heap.size v l ∧ Below W.heap.size W w') := fun W hb => by
    refine (freshEn a c l W hsh (hr.below hb (Nat.le_refl _))).mono ?_
    rintro e w' ⟨v, rfl, h1, h2⟩
    exact ⟨v, rfl, OwnEn.of (ownsRow_base h1 hb.size), h2⟩
  cases hq : addOk l s n with
  | true =>
    have hd : addD l s n = enAdded l s n := by unfold addD; rw [if_pos hq]
    have HAN : Hid (∀ W v, W.ownsRow w.heap.size 41 2 v (l.length + 1) ((enAdded l s n).flatMap encN) → OwnEn W w.heap.size W.heap.size v (addD l s n)) := fun W v h => by rw [hd]; exact OwnEn.of (by rw [hal2]; exact h)
    rw [hq] at HE
    clear hq hd hal2 hr hl hsh HF
    generalize (enAdded l s n).flatMap encN = XA at *
    generalize addD l s n = D at *
    go_enter Try.func18, Try.ntmps18
    go_wp2_with fail
    refine HW.out.mono ?_
    rintro e w1 ⟨v1, rfl, ho1, hb1⟩
    go_wp2_with fail
    refine (HE.out _ _ ho1).mono ?_
    rintro e w2 ⟨rfl, hb2⟩
    have ho2 := ownsRow_below ho1 hb2 (Nat.le_refl _)
    have hB := hb1.trans (hb2.mono hb1.size)
    go_wp2
    go_returns
    exact ⟨_, rfl, HAN.out _ _ ho2, hB⟩
  | false =>
    have hd : addD l s n = l := by unfold addD; rw [hq]; rfl
    rw [hq] at HE
    rw [hd]
    clear hq hd hal2 hr hl hsh
    generalize (enAdded l s n).flatMap encN = XA at *
    go_enter Try.func18, Try.ntmps18
    go_wp2_with fail
    refine HW.out.mono ?_
    rintro e w1 ⟨v1, rfl, ho1, hb1⟩
    go_wp2_with fail
    refine (HE.out _ _ ho1).mono ?_
    rintro e w2 ⟨rfl, hb2⟩
    have hB := hb1.trans (hb2.mono hb1.size)
    go_wp2_with fail
    refine (HF.out _ hB).mono ?_
    rintro e w3 ⟨v3, rfl, ho3, hb3⟩
    have hB3 := hB.trans (hb3.mono hB.size)
    go_wp2
    go_returns
    exact ⟨_, rfl, ho3, hB3⟩
end Go.Proofs.Ytogpgocldgdeaaa
