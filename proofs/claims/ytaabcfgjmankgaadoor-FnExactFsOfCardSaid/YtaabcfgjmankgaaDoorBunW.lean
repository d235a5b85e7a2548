/-
  Own texts, several together.
-/
import Derived.Test.YtaabcfgjmankgaaDoorNodeMath
import Derived.Test.YtaabcfgjmankgaaDoorBunT
import Derived.Test.YtaabcfgjmankgaaDoorFsMath
import Derived.Test.YtaabcfgjmankgaaDoorFsF
/-
  Own text, plain: which node a text tells, by the numbers that it is made of.
-/

namespace Go.Proofs.YtaabcfgjmankgaaDoor
open Go.RowKit

theorem good_bytes {b : List Int} (hu : U8 b) {p n next : Nat} (h : Good b (p : Int) n next) : b.drop p = putNum (n : Int) ++ b.drop next := by
  obtain ⟨p', k, hp, hs, h1, h2, h3, h4⟩ := h
  obtain rfl : p = p' := by omega
  have he := (good_iff hu hs).2 ⟨h1, by omega⟩
  rw [← h2] at he
  rw [he, h4]
  unfold cut
  rw [show b.drop (p + k + 1) = (b.drop p).drop (k + 1) by rw [List.drop_drop, Nat.add_assoc]]
  exact (List.take_append_drop _ _).symm
theorem ats_bytes {b : List Int} (hu : U8 b) : ∀ {xs : List Int} {p q : Nat}, AtsFrom b p xs q → b.drop p = xs.flatMap putNum ++ b.drop q
  | [], p, q, h => by cases h; simp
  | x :: xs, p, q, ⟨n, nx, hg, hx, hr⟩ => by
    rw [good_bytes hu hg, ats_bytes hu hr, hx]
    simp
/-- A text that begins with a kind that is not free, and goes on in numbers to its end. -/
theorem of_nums {b : List Int} (hu : U8 b) {n : NodeD} (hk : n.k ≠ 0) (h0 : 0 < b.length) (hb : b.getD 0 0 = n.k) (ha : AtsFrom b 1 (numsN n) b.length) (hn : NodP n) : OfP b n := by
  refine ⟨hn, ?_⟩
  have h1 := ats_bytes hu ha
  rw [List.drop_length, List.append_nil] at h1
  unfold ndB
  rw [if_neg hk]
  cases b with
  | nil => simp at h0
  | cons c b =>
    simp at hb h1
    rw [hb, h1]
theorem of_kind {b : List Int} {n : NodeD} (h : OfP b n) : 0 < b.length ∧ b.getD 0 0 = n.k ∧ (n.k = 0 → b.length = 1) ∧ (n.k ≠ 0 → AtsFrom b 1 (numsN n) b.length) := by
  obtain ⟨hn, rfl⟩ := h
  refine ⟨by have := ndB_len hn; omega, ?_, ?_, nums_from hn⟩
  · unfold ndB
    split
    · rename_i h; simp [h]
    · simp
  · intro h
    unfold ndB
    rw [if_pos h]
    rfl
theorem of_unique {b : List Int} {m n : NodeD} (h : OfP b m) (h' : OfP b n) : m = n := by
  obtain ⟨_, h2, h3, h4⟩ := of_kind h
  obtain ⟨_, h2', h3', h4'⟩ := of_kind h'
  have hk : m.k = n.k := by rw [← h2, ← h2']
  by_cases h0 : m.k = 0
  · rw [h.1.kind.2.2 h0, h'.1.kind.2.2 (by omega)]
  · have := (h4 h0).same (h4' (by omega))
    unfold numsN at this
    simp only [List.cons.injEq] at this
    exact NodeD.ext' hk this.1 this.2.1 this.2.2.1 this.2.2.2
open Classical in
noncomputable def ofO (s : ByteArray) : Option NodeD := if h : ∃ n, OfP (bytesOf s) n then some h.choose else none
theorem ofO_some {s : ByteArray} {n : NodeD} (h : OfP (bytesOf s) n) : ofO s = some n := by
  unfold ofO
  have h' : ∃ n, OfP (bytesOf s) n := ⟨n, h⟩
  rw [dif_pos h']
  exact congrArg some (of_unique h'.choose_spec h)
theorem ofO_none {s : ByteArray} (h : ∀ n, ¬ OfP (bytesOf s) n) : ofO s = none := by
  unfold ofO
  rw [dif_neg (fun ⟨n, hn⟩ => h n hn)]
theorem ofO_spec {s : ByteArray} {n : NodeD} (h : ofO s = some n) : OfP (bytesOf s) n := by
  unfold ofO at h
  split at h
  · rename_i h'
    injection h with h
    rw [← h]
    exact h'.choose_spec
  · cases h
noncomputable def ofN (s : ByteArray) : NodeD := (ofO s).getD zeroN
noncomputable def ofOk (s : ByteArray) : Bool := (ofO s).isSome
theorem of_yes {s : ByteArray} {n : NodeD} (h : OfP (bytesOf s) n) : ofN s = n ∧ ofOk s = true := by
  unfold ofN ofOk
  rw [ofO_some h]
  exact ⟨rfl, rfl⟩
theorem of_no {s : ByteArray} (h : ∀ n, ¬ OfP (bytesOf s) n) : ofN s = zeroN ∧ ofOk s = false := by
  unfold ofN ofOk
  rw [ofO_none h]
  exact ⟨rfl, rfl⟩
theorem ofN_len (s : ByteArray) : (ofN s).b.length ≤ 5 := by
  unfold ofN
  cases h : ofO s with
  | none => simp [zeroN]
  | some n => exact (ofO_spec h).1.len
theorem baOf_bytes (s : ByteArray) : baOf (bytesOf s) = s := by
  unfold baOf bytesOf
  rw [List.map_map]
  have : ((fun x : Int => UInt8.ofNat x.toNat) ∘ fun b : UInt8 => (b.toNat : Int)) = id := by
    funext b
    simp
  first
    | (simp [this]; done)
    | (rw [this]; simp)
/-- A node is read from its text as it was. -/
theorem of_text {n : NodeD} (h : NodP n) : ofN (ndText n) = n ∧ ofOk (ndText n) = true := by
  refine of_yes ⟨h, ?_⟩
  unfold ndText
  rw [if_pos (ndOk_yes h), bytesOf_S (ndB_u8 h)]
/-- A text that is read is that node's text. -/
theorem text_of {s : ByteArray} (h : ofOk s = true) : ndText (ofN s) = s ∧ NodP (ofN s) := by
  unfold ofOk at h
  unfold ofN
  cases ho : ofO s with
  | none => rw [ho] at h; cases h
  | some n =>
    obtain ⟨h1, h2⟩ := ofO_spec ho
    refine ⟨?_, h1⟩
    show ndText n = s
    unfold ndText
    rw [if_pos (ndOk_yes h1), ← h2, baOf_bytes]
theorem of_empty : ofOk ⟨#[]⟩ = false := (of_no fun n h => by have := (of_kind h).1; simp [bytesOf] at this).2
/-- Texts that tell no node. -/
theorem no_kind {b : List Int} (h : b.length = 0) : ∀ n, ¬ OfP b n := fun n hn => by have := (of_kind hn).1; omega
theorem no_free {b : List Int} (h0 : b.getD 0 0 = 0) (h : b.length ≠ 1) : ∀ n, ¬ OfP b n := fun n hn => by
  obtain ⟨_, h2, h3, _⟩ := of_kind hn
  exact h (h3 (by omega))
theorem no_nums {b xs : List Int} {p : Nat} (hk : b.getD 0 0 ≠ 0) (hx : AtsFrom b 1 xs p) (hp : p < b.length) (h : ∀ m x, ¬ Good b (p : Int) m x) : ∀ n, ¬ OfP b n := fun n hn => by
  obtain ⟨_, h2, _, h4⟩ := of_kind hn
  have ha := h4 (by omega)
  obtain ⟨m, x, hg⟩ : ∃ m x, Good b (p : Int) m x := by
    clear hk h2 h4 hn h
    generalize numsN n = ys at ha
    generalize (1 : Nat) = a at hx ha
    induction xs generalizing a ys with
    | nil =>
      cases hx
      cases ys with
      | nil => cases ha; omega
      | cons y ys => obtain ⟨n, nx, hg, _⟩ := ha; exact ⟨n, nx, hg⟩
    | cons x xs ih =>
      obtain ⟨m, nx, hg, _, hr⟩ := hx
      cases ys with
      | nil =>
        cases ha
        have := hg.up
        have := hr.up
        omega
      | cons y ys =>
        obtain ⟨n, nx', hg', _, hr'⟩ := ha
        obtain ⟨rfl, rfl⟩ := hg.unique hg'
        exact ih ys _ hr hr'
  exact h m x hg
theorem no_other {b xs : List Int} (hx : AtsFrom b 1 xs b.length) (hk : b.getD 0 0 ≠ 0) (h : ∀ n : NodeD, n.k = b.getD 0 0 → numsN n = xs → ¬ NodP n) : ∀ n, ¬ OfP b n := fun n hn => by
  obtain ⟨_, h2, _, h4⟩ := of_kind hn
  exact h n h2.symm ((h4 (by omega)).same hx) hn.1
end Go.Proofs.YtaabcfgjmankgaaDoor

/-
  Own text, plain: which branch some blocks tell.
-/
namespace Go.Proofs.YtaabcfgjmankgaaDoor
open Go.RowKit

/-- The blocks tell the branch. -/
def FsIs (l : List ByteArray) (F : FsD) : Prop := ShapeP F ∧ fsBl F = l
/-- What is read of so many nodes. -/
noncomputable def readF (l : List ByteArray) (k : Nat) : FsD := ⟨((l.drop 2).take k).map ofN, l.drop (2 + k)⟩
theorem FsIs.parts {l : List ByteArray} {F : FsD} (h : FsIs l F) : l = baOf (fsHead F) :: baOf (bitsB (allB F.ns) ((F.ds.length + 7) / 8)) :: (F.ns.map ndText ++ F.ds) := by
  rw [← h.2]
  unfold fsBl
  rw [if_pos (shOk_yes h.1)]
theorem FsIs.len {l : List ByteArray} {F : FsD} (h : FsIs l F) : l.length = 2 + F.ns.length + F.ds.length := by rw [← h.2]; exact fsBl_len h.1
theorem FsIs.read {l : List ByteArray} {F : FsD} (h : FsIs l F) : readF l F.ns.length = F := by
  have hp := h.parts
  have h1 : l.drop 2 = F.ns.map ndText ++ F.ds := by rw [hp]; rfl
  have h2 : l.drop (2 + F.ns.length) = F.ds := by
    rw [← List.drop_drop, h1, List.drop_left' (by simp)]
  have h3 : ((l.drop 2).take F.ns.length).map ofN = F.ns := by
    rw [h1, List.take_left' (by simp), List.map_map]
    conv => rhs; rw [← List.map_id F.ns]
    refine List.map_congr_left fun n hn => ?_
    exact (of_text (h.1.2.2.1 n hn)).1
  unfold readF
  rw [h2, h3]
theorem head_small {F : FsD} (h : ShapeP F) : fsHead F = [66, 65, 83, 78, (F.ns.length : Int), (F.ds.length : Int)] := by
  obtain ⟨h1, h2, h3, h4⟩ := h.1
  have e : ∀ n : Nat, n < 128 → putNum (n : Int) = [(n : Int)] := by
    intro n hn
    unfold putNum
    rw [if_pos (by omega), vlq_small _ _ (by omega)]
    simp
  unfold fsHead
  rw [e _ (by omega), e _ (by omega)]
  rfl
/-- The first block tells how many nodes and data there are. -/
theorem FsIs.head {l : List ByteArray} {F : FsD} (h : FsIs l F) : ∃ s, l[0]? = some s ∧ bytesOf s = [66, 65, 83, 78, (F.ns.length : Int), (F.ds.length : Int)] := by
  refine ⟨baOf (fsHead F), by rw [h.parts]; rfl, ?_⟩
  rw [head_small h.1]
  refine bytesOf_S ?_
  obtain ⟨h1, h2, h3, h4⟩ := h.1.1
  intro x hx
  simp at hx
  omega
theorem FsIs.unique {l : List ByteArray} {F G : FsD} (h : FsIs l F) (h' : FsIs l G) : F = G := by
  obtain ⟨s, hs, e1⟩ := h.head
  obtain ⟨s', hs', e2⟩ := h'.head
  rw [hs] at hs'
  injection hs' with hs'
  rw [← hs', e1] at e2
  have hl : F.ns.length = G.ns.length := by
    simp at e2
    omega
  rw [← h.read, ← h'.read, hl]
noncomputable def ofFs (l : List ByteArray) : FsD := @dite _ (∃ F, FsIs l F) (Classical.propDecidable _) (fun h => Classical.choose h) (fun _ => zeroF)
noncomputable def ofFsOk (l : List ByteArray) : Bool := @decide (∃ F, FsIs l F) (Classical.propDecidable _)
theorem ofFs_yes {l : List ByteArray} {F : FsD} (h : FsIs l F) : ofFs l = F ∧ ofFsOk l = true := by
  have hex : ∃ F, FsIs l F := ⟨F, h⟩
  constructor
  · unfold ofFs
    rw [dif_pos hex]
    exact (Classical.choose_spec hex).unique h
  · unfold ofFsOk; exact @decide_eq_true _ (Classical.propDecidable _) hex
theorem ofFs_no {l : List ByteArray} (h : ∀ F, ¬ FsIs l F) : ofFs l = zeroF ∧ ofFsOk l = false := by
  have hex : ¬ ∃ F, FsIs l F := fun ⟨F, hF⟩ => h F hF
  constructor
  · unfold ofFs; rw [dif_neg hex]
  · unfold ofFsOk; exact @decide_eq_false _ (Classical.propDecidable _) hex
/-- Each node's text of what is told is a node's. -/
theorem FsIs.node {l : List ByteArray} {F : FsD} (h : FsIs l F) {i : Nat} (hi : i < F.ns.length) : ∃ s, l[2 + i]? = some s ∧ ofOk s = true := by
  refine ⟨ndText F.ns[i], ?_, (of_text (h.1.2.2.1 _ (List.getElem_mem hi))).2⟩
  rw [h.parts, Nat.add_comm 2 i]
  show (F.ns.map ndText ++ F.ds)[i]? = _
  rw [List.getElem?_append_left (by simpa using hi), List.getElem?_map, List.getElem?_eq_getElem hi]
  rfl
/-- No branch is told where a number of nodes does not fit, or what is read of that many is not it. -/
theorem no_head {l : List ByteArray} (h : ∀ s, l[0]? = some s → ∀ n d : Nat, bytesOf s = [66, 65, 83, 78, (n : Int), (d : Int)] → False) : ∀ F, ¬ FsIs l F := fun F hF => by
  obtain ⟨s, hs, e⟩ := hF.head
  exact h s hs _ _ e
theorem told_iff {l : List ByteArray} {k : Nat} (hk : ∀ F, FsIs l F → F.ns.length = k) : (∃ F, FsIs l F) ↔ (ShapeP (readF l k) ∧ fsBl (readF l k) = l) := by
  constructor
  · rintro ⟨F, hF⟩
    rw [← hk F hF, hF.read]
    exact hF
  · intro h; exact ⟨_, h⟩
theorem told {l : List ByteArray} {k : Nat} (hk : ∀ F, FsIs l F → F.ns.length = k) : (ofFsOk l = (shOk (readF l k) && decide (fsBl (readF l k) = l))) ∧ (ofFsOk l = true → ofFs l = readF l k) ∧ (ofFsOk l = false → ofFs l = zeroF) := by
  by_cases h : ∃ F, FsIs l F
  · obtain ⟨F, hF⟩ := h
    have h1 := (told_iff hk).1 ⟨F, hF⟩
    have h2 := ofFs_yes hF
    refine ⟨by rw [h2.2, shOk_yes h1.1, decide_eq_true h1.2]; rfl, fun _ => by rw [h2.1, ← hk F hF, hF.read], fun h3 => by rw [h2.2] at h3; cases h3⟩
  · have h2 := ofFs_no (fun F hF => h ⟨F, hF⟩)
    refine ⟨?_, (fun h3 => absurd (h2.2.symm.trans h3) (by decide)), fun _ => h2.1⟩
    rw [h2.2]
    symm
    rw [Bool.and_eq_false_iff]
    by_cases hs : ShapeP (readF l k)
    · right; exact decide_eq_false fun he => h ((told_iff hk).2 ⟨hs, he⟩)
    · left; exact shOk_no hs
end Go.Proofs.YtaabcfgjmankgaaDoor

/-
  Own text, plain: what is read of some blocks, one block more at a time; the number that the first block tells.
-/
namespace Go.Proofs.YtaabcfgjmankgaaDoor
open Go.RowKit

/-- What the first text tells as the number of nodes; none where it tells none. -/
def HeadN (l : List ByteArray) (k : Nat) : Prop := ∀ s, l[0]? = some s → (∃ nx, Good (bytesOf s) 4 k nx) ∨ ((∀ n nx, ¬ Good (bytesOf s) 4 n nx) ∧ k = 0)
theorem HeadN.told {l : List ByteArray} {k : Nat} (h : HeadN l k) : ∀ F, FsIs l F → F.ns.length = k := by
  intro F hF
  have hg : Good (bytesOf (baOf (fsHead F))) 4 F.ns.length (4 + (putNum (F.ns.length : Int)).length) := by
    obtain ⟨h1, h2, h3, h4⟩ := hF.1.1
    have e : bytesOf (baOf (fsHead F)) = [66, 65, 83, 78] ++ putNum (F.ns.length : Int) ++ [(F.ds.length : Int)] := by
      obtain ⟨s, hs, e⟩ := hF.head
      rw [hF.parts] at hs
      injection hs with hs
      rw [hs, e]
      unfold putNum
      rw [if_pos (by omega), vlq_small _ _ (by omega)]
      simp
    rw [e]
    exact good_midP [66, 65, 83, 78] _ F.ns.length (by omega)
  rcases h (baOf (fsHead F)) (by rw [hF.parts]; rfl) with ⟨nx, h1⟩ | ⟨h1, _⟩
  · exact (hg.unique h1).1
  · exact absurd hg (h1 _ _)
theorem readF_nil (k : Nat) {l : List ByteArray} (h : l.length ≤ 2) : readF l k = ⟨[], []⟩ := by
  unfold readF
  rw [List.drop_eq_nil_of_le h, List.drop_eq_nil_of_le (by omega)]
  simp
theorem readF_all (l : List ByteArray) (k : Nat) : readF (l.take l.length) k = readF l k := by rw [List.take_length]
theorem readF_node {l : List ByteArray} {k i : Nat} (h : i < l.length) (h1 : 2 ≤ i) (h2 : i < 2 + k) : readF (l.take (i + 1)) k = ⟨(readF (l.take i) k).ns ++ [ofN l[i]], (readF (l.take i) k).ds⟩ := by
  unfold readF
  have d1 : (l.take (i + 1)).drop (2 + k) = [] := List.drop_eq_nil_of_le (by simp; omega)
  have d2 : (l.take i).drop (2 + k) = [] := List.drop_eq_nil_of_le (by simp; omega)
  rw [d1, d2]
  rw [List.take_of_length_le (l := (l.take (i + 1)).drop 2) (by simp; omega), List.take_of_length_le (l := (l.take i).drop 2) (by simp; omega)]
  rw [List.take_succ_eq_append_getElem h, List.drop_append_of_le_length (by simp; omega), List.map_append]
  rfl
theorem readF_text {l : List ByteArray} {k i : Nat} (h : i < l.length) (h2 : 2 + k ≤ i) : readF (l.take (i + 1)) k = ⟨(readF (l.take i) k).ns, (readF (l.take i) k).ds ++ [l[i]]⟩ := by
  unfold readF
  rw [List.take_succ_eq_append_getElem h, List.drop_append_of_le_length (by simp; omega), List.drop_append_of_le_length (by simp; omega), List.take_append_of_le_length (by simp; omega)]
theorem smF_read {l : List ByteArray} (k : Nat) (h1 : l.length ≤ 1048576) (h2 : ∀ s ∈ l, s.size ≤ 1048576) : SmF (readF l k) := by
  refine ⟨?_, ?_, ?_, ?_⟩
  · show (((l.drop 2).take k).map ofN).length ≤ _
    simp; omega
  · intro n hn
    obtain ⟨s, _, rfl⟩ := List.mem_map.1 hn
    have := ofN_len s
    omega
  · show (l.drop (2 + k)).length ≤ _
    simp; omega
  · intro s hs
    exact h2 s (List.mem_of_mem_drop hs)
end Go.Proofs.YtaabcfgjmankgaaDoor

/-
  Own text, plain: which node is read from a text by its numbers alone, and which node the text tells.
-/
namespace Go.Proofs.YtaabcfgjmankgaaDoor
open Go.RowKit

/-- By its numbers alone the text begins with this node. -/
def ReadP (b : List Int) (n : NodeD) : Prop :=
  ∃ at1 : Nat, Good b ((0 : Nat) : Int) n.k.toNat at1 ∧ 0 ≤ n.k ∧ (n.k = 0 → n = zeroN) ∧ (n.k ≠ 0 → (n.b.length : Int) = blksFor n.s ∧ ∃ p, AtsFrom b at1 (numsN n) p)
theorem AtsFrom.pre {b : List Int} : ∀ {xs ys : List Int} {a p q : Nat}, AtsFrom b a xs p → AtsFrom b a ys q → xs.length ≤ ys.length → xs = ys.take xs.length ∧ (xs.length < ys.length → ∃ m x, Good b (p : Int) m x)
  | [], ys, a, p, q, h, h', _ => by
    cases h
    refine ⟨by simp, fun hl => ?_⟩
    cases ys with
    | nil => simp at hl
    | cons y ys => obtain ⟨n, nx, hg, _⟩ := h'; exact ⟨n, nx, hg⟩
  | x :: xs, [], a, p, q, _, _, hl => by simp at hl
  | x :: xs, y :: ys, a, p, q, ⟨n, nx, hg, hx, hr⟩, ⟨n', nx', hg', hy, hr'⟩, hl => by
    obtain ⟨rfl, rfl⟩ := hg.unique hg'
    obtain ⟨h1, h2⟩ := hr.pre hr' (by simpa using hl)
    refine ⟨?_, fun hlt => h2 (by simpa using hlt)⟩
    rw [List.length_cons, List.take_succ_cons, ← h1, hx, hy]
theorem read_unique {b : List Int} {m n : NodeD} (h : ReadP b m) (h' : ReadP b n) : m = n := by
  obtain ⟨a1, g1, p1, z1, r1⟩ := h
  obtain ⟨a2, g2, p2, z2, r2⟩ := h'
  obtain ⟨hk, rfl⟩ := g1.unique g2
  have hkk : m.k = n.k := by omega
  by_cases h0 : m.k = 0
  · rw [z1 h0, z2 (by omega)]
  · obtain ⟨l1, q1, t1⟩ := r1 h0
    obtain ⟨l2, q2, t2⟩ := r2 (by omega)
    have hs : m.g = n.g ∧ m.t = n.t ∧ m.s = n.s := by
      rcases Nat.le_total (numsN m).length (numsN n).length with hl | hl
      · have := (t1.pre t2 hl).1
        unfold numsN at this
        simp at this
        exact ⟨this.1, this.2.1, this.2.2.1⟩
      · have := (t2.pre t1 hl).1
        unfold numsN at this
        simp at this
        exact ⟨this.1.symm, this.2.1.symm, this.2.2.1.symm⟩
    have hl : m.b.length = n.b.length := by rw [hs.2.2] at l1; omega
    have := (t1.unique t2 (by simp [numsN, hl])).1
    unfold numsN at this
    simp only [List.cons.injEq] at this
    exact NodeD.ext' hkk this.1 this.2.1 this.2.2.1 this.2.2.2
theorem of_read {b : List Int} {n : NodeD} (h : OfP b n) : ReadP b n := by
  have hk := h.1.kind
  obtain ⟨h1, h2, h3, h4⟩ := of_kind h
  refine ⟨1, ?_, hk.1, hk.2.2, fun h0 => ⟨?_, _, h4 h0⟩⟩
  · refine ⟨0, 0, rfl, ⟨by omega, by omega, by rw [Nat.add_zero, h2]; omega, fun j hj => by omega⟩, .inl rfl, ?_, by omega, rfl⟩
    simp only [valTo, Nat.add_zero, h2, Nat.pow_zero, Nat.mul_one, Nat.zero_add]
    omega
  · rcases h.1 with rfl | ⟨h5, _⟩
    · exact absurd rfl h0
    · exact h5.2.2.2.2.2.2.2.2
theorem no_read {b : List Int} (h : ∀ n, ¬ ReadP b n) : ∀ n, ¬ OfP b n := fun n hn => h n (of_read hn)
/-- What is read is what the text tells, or the text tells nothing. -/
theorem read_of {s : ByteArray} {n : NodeD} (h : ReadP (bytesOf s) n) : (ndText n = s → ofN s = n ∧ ofOk s = true) ∧ (ndText n ≠ s → ofN s = zeroN ∧ ofOk s = false) := by
  constructor
  · intro ht
    refine of_yes ?_
    unfold ndText at ht
    by_cases hn : ndOk n = true
    · rw [if_pos hn] at ht
      have hp := ndOk_iff.1 hn
      exact ⟨hp, by rw [← ht, bytesOf_S (ndB_u8 hp)]⟩
    · rw [if_neg hn] at ht
      exfalso
      obtain ⟨a1, g1, _⟩ := h
      rw [← ht] at g1
      obtain ⟨p, k, hp, ⟨_, h2, _⟩, _⟩ := g1
      simp [bytesOf] at h2
  · intro ht
    refine of_no fun m hm => ht ?_
    have := read_unique h (of_read hm)
    rw [this]
    obtain ⟨hp, hb⟩ := hm
    unfold ndText
    rw [if_pos (ndOk_yes hp), ← hb, baOf_bytes]
/-- A number lacks: nothing is read. -/
theorem lack0 {b : List Int} (h : ∀ m x, ¬ Good b ((0 : Nat) : Int) m x) : ∀ n, ¬ ReadP b n := fun _ ⟨_, g, _⟩ => h _ _ g
theorem lackN {b xs : List Int} {k at1 p : Nat} (hk : k ≠ 0) (hg : Good b ((0 : Nat) : Int) k at1) (hx : AtsFrom b at1 xs p) (hl : xs.length < 3 ∨ ∃ g t s ys, xs = g :: t :: s :: ys ∧ (ys.length : Int) < blksFor s) (h : ∀ m x, ¬ Good b (p : Int) m x) : ∀ n, ¬ ReadP b n := by
  rintro n ⟨a, g1, p1, z1, r1⟩
  obtain ⟨hkk, rfl⟩ := hg.unique g1
  have hn0 : n.k ≠ 0 := by clear hl; omega
  obtain ⟨l1, q1, t1⟩ := r1 hn0
  have hnl : (numsN n).length = n.b.length + 3 := by simp [numsN]
  have hlt : xs.length < (numsN n).length := by
    rcases hl with hl | ⟨g, t, s, ys, rfl, hy⟩
    · omega
    · rcases Nat.le_total (numsN n).length (g :: t :: s :: ys).length with hl | hl
      · have := (t1.pre hx hl).1
        unfold numsN at this
        simp at this
        rw [this.2.2.1] at l1
        simp only [List.length_cons] at hl ⊢
        omega
      · have := (hx.pre t1 hl).1
        unfold numsN at this
        simp at this
        rw [← this.2.2.1] at l1
        simp only [List.length_cons] at hl ⊢
        omega
  obtain ⟨m, x, hm⟩ := (hx.pre t1 (Nat.le_of_lt hlt)).2 hlt
  exact h m x hm
end Go.Proofs.YtaabcfgjmankgaaDoor
