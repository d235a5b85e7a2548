/-
  Own text, plain: what a node holds: read, written, made, dropped.
-/
import Derived.Test.YtioecnfgliponaaFsMath
namespace Go.Proofs.Ytioecnfgliponaa
open Go.RowKit

def ndAt (F : FsD) (i : Int) : NodeD := (F.ns[i.toNat]?).getD zeroN
theorem ndAt_get {F : FsD} {i : Int} (h : i.toNat < F.ns.length) : ndAt F i = F.ns[i.toNat] := by unfold ndAt; rw [List.getElem?_eq_getElem h]; rfl
def UsP (F : FsD) (i : Int) : Prop := ShapeP F ∧ 0 ≤ i ∧ i.toNat < F.ns.length ∧ (ndAt F i).k ≠ 0
noncomputable def usB (F : FsD) (i : Int) : Bool := @decide (UsP F i) (Classical.propDecidable _)
theorem usB_yes {F : FsD} {i : Int} (h : UsP F i) : usB F i = true := by unfold usB; exact @decide_eq_true _ (Classical.propDecidable _) h
theorem usB_no {F : FsD} {i : Int} (h : ¬ UsP F i) : usB F i = false := by unfold usB; exact @decide_eq_false _ (Classical.propDecidable _) h
def dsAt (ds : List ByteArray) (x : Int) : ByteArray := (ds[x.toNat]?).getD ⟨#[]⟩
theorem dsAt_get {ds : List ByteArray} {x : Int} (h : x.toNat < ds.length) : dsAt ds x = ds[x.toNat] := by unfold dsAt; rw [List.getElem?_eq_getElem h]; rfl
theorem UsP.mem {F : FsD} {i : Int} (h : UsP F i) : ndAt F i ∈ F.ns := by rw [ndAt_get h.2.2.1]; exact List.getElem_mem _
theorem UsP.nod {F : FsD} {i : Int} (h : UsP F i) : NodP (ndAt F i) := h.1.2.2.1 _ h.mem
theorem UsP.blk {F : FsD} {i : Int} (h : UsP F i) : ∀ x ∈ (ndAt F i).b, 0 ≤ x ∧ x.toNat < F.ds.length ∧ (dsAt F.ds x).size ≠ 0 := by
  intro x hx
  obtain ⟨h0, d, hd, hs, _⟩ := hold_mem h.nod (h.1.2.2.2.2.1 _ h.mem) hx
  refine ⟨h0, (List.getElem?_eq_some_iff.1 hd).1, ?_⟩
  unfold dsAt; rw [hd]; exact hs

/-! ### Read -/
def catD (ds : List ByteArray) (b : List Int) : ByteArray := b.foldl (fun s x => s ++ dsAt ds x) ⟨#[]⟩
theorem catD_nil (ds : List ByteArray) : catD ds [] = ⟨#[]⟩ := rfl
theorem catD_take (ds : List ByteArray) {b : List Int} {k : Nat} (h : k < b.length) : catD ds (b.take (k + 1)) = catD ds (b.take k) ++ dsAt ds b[k] := by
  unfold catD
  rw [List.take_succ_eq_append_getElem h, List.foldl_append]
  rfl
theorem catD_size {ds : List ByteArray} {b : List Int} {m : Nat} (h : ∀ x ∈ b, (dsAt ds x).size ≤ m) : (catD ds b).size ≤ b.length * m := by
  have h2 : ∀ (l : List Int) (s : ByteArray), (∀ x ∈ l, (dsAt ds x).size ≤ m) → (l.foldl (fun s x => s ++ dsAt ds x) s).size ≤ s.size + l.length * m := by
    intro l
    induction l with
    | nil => intro s _; simp
    | cons y l ih =>
      intro s hh
      have h3 := ih (s ++ dsAt ds y) fun x hx => hh x (by simp [hx])
      have h4 := hh y (by simp)
      rw [List.foldl_cons]
      have h5 : (s ++ dsAt ds y).size = s.size + (dsAt ds y).size := ByteArray.size_append
      rw [List.length_cons, Nat.add_mul]
      omega
  have := h2 b ⟨#[]⟩ h
  have h0 : (⟨#[]⟩ : ByteArray).size = 0 := rfl
  unfold catD
  omega
noncomputable def ndRead (F : FsD) (i : Int) : ByteArray := if usB F i = true then catD F.ds (ndAt F i).b else ⟨#[]⟩

/-! ### Which blocks are free -/
def freeI (ds : List ByteArray) : Nat → List Int
  | 0 => []
  | k + 1 => freeI ds k ++ (if (dsAt ds (k : Int)).size = 0 then [(k : Int)] else [])
theorem freeI_mem (ds : List ByteArray) (m : Nat) (x : Int) : x ∈ freeI ds m ↔ ∃ k : Nat, x = k ∧ k < m ∧ (dsAt ds (k : Int)).size = 0 := by
  induction m with
  | zero => simp [freeI]
  | succ m ih =>
    unfold freeI
    rw [List.mem_append, ih]
    constructor
    · rintro (⟨k, h1, h2, h3⟩ | h)
      · exact ⟨k, h1, by omega, h3⟩
      · split at h
        · rename_i h5
          simp at h
          exact ⟨m, h, by omega, h5⟩
        · simp at h
    · rintro ⟨k, h1, h2, h3⟩
      by_cases e : k = m
      · right
        subst e
        rw [if_pos h3]
        simp [h1]
      · left; exact ⟨k, h1, by omega, h3⟩
theorem freeI_lt {ds : List ByteArray} {m : Nat} {x : Int} (h : x ∈ freeI ds m) : 0 ≤ x ∧ x.toNat < m ∧ (dsAt ds x).size = 0 := by
  obtain ⟨k, rfl, h2, h3⟩ := (freeI_mem ds m x).1 h
  exact ⟨by omega, by omega, h3⟩
theorem freeI_nodup (ds : List ByteArray) (m : Nat) : (freeI ds m).Nodup := by
  induction m with
  | zero => simp [freeI]
  | succ m ih =>
    unfold freeI
    rw [List.nodup_append]
    refine ⟨ih, by split <;> simp, fun a ha b hb => ?_⟩
    have h1 := freeI_lt ha
    split at hb
    · simp at hb; omega
    · simp at hb
theorem freeI_len (ds : List ByteArray) (m : Nat) : (freeI ds m).length ≤ m := by
  induction m with
  | zero => simp [freeI]
  | succ m ih => unfold freeI; rw [List.length_append]; split <;> simp <;> omega
theorem freeI_pre (ds : List ByteArray) {m n : Nat} (h : m ≤ n) : ∃ r, freeI ds n = freeI ds m ++ r := by
  induction n with
  | zero => obtain rfl : m = 0 := by omega
            exact ⟨[], by simp⟩
  | succ n ih =>
    by_cases e : m = n + 1
    · subst e; exact ⟨[], by simp⟩
    · obtain ⟨r, hr⟩ := ih (by omega)
      refine ⟨r ++ (if (dsAt ds (n : Int)).size = 0 then [(n : Int)] else []), ?_⟩
      show freeI ds n ++ _ = _
      rw [hr, List.append_assoc]
theorem dsAt_set {ds : List ByteArray} {x : Nat} (p : ByteArray) (hx : x < ds.length) (k : Nat) : dsAt (ds.set x p) (k : Int) = if k = x then p else dsAt ds (k : Int) := by
  unfold dsAt
  rw [Int.toNat_natCast, List.getElem?_set]
  by_cases e : k = x
  · subst e; simp [hx]
  · rw [if_neg (by omega), if_neg e]
theorem freeI_set {ds : List ByteArray} {x : Nat} {p : ByteArray} (hx : x < ds.length) (hp : p.size ≠ 0) (m : Nat) : freeI (ds.set x p) m = (freeI ds m).filter (fun y => y ≠ (x : Int)) := by
  induction m with
  | zero => simp [freeI]
  | succ m ih =>
    show freeI (ds.set x p) m ++ _ = (freeI ds m ++ _).filter _
    rw [ih, List.filter_append, dsAt_set p hx]
    congr 1
    by_cases e : m = x
    · subst e
      rw [if_pos rfl, if_neg hp]
      split <;> simp
    · rw [if_neg e]
      have : ¬ (m : Int) = (x : Int) := by omega
      split <;> simp [this]
/-- The lowest one that is empty, or -1. -/
def firstE (ds : List ByteArray) : Int := ((freeI ds ds.length).head?).getD (-1)
theorem firstE_none {ds : List ByteArray} (h : ∀ k (hk : k < ds.length), (ds[k]).size ≠ 0) : firstE ds = -1 := by
  have : freeI ds ds.length = [] := by
    rw [List.eq_nil_iff_forall_not_mem]
    intro x hx
    obtain ⟨k, rfl, h2, h3⟩ := (freeI_mem _ _ _).1 hx
    refine h k h2 ?_
    rw [dsAt_get (by omega)] at h3
    simpa using h3
  unfold firstE; rw [this]; rfl
theorem freeI_none {ds : List ByteArray} {k : Nat} (h : ∀ j (hj : j < ds.length), j < k → (ds[j]).size ≠ 0) (hk : k ≤ ds.length) : freeI ds k = [] := by
  rw [List.eq_nil_iff_forall_not_mem]
  intro x hx
  obtain ⟨j, rfl, h2, h3⟩ := (freeI_mem _ _ _).1 hx
  refine h j (by omega) h2 ?_
  rw [dsAt_get (by omega)] at h3
  simpa using h3
theorem firstE_at {ds : List ByteArray} {k : Nat} (hk : k < ds.length) (h0 : (ds[k]).size = 0) (h : ∀ j (hj : j < ds.length), j < k → (ds[j]).size ≠ 0) : firstE ds = k := by
  obtain ⟨r, hr⟩ := freeI_pre ds (m := k + 1) (n := ds.length) (by omega)
  have h1 : freeI ds (k + 1) = [(k : Int)] := by
    show freeI ds k ++ _ = _
    rw [freeI_none h (by omega), if_pos (by rw [dsAt_get (by omega)]; simpa using h0)]
    rfl
  unfold firstE
  rw [hr, h1]; rfl

/-! ### Written -/
def needN (d : ByteArray) : Nat := (d.size + 15) / 16
def piece (d : ByteArray) (j : Nat) : ByteArray := d.extract (16 * j) (min (16 * j + 16) d.size)
theorem piece_size {d : ByteArray} {j : Nat} (h : j < needN d) : 1 ≤ (piece d j).size ∧ (piece d j).size ≤ 16 := by
  unfold needN at h
  unfold piece
  rw [ByteArray.size_extract]
  omega
theorem piece_le (d : ByteArray) (j : Nat) : (piece d j).size ≤ 16 := by
  unfold piece
  rw [ByteArray.size_extract]
  omega
def putN (bl : List Int) (d : ByteArray) (ds : List ByteArray) : Nat → List ByteArray
  | 0 => ds
  | k + 1 => (putN bl d ds k).set ((bl[k]?).getD 0).toNat (piece d k)
def clrN (bl : List Int) (ds : List ByteArray) : Nat → List ByteArray
  | 0 => ds
  | k + 1 => (clrN bl ds k).set ((bl[k]?).getD 0).toNat ⟨#[]⟩
theorem putN_len (bl : List Int) (d : ByteArray) (ds : List ByteArray) (k : Nat) : (putN bl d ds k).length = ds.length := by
  induction k with
  | zero => rfl
  | succ k ih => unfold putN; rw [List.length_set, ih]
theorem clrN_len (bl : List Int) (ds : List ByteArray) (k : Nat) : (clrN bl ds k).length = ds.length := by
  induction k with
  | zero => rfl
  | succ k ih => unfold clrN; rw [List.length_set, ih]
theorem putN_small {bl : List Int} {d : ByteArray} {ds : List ByteArray} {m : Nat} (hm : 16 ≤ m) (h : ∀ s ∈ ds, s.size ≤ m) (k : Nat) : ∀ s ∈ putN bl d ds k, s.size ≤ m := by
  induction k with
  | zero => exact h
  | succ k ih =>
    intro s hs
    rcases List.mem_or_eq_of_mem_set hs with hs | rfl
    · exact ih s hs
    · exact Nat.le_trans (piece_le d k) hm
theorem clrN_small {bl : List Int} {ds : List ByteArray} {m : Nat} (h : ∀ s ∈ ds, s.size ≤ m) (k : Nat) : ∀ s ∈ clrN bl ds k, s.size ≤ m := by
  induction k with
  | zero => exact h
  | succ k ih =>
    intro s hs
    rcases List.mem_or_eq_of_mem_set hs with hs | rfl
    · exact ih s hs
    · exact Nat.zero_le _
theorem putN_same {bl bm : List Int} {d : ByteArray} {ds : List ByteArray} : ∀ {k : Nat}, (∀ j, j < k → bl[j]? = bm[j]?) → putN bl d ds k = putN bm d ds k
  | 0, _ => rfl
  | k + 1, h => by
    unfold putN
    rw [putN_same (k := k) fun j hj => h j (by omega), h k (by omega)]
theorem clr_set {L : List Int} {ds : List ByteArray} {x : Nat} {p : ByteArray} : ∀ {k : Nat}, (∀ j, j < k → ((L[j]?).getD 0).toNat ≠ x) → clrN L (ds.set x p) k = (clrN L ds k).set x p
  | 0, _ => rfl
  | k + 1, h => by
    show (clrN L (ds.set x p) k).set _ _ = ((clrN L ds k).set _ _).set _ _
    rw [clr_set (k := k) fun j hj => h j (by omega), List.set_comm _ _ (by have := h k (by omega); omega)]
theorem put_clr {bl L : List Int} {d : ByteArray} {ds : List ByteArray} {m : Nat} : ∀ {k : Nat}, (∀ i j, i < k → j < m → ((L[j]?).getD 0).toNat ≠ ((bl[i]?).getD 0).toNat) → putN bl d (clrN L ds m) k = clrN L (putN bl d ds k) m
  | 0, _ => rfl
  | k + 1, h => by
    show (putN bl d (clrN L ds m) k).set _ _ = clrN L ((putN bl d ds k).set _ _) m
    rw [put_clr (k := k) fun i j hi hj => h i j (by omega) hj, clr_set fun j hj => h k j (by omega) hj]
/-- The blocks that it has and those that it can have besides. -/
def allW (F : FsD) (i : Int) : List Int := (ndAt F i).b ++ freeI F.ds F.ds.length
def WrP (F : FsD) (i : Int) (d : ByteArray) : Prop := UsP F i ∧ d.size ≤ 80 ∧ needN d ≤ (allW F i).length
noncomputable def wrOk (F : FsD) (i : Int) (d : ByteArray) : Bool := @decide (WrP F i d) (Classical.propDecidable _)
theorem wrOk_yes {F : FsD} {i : Int} {d : ByteArray} (h : WrP F i d) : wrOk F i d = true := by unfold wrOk; exact @decide_eq_true _ (Classical.propDecidable _) h
theorem wrOk_no {F : FsD} {i : Int} {d : ByteArray} (h : ¬ WrP F i d) : wrOk F i d = false := by unfold wrOk; exact @decide_eq_false _ (Classical.propDecidable _) h
/-- What is cleared: the blocks that it needs no more. -/
def restB (F : FsD) (i : Int) (d : ByteArray) : List Int := (ndAt F i).b.drop (needN d)
def heldDs (F : FsD) (i : Int) (d : ByteArray) : List ByteArray := clrN (restB F i d) (putN (allW F i) d F.ds (needN d)) (restB F i d).length
def wrN (F : FsD) (i : Int) (d : ByteArray) : NodeD := ⟨(ndAt F i).k, (ndAt F i).g, (ndAt F i).t, (d.size : Int), (allW F i).take (needN d)⟩
def wrF (F : FsD) (i : Int) (d : ByteArray) : FsD := ⟨F.ns.set i.toNat (wrN F i d), heldDs F i d⟩
noncomputable def wrD (F : FsD) (i : Int) (d : ByteArray) : FsD := if wrOk F i d = true then wrF F i d else F
theorem allW_at {F : FsD} {i : Int} (h : UsP F i) {x : Int} (hx : x ∈ allW F i) : 0 ≤ x ∧ x.toNat < F.ds.length := by
  rcases List.mem_append.1 hx with hx | hx
  · exact ⟨(h.blk x hx).1, (h.blk x hx).2.1⟩
  · exact ⟨(freeI_lt hx).1, (freeI_lt hx).2.1⟩
theorem allW_nodup {F : FsD} {i : Int} (h : UsP F i) : (allW F i).Nodup := by
  unfold allW
  rw [List.nodup_append]
  refine ⟨h.nod.nodup, freeI_nodup _ _, fun a ha b hb e => ?_⟩
  subst e
  exact (h.blk a ha).2.2 (freeI_lt hb).2.2
theorem drop_filter {l : List Int} (hn : l.Nodup) {m : Nat} (hm : m < l.length) (h0 : 0 ≤ l[m]) : (l.drop m).filter (fun y => decide (y ≠ ((l[m].toNat : Nat) : Int))) = l.drop (m + 1) := by
  have hnd2 : (l.drop m).Nodup := hn.sublist (List.drop_sublist _ _)
  rw [List.drop_eq_getElem_cons hm, List.nodup_cons] at hnd2
  rw [Int.toNat_of_nonneg h0, List.drop_eq_getElem_cons hm, List.filter_cons_of_neg (by simp), List.filter_eq_self]
  intro a ha
  rw [decide_eq_true_eq]
  intro e5
  exact hnd2.1 (e5 ▸ ha)
/-- What is free while it is filled. -/
theorem free_put {F : FsD} {i : Int} {d : ByteArray} (h : UsP F i) : ∀ {j : Nat}, j ≤ needN d → j ≤ (allW F i).length → freeI (putN (allW F i) d F.ds j) F.ds.length = (freeI F.ds F.ds.length).drop (j - (ndAt F i).b.length)
  | 0, _, _ => by simp [putN]
  | j + 1, h1, h2 => by
    have ih := free_put h (d := d) (j := j) (by omega) (by omega)
    have hj : j < (allW F i).length := by omega
    have hx := allW_at h (List.getElem_mem hj)
    unfold putN
    rw [List.getElem?_eq_getElem hj]
    simp only [Option.getD_some]
    rw [freeI_set (by rw [putN_len]; exact hx.2) (by have := piece_size (d := d) (j := j) (by omega); omega), ih]
    have hnd := freeI_nodup F.ds F.ds.length
    by_cases hlt : j < (ndAt F i).b.length
    · have e : (allW F i)[j] = (ndAt F i).b[j] := List.getElem_append_left hlt
      rw [show j - (ndAt F i).b.length = 0 by omega, show j + 1 - (ndAt F i).b.length = 0 by omega, List.drop_zero, e, List.filter_eq_self]
      intro a ha
      have hb := h.blk _ (List.getElem_mem hlt)
      have hf := freeI_lt ha
      simp only [ne_eq, decide_not, Bool.not_eq_true', decide_eq_false_iff_not]
      intro e2
      rw [Int.toNat_of_nonneg hb.1] at e2
      exact hb.2.2 (by rw [← e2]; exact hf.2.2)
    · have hl : (allW F i).length = (ndAt F i).b.length + (freeI F.ds F.ds.length).length := List.length_append
      have e : (allW F i)[j] = (freeI F.ds F.ds.length)[j - (ndAt F i).b.length]'(by omega) := List.getElem_append_right (by omega)
      rw [show j + 1 - (ndAt F i).b.length = (j - (ndAt F i).b.length) + 1 by omega, e]
      exact drop_filter hnd (by omega) (freeI_lt (List.getElem_mem _)).1
theorem first_put {F : FsD} {i : Int} {d : ByteArray} (h : UsP F i) {j : Nat} (h1 : j ≤ needN d) (h2 : j ≤ (allW F i).length) (h3 : (ndAt F i).b.length ≤ j) : firstE (putN (allW F i) d F.ds j) = ((allW F i)[j]?).getD (-1) := by
  unfold firstE
  rw [putN_len, free_put h h1 h2]
  unfold allW
  rw [List.getElem?_append_right h3, List.head?_drop]
theorem rest_apart {F : FsD} {i : Int} {d : ByteArray} (h : UsP F i) {k m : Nat} (hk : k < needN d) (hk2 : k < (allW F i).length) (hm : m < (restB F i d).length) : (((restB F i d)[m]?).getD 0).toNat ≠ (((allW F i)[k]?).getD 0).toNat := by
  have hm2 : needN d + m < (ndAt F i).b.length := by unfold restB at hm; simp at hm; omega
  have e1 : (restB F i d)[m]? = (allW F i)[needN d + m]? := by
    unfold restB allW
    rw [List.getElem?_drop, List.getElem?_append_left hm2]
  have hl : needN d + m < (allW F i).length := by unfold allW; rw [List.length_append]; omega
  rw [e1, List.getElem?_eq_getElem hl, List.getElem?_eq_getElem hk2]
  simp only [Option.getD_some]
  intro e
  have g1 := allW_at h (List.getElem_mem hl)
  have g2 := allW_at h (List.getElem_mem hk2)
  have e2 : (allW F i)[needN d + m] = (allW F i)[k] := by omega
  have := (List.nodup_iff_pairwise_ne.1 (allW_nodup h))
  rw [List.pairwise_iff_getElem] at this
  exact this k (needN d + m) hk2 hl (by omega) e2.symm
/-- The other program clears first and writes behind it. -/
theorem held_other {F : FsD} {i : Int} {d : ByteArray} (h : WrP F i d) : putN ((allW F i).take (needN d)) d (clrN (restB F i d) F.ds (restB F i d).length) (needN d) = heldDs F i d := by
  rw [putN_same (bm := allW F i) fun j hj => by rw [List.getElem?_take, if_pos hj]]
  exact put_clr fun k j hk hj => rest_apart h.1 hk (by have := h.2.2; omega) hj
theorem rest_at {F : FsD} {i : Int} {d : ByteArray} (h : UsP F i) {x : Int} (hx : x ∈ restB F i d) : 0 ≤ x ∧ x.toNat < F.ds.length := by
  have := h.blk x (List.mem_of_mem_drop hx)
  exact ⟨this.1, this.2.1⟩

/-! ### Made and dropped -/
def MdP (F : FsD) (kind : Int) : Prop := ShapeP F ∧ (1 ≤ kind ∧ kind ≤ 3) ∧ F.ns.findIdx (·.k == 0) < F.ns.length
noncomputable def mdOk (F : FsD) (kind : Int) : Bool := @decide (MdP F kind) (Classical.propDecidable _)
theorem mdOk_yes {F : FsD} {kind : Int} (h : MdP F kind) : mdOk F kind = true := by unfold mdOk; exact @decide_eq_true _ (Classical.propDecidable _) h
theorem mdOk_no {F : FsD} {kind : Int} (h : ¬ MdP F kind) : mdOk F kind = false := by unfold mdOk; exact @decide_eq_false _ (Classical.propDecidable _) h
noncomputable def mdD (F : FsD) (kind : Int) : FsD := if mdOk F kind = true then ⟨F.ns.set (F.ns.findIdx (·.k == 0)) ⟨kind, 0, 0, 0, []⟩, F.ds⟩ else F
noncomputable def mdI (F : FsD) (kind : Int) : Int := if mdOk F kind = true then (F.ns.findIdx (·.k == 0) : Nat) else -1
def DpP (F : FsD) (i : Int) : Prop := UsP F i ∧ i ≠ 0
noncomputable def dpOk (F : FsD) (i : Int) : Bool := @decide (DpP F i) (Classical.propDecidable _)
theorem dpOk_yes {F : FsD} {i : Int} (h : DpP F i) : dpOk F i = true := by unfold dpOk; exact @decide_eq_true _ (Classical.propDecidable _) h
theorem dpOk_no {F : FsD} {i : Int} (h : ¬ DpP F i) : dpOk F i = false := by unfold dpOk; exact @decide_eq_false _ (Classical.propDecidable _) h
noncomputable def dpD (F : FsD) (i : Int) : FsD := if dpOk F i = true then ⟨F.ns.set i.toNat zeroN, clrN (ndAt F i).b F.ds (ndAt F i).b.length⟩ else F
theorem held_none (F : FsD) (i : Int) {d : ByteArray} (h : d.size = 0) : needN d = 0 ∧ restB F i d = (ndAt F i).b ∧ heldDs F i d = clrN (ndAt F i).b F.ds (ndAt F i).b.length := by
  have h0 : needN d = 0 := by unfold needN; omega
  have h1 : restB F i d = (ndAt F i).b := by unfold restB; rw [h0]; rfl
  refine ⟨h0, h1, ?_⟩
  unfold heldDs
  rw [h0, h1]; rfl
end Go.Proofs.Ytioecnfgliponaa
