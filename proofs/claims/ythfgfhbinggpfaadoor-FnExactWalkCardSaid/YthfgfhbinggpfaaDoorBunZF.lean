/-
  Own texts, several together.
-/
import Derived.Test.YthfgfhbinggpfaaDoorBunZB
import Derived.OpenShut
import Derived.ShutString
import Derived.ChangeOld
import Derived.Below
import Derived.SliceStrings
import Derived.ChangeSame
import Derived.Lib.SmallJoins
import Derived.Test.YthfgfhbinggpfaaDoorBunZA
import Derived.Laws.IdiomStrings
import Derived.Laws.BytesArg
import Derived.Test.YthfgfhbinggpfaaDoorRows
import Derived.WalkKit
import Derived.Test.YthfgfhbinggpfaaDoorBunZD
import Derived.Laws.RangeAny
/-
  Own text: the laws' helpers over rows of entries (a name and a node): copies, their size, alike, marks.
-/
namespace Go.Proofs.YthfgfhbinggpfaaDoor
open Go.RowKit

/-- An entry: a name and a node. -/
abbrev EntD := ByteArray × Int
def encN (p : EntD) : List Value := [.string p.1, .int .i64 p.2]
def aggE (p : EntD) : Value := .agg #[.string p.1, .int .i64 p.2]
theorem encN_len (p : EntD) : (encN p).length = 2 := rfl

theorem Tryd.infoEnt : (Tryd.prog.info? 74).map (fun i => (i.zero, i.size, i.bytes)) = some (some (.agg #[.string ⟨#[]⟩, .int .i64 0]), 2, 24) := by kernel_rfl

theorem entName (l : List EntD) (i : Nat) (h : i < l.length) (s : ByteArray) : (l.flatMap encN).set (i * 2) (.string s) = (l.set i (s, l[i].2)).flatMap encN := by
  have := flat_set encN_len l i h 0 (s, l[i].2) (.string s) (by omega) rfl
  simpa using this
theorem entNode (l : List EntD) (i : Nat) (h : i < l.length) (n : Int) : (l.flatMap encN).set (i * 2 + 1) (.int .i64 n) = (l.set i (l[i].1, n)).flatMap encN :=
  flat_set encN_len l i h 1 (l[i].1, n) (.int .i64 n) (by omega) rfl
theorem entBoth (l : List EntD) (i : Nat) (h : i < l.length) (s : ByteArray) (n : Int) : ((l.flatMap encN).set (i * 2) (.string s)).set (i * 2 + 1) (.int .i64 n) = (l.set i (s, n)).flatMap encN := by
  rw [entName l i h, entNode _ i (by simpa using h)]
  simp
theorem entCells {l : List EntD} {i : Nat} (h : i < l.length) : (l.flatMap encN)[i * 2]? = some (.string l[i].1) ∧ (l.flatMap encN)[i * 2 + 1]? = some (.int .i64 l[i].2) := by
  have e0 := flat_get encN_len l i h 0 (by omega)
  have e1 := flat_get encN_len l i h 1 (by omega)
  exact ⟨by simpa [encN] using e0, by simpa [encN] using e1⟩

/-- How great entries are. -/
def szEn (l : List EntD) : Nat := (l.map fun p => 1 + p.1.size).sum
theorem szEn_take {l : List EntD} {k : Nat} (h : k < l.length) : szEn (l.take (k + 1)) = szEn (l.take k) + 1 + (l[k]).1.size := by
  unfold szEn
  rw [List.take_succ_eq_append_getElem h, List.map_append, List.sum_append]
  simp
  omega

/-- The marks of n entries, from k on. -/
def marksEn (k n : Nat) : List EntD := (List.range n).map fun i => (markS (k + 2 * i), ((k + 2 * i + 1 : Nat) : Int))
def markToEn (l : List EntD) (k i : Nat) : List EntD := marksEn k i ++ l.drop i
theorem marksEn_len (k n : Nat) : (marksEn k n).length = n := by simp [marksEn]
theorem markToEn_zero (l : List EntD) (k : Nat) : markToEn l k 0 = l := by simp [markToEn, marksEn]
theorem markToEn_all (l : List EntD) (k : Nat) : markToEn l k l.length = marksEn k l.length := by simp [markToEn]
theorem markToEn_len (l : List EntD) (k i : Nat) (h : i ≤ l.length) : (markToEn l k i).length = l.length := by simp [markToEn, marksEn_len]; omega
theorem markToEn_set (l : List EntD) (k i : Nat) (h : i < l.length) : (markToEn l k i).set i (markS (k + 2 * i), ((k + 2 * i + 1 : Nat) : Int)) = markToEn l k (i + 1) := by
  unfold markToEn
  rw [List.set_append_right _ _ (by rw [marksEn_len]; exact Nat.le_refl _), marksEn_len, Nat.sub_self]
  have e : marksEn k (i + 1) = marksEn k i ++ [(markS (k + 2 * i), ((k + 2 * i + 1 : Nat) : Int))] := by unfold marksEn; rw [List.range_succ, List.map_append]; rfl
  rw [e, List.append_assoc, List.drop_eq_getElem_cons h]; rfl
theorem marksEn_at (k n i : Nat) (h : i < n) : (marksEn k n)[i]'(by rw [marksEn_len]; exact h) = (markS (k + 2 * i), ((k + 2 * i + 1 : Nat) : Int)) := by simp [marksEn]

end Go.Proofs.YthfgfhbinggpfaaDoor

/-
  Own text: what the frame tells of a row of entries that came in; rows of entries as answers.
-/
namespace Go.Proofs.YthfgfhbinggpfaaDoor
open Go.ChangeShapes Go.WideShapes Go.ChangeAt Go.RowKit

def FitEn (l : List EntD) : Prop := l.length ≤ maxLen ∧ ∀ p ∈ l, p.1.size ≤ maxLen
theorem szEn_len (l : List EntD) : l.length ≤ szEn l := by
  induction l with
  | nil => simp [szEn]
  | cons x l ih => simp only [szEn, List.map_cons, List.sum_cons, List.length_cons] at ih ⊢; omega
theorem szEn_mem {l : List EntD} {n : EntD} (h : n ∈ l) : n.1.size ≤ szEn l := by
  induction l with
  | nil => cases h
  | cons x l ih =>
    simp only [szEn, List.map_cons, List.sum_cons] at ih ⊢
    rcases List.mem_cons.1 h with rfl | h
    · omega
    · have := ih h; omega
def RdEn (w : World) (v : Value) (l : List EntD) : Prop := ∃ a c, v = .slice a l.length c ∧ l.length ≤ c ∧ RdF encN 2 w a l
def OwnEn (w : World) (lo hi : Nat) (v : Value) (l : List EntD) : Prop := w.ownsRow lo 74 2 v l.length (l.flatMap encN) ∧ ∀ j, blk v j → j < hi
theorem OwnEn.rd {w : World} {lo hi : Nat} {v : Value} {l : List EntD} (h : OwnEn w lo hi v l) : RdEn w v l := by
  obtain ⟨a, c, rfl, hc, hr⟩ := own_rdF encN_len h.1 rfl
  exact ⟨a, c, rfl, hc, hr⟩
theorem OwnEn.below {w w' : World} {lo hi : Nat} {v : Value} {l : List EntD} (h : OwnEn w lo hi v l) (hb : Below w.heap.size w w') : OwnEn w' lo hi v l := ⟨ownsRow_below h.1 hb (Nat.le_refl _), h.2⟩
theorem OwnEn.only {S : Nat → Prop} {w w' : World} {lo hi : Nat} {v : Value} {l : List EntD} (h : OwnEn w lo hi v l) (ho : Only S w w') (hs : ∀ k, lo ≤ k → k < hi → ¬ S k) : OwnEn w' lo hi v l := ⟨own_only h.1 ho (fun k hk => hs k (h.1.lt k hk).1 (h.2 k hk)), h.2⟩
theorem OwnEn.of {w : World} {lo : Nat} {v : Value} {l : List EntD} (h : w.ownsRow lo 74 2 v l.length (l.flatMap encN)) : OwnEn w lo w.heap.size v l := ⟨h, fun j hj => (h.lt j hj).2⟩
theorem RdEn.below {w w' : World} {v : Value} {l : List EntD} (h : RdEn w v l) (hb : Below w.heap.size w w') : RdEn w' v l := by
  obtain ⟨a, c, rfl, hc, hr⟩ := h
  exact ⟨a, c, rfl, hc, hr.below hb (Nat.le_refl _)⟩
section
variable {H : Type} {enc : TypeId × Value → H} {w : World} {spare : Nat → Bool} {held : Bool}

end
end Go.Proofs.YthfgfhbinggpfaaDoor

/-
  Own text, plain: entries of a directory: found, added, dropped, as text; the order of names.
-/
namespace Go.Proofs.YthfgfhbinggpfaaDoor
open Go.RowKit

def ltB (a b : ByteArray) : Bool := Op.bytesLess a.toList b.toList
theorem bl_irrefl : ∀ l : List UInt8, Op.bytesLess l l = false
  | [] => rfl
  | a :: l => by unfold Op.bytesLess; rw [bl_irrefl l]; simp
theorem bl_total : ∀ a b : List UInt8, Op.bytesLess a b = true ∨ a = b ∨ Op.bytesLess b a = true
  | [], [] => .inr (.inl rfl)
  | [], _ :: _ => .inl rfl
  | _ :: _, [] => .inr (.inr rfl)
  | x :: a, y :: b => by
    unfold Op.bytesLess
    have h := bl_total a b
    rcases Nat.lt_trichotomy x.toNat y.toNat with h1 | h1 | h1
    · left
      simp [show x < y from UInt8.lt_iff_toNat_lt.2 h1]
    · have e : x = y := UInt8.toNat_inj.1 h1
      subst e
      rcases h with h | h | h
      · left; simp [h]
      · right; left; rw [h]
      · right; right; simp [h]
    · right; right
      simp [show y < x from UInt8.lt_iff_toNat_lt.2 h1]
theorem bl_trans : ∀ a b c : List UInt8, Op.bytesLess a b = true → Op.bytesLess b c = true → Op.bytesLess a c = true
  | [], [], _, h, _ => by cases h
  | [], _ :: _, [], _, h => by cases h
  | [], _ :: _, _ :: _, _, _ => rfl
  | _ :: _, [], _, h, _ => by cases h
  | _ :: _, _ :: _, [], _, h => by cases h
  | x :: a, y :: b, z :: c, h1, h2 => by
    unfold Op.bytesLess at *
    simp only [Bool.or_eq_true, Bool.and_eq_true, decide_eq_true_eq, beq_iff_eq] at *
    rcases h1 with h1 | ⟨rfl, h1⟩
    · rcases h2 with h2 | ⟨rfl, h2⟩
      · left; exact UInt8.lt_trans h1 h2
      · left; exact h1
    · rcases h2 with h2 | ⟨rfl, h2⟩
      · left; exact h2
      · right; exact ⟨rfl, bl_trans a b c h1 h2⟩
theorem ltB_irrefl (a : ByteArray) : ltB a a = false := bl_irrefl _
theorem ltB_trans {a b c : ByteArray} (h1 : ltB a b = true) (h2 : ltB b c = true) : ltB a c = true := bl_trans _ _ _ h1 h2

/-- The node of the first entry of that name, or -1. -/
def enFind (l : List EntD) (s : ByteArray) : Int := if h : l.findIdx (fun x => decide (x.1 = s)) < l.length then (l[l.findIdx (fun x => decide (x.1 = s))]).2 else -1
theorem enIdx_at {l : List EntD} {s : ByteArray} {k : Nat} (hk : k < l.length) (h0 : (l[k]).1 = s) (h : ∀ j (hj : j < l.length), j < k → (l[j]).1 ≠ s) : l.findIdx (fun x => decide (x.1 = s)) = k := by
  rw [List.findIdx_eq hk]
  refine ⟨by simp [h0], fun j hj => ?_⟩
  simpa using h j (by omega) hj
theorem enIdx_none {l : List EntD} {s : ByteArray} (h : ∀ j (hj : j < l.length), (l[j]).1 ≠ s) : ¬ l.findIdx (fun x => decide (x.1 = s)) < l.length := by
  intro hlt
  have := List.findIdx_getElem (p := fun x : EntD => decide (x.1 = s)) (xs := l) (w := hlt)
  exact h _ hlt (by simpa using this)
theorem enFind_at {l : List EntD} {s : ByteArray} {k : Nat} (hk : k < l.length) (h0 : (l[k]).1 = s) (h : ∀ j (hj : j < l.length), j < k → (l[j]).1 ≠ s) : enFind l s = (l[k]).2 := by
  have e := enIdx_at hk h0 h
  unfold enFind
  rw [dif_pos (by rw [e]; exact hk)]
  simp only [e]
theorem enFind_none {l : List EntD} {s : ByteArray} (h : ∀ j (hj : j < l.length), (l[j]).1 ≠ s) : enFind l s = -1 := by
  unfold enFind
  rw [dif_neg (enIdx_none h)]
/-- Where a name goes: ahead of the first one that is greater. -/
def enAt (l : List EntD) (s : ByteArray) : Nat := l.findIdx (fun e => ltB s e.1)
def enAdded (l : List EntD) (s : ByteArray) (n : Int) : List EntD := l.take (enAt l s) ++ (s, n) :: l.drop (enAt l s)
def enDropped (l : List EntD) (s : ByteArray) : List EntD := if l.findIdx (fun x => decide (x.1 = s)) < l.length then l.eraseIdx (l.findIdx (fun x => decide (x.1 = s))) else l
def enHas (l : List EntD) (s : ByteArray) : Bool := decide (l.findIdx (fun x => decide (x.1 = s)) < l.length)
/-- Its text's bytes. -/
def enText (l : List EntD) : List Int := l.flatMap fun e => putText e.1 ++ putNum e.2
end Go.Proofs.YthfgfhbinggpfaaDoor

/-
  Own text: entries as the other program finds and copies them.
-/
namespace Go.Proofs.YthfgfhbinggpfaaDoor
open Go.RowKit

theorem strEq {a b : ByteArray} : (a.toList == b.toList) = decide (a = b) := by
  by_cases h : a = b
  · subst h; simp
  · rw [decide_eq_false h, beq_eq_false_iff_ne]
    intro h2
    apply h
    rw [ByteArray.toList_eq, ByteArray.toList_eq] at h2
    obtain ⟨⟨x⟩⟩ := a
    obtain ⟨⟨y⟩⟩ := b
    simp at h2
    rw [h2]

set_option maxRecDepth 20000 in
set_option maxHeartbeats 1000000 in
theorem specDirFind (a : Option Addr) (c : Nat) (l : List EntD) (s : ByteArray) (w : World) (hl : l.length ≤ 4194304) (hr : RdF encN 2 w a l) :
    Calls Tryd.prog 56 #[.slice a l.length c, .string s] w fun e w' => e = .returned (.int .i64 (enFind l s)) ∧ w' = w := by
  have HCS : Hid (∀ k (hk : k < l.length), ∃ b off, a = some ⟨b, off, none⟩ ∧ b < w.heap.size ∧ ∀ j, j < 2 → w.cell? ⟨b, off + k * 2 + j, none⟩ = (encN l[k])[j]?) := fun k hk => hr.at k hk
  have HAT : Hid (∀ k (hk : k < l.length), (l[k]).1 = s → (∀ j (hj : j < l.length), j < k → (l[j]).1 ≠ s) → enFind l s = (l[k]).2) := fun k hk h0 h => enFind_at hk h0 h
  have HNO : Hid ((∀ j (hj : j < l.length), (l[j]).1 ≠ s) → enFind l s = -1) := fun h => enFind_none h
  clear hr
  go_enter Tryd.func56, Tryd.ntmps56
  go_wp2
  go_loop [5] (fun i => ∃ k : Nat, k ≤ l.length ∧ i = .int .i64 k ∧ Hid (∀ j (hj : j < l.length), j < k → (l[j]).1 ≠ s)) (fun i => l.length - (intOf i).toNat)
  case atStart => exact ⟨0, Nat.zero_le _, rfl, fun j _ h => by omega⟩
  case round =>
    obtain ⟨k, hk, rfl, HL⟩ := hrel
    by_cases hlt : k < l.length
    · obtain ⟨b, off, rfl, hblt, hcell⟩ := HCS.out k hlt
      have hc0 : w.cell? ⟨b, off + k * 2, none⟩ = some (.string l[k].1) := hcell 0 (by omega)
      have hc1 : w.cell? ⟨b, off + k * 2 + 1, none⟩ = some (.int .i64 l[k].2) := hcell 1 (by omega)
      by_cases h0 : (l[k]).1 = s
      · have HF : Hid (enFind l s = (l[k]).2) := HAT.out k hlt h0 HL.out
        have hes : ((l[k]).1.toList == s.toList) = true := by rw [strEq]; exact decide_eq_true h0
        clear hcell h0 HL
        generalize (l[k]).1 = t at *
        generalize (l[k]).2 = n at *
        go_wp2
        go_ret
        exact ⟨by rw [HF.out]; rfl, rfl⟩
      · have HL2 : Hid (∀ j (hj : j < l.length), j < k + 1 → (l[j]).1 ≠ s) := fun j hj hjk => by
          by_cases e : j = k
          · subst e; exact h0
          · exact HL.out j hj (by omega)
        have hes : ((l[k]).1.toList == s.toList) = false := by rw [strEq]; exact decide_eq_false h0
        clear hcell h0 HL
        generalize (l[k]).1 = t at *
        generalize (l[k]).2 = n at *
        go_wp2
        go_round
        case rel => exact ⟨k + 1, by omega, by go_num, HL2⟩
        case measure => simp [intOf]; omega
    · obtain rfl : k = l.length := by omega
      have HF : Hid (enFind l s = -1) := HNO.out fun j hj => HL.out j hj hj
      go_wp2
      go_ret
      exact ⟨by rw [HF.out]; rfl, rfl⟩

theorem srcEn {w : World} {a : Option Addr} {l : List EntD} (cap : Nat) (h : RdF encN 2 w a l) : Src Tryd.prog 2 61 (.slice a l.length cap) l.length (l.flatMap encN) w := by
  rcases h with rfl | ⟨b, off, rfl, hb, hc⟩
  · cases a with
    | none => exact Src.ofNil w Tryd.underlying61 cap
    | some x => exact Src.ofSlice w Tryd.underlying61 x 0 cap [] rfl (fun j u h => by simp at h) (fun u hu => by simp at hu)
  · refine Src.ofSlice w Tryd.underlying61 ⟨b, off, none⟩ l.length cap (l.flatMap encN) (flat_len_c encN_len l) (fun j u hj => ?_) (fun u hu => ?_)
    · have hjl : j < l.length * 2 := by
        rcases Nat.lt_or_ge j (l.flatMap encN).length with h | h
        · rw [flat_len_c encN_len] at h; exact h
        · rw [List.getElem?_eq_none h] at hj; cases hj
      have e := flat_get encN_len l (j / 2) (by omega) (j % 2) (by omega)
      rw [show j / 2 * 2 + j % 2 = j by omega, hj] at e
      rw [Go.WideShapes.add_plain]
      have := hc (j / 2) (by omega) (j % 2) (by omega)
      rw [show off + j / 2 * 2 + j % 2 = off + j by omega] at this
      rw [this, ← e]
    · obtain ⟨p, _, hp⟩ := List.mem_flatMap.1 hu
      simp [encN] at hp
      rcases hp with rfl | rfl <;> rfl

end Go.Proofs.YthfgfhbinggpfaaDoor

/-
  Own text: the text of entries, as the other program writes it.
-/
namespace Go.Proofs.YthfgfhbinggpfaaDoor
open Go.RowKit

theorem src_own8 {P : Program} {w : World} {base : Nat} {t e e' : TypeId} {v : Value} {n : Nat} {xs : List Value} (ht : P.underlying t = some (.slice e')) (h : w.ownsRow base e 1 v n xs) (h1 : ∀ u ∈ xs, u.oneCell' = true) : Src P 1 t v n xs w := by
  have hl : xs.length = n * 1 := h.1
  rcases h.2 with ⟨rfl, rfl⟩ | ⟨g, cap, cur, rfl, _⟩
  · obtain rfl : xs = [] := List.eq_nil_of_length_eq_zero (by simpa using hl)
    exact Src.ofNil w ht 0
  · exact Src.ofSlice w ht ⟨g, 0, none⟩ n cap xs hl (h.cells (g := g) rfl) h1
/-- A row of bytes of the call's own, turned into a text. -/
theorem conv_own8 {w : World} {base : Nat} {v : Value} {l : List Int} (hu : U8 l) (h : w.ownsRow base 5 1 v l.length (l.map (Value.int .u8))) : (convert 94 9 v).run Tryd.prog w = .ok (.string (baOf l)) w := by
  rcases h.2 with ⟨rfl, h0⟩ | ⟨g, cap, cur, rfl, _⟩
  · obtain rfl : l = [] := List.eq_nil_of_length_eq_zero h0
    exact run_convert_bytes_nil w 94 5 Tryd.underlying94 Tryd.underlying5 0 0 9 Tryd.underlying9
  · have hc := run_convert_bytes_back (P := Tryd.prog) w 94 9 5 ⟨g, 0, none⟩ cap (l.map fun x => UInt8.ofNat x.toNat) Tryd.underlying94 Tryd.underlying5 Tryd.underlying9 (by
      intro j hj
      rw [List.length_map] at hj
      rw [Go.WideShapes.add_plain, Nat.zero_add]
      have h2 := h.cellAt j (by omega)
      rw [List.getElem?_map, List.getElem?_eq_getElem hj] at h2
      rw [h2]
      have := hu _ (List.getElem_mem hj)
      simp
      omega)
    rw [List.length_map] at hc
    exact hc
theorem enText_take {l : List EntD} {k : Nat} (h : k < l.length) : enText (l.take (k + 1)) = enText (l.take k) ++ putText (l[k]).1 ++ putNum (l[k]).2 := by
  unfold enText
  rw [List.take_succ_eq_append_getElem h, List.flatMap_append]
  simp
theorem enText_u8 (l : List EntD) : U8 (enText l) := by
  intro n hn
  obtain ⟨e, _, he⟩ := List.mem_flatMap.1 hn
  rcases List.mem_append.1 he with h | h
  · exact putText_u8 _ n h
  · exact putNum_u8 _ n h
theorem enText_len (l : List EntD) : (enText l).length ≤ 10 * szEn l := by
  induction l with
  | nil => simp [enText, szEn]
  | cons x l ih =>
    have h1 := putText_len x.1
    have h2 := putNum_len x.2
    unfold enText szEn at *
    rw [List.flatMap_cons, List.length_append, List.length_append, List.map_cons, List.sum_cons]
    omega
theorem szEn_takeLe (l : List EntD) (k : Nat) : szEn (l.take k) ≤ szEn l := by
  have : szEn l = szEn (l.take k) + szEn (l.drop k) := by
    unfold szEn
    conv => lhs; rw [← List.take_append_drop k l]
    rw [List.map_append, List.sum_append]
  omega
theorem belowNE (w : World) (n : Nat) : Below w.heap.size w (w.drewN n) := ⟨rfl, rfl, rfl, Nat.le_refl _, fun _ _ => rfl⟩
/-- Small enough to be made a text of. -/
def SmE (l : List EntD) : Prop := szEn l ≤ 3000000 ∧ ∀ e ∈ l, e.1.size ≤ 1048576
theorem smE_of {l : List EntD} (h : szEn l ≤ 1048576) : SmE l := ⟨by omega, fun e he => by have := szEn_mem he; omega⟩
def enTextS (l : List EntD) : ByteArray := baOf (enText l)
theorem oneU8 (l : List Int) : ∀ u ∈ l.map (Value.int .u8), u.oneCell' = true := fun u hu => by obtain ⟨_, _, rfl⟩ := List.mem_map.1 hu; rfl
theorem Tryd.infoU8T : (Tryd.prog.info? 5).map (fun i => (i.zero, i.size, i.bytes)) = some (some (.int .u8 0), 1, 1) := by kernel_rfl

set_option maxRecDepth 20000 in
set_option maxHeartbeats 2000000 in
theorem specDirText (a : Option Addr) (c : Nat) (l : List EntD) (w : World) (hl : SmE l) (hr : RdF encN 2 w a l) :
    Calls Tryd.prog 99 #[.slice a l.length c] w fun e w' => e = .returned (.string (enTextS l)) ∧ Below w.heap.size w w' := by
  obtain ⟨i0, hi, hz0, hz1, hz2⟩ := info_parts Tryd.infoU8T
  have hll := szEn_len l
  have hl1 := hl.1
  have HCS : Hid (∀ k (hk : k < l.length), ∃ b off, a = some ⟨b, off, none⟩ ∧ b < w.heap.size ∧ ∀ j, j < 2 → w.cell? ⟨b, off + k * 2 + j, none⟩ = (encN l[k])[j]?) := fun k hk => hr.at k hk
  have HLEN : Hid (∀ k, (enText (l.take k)).length ≤ 30000000) := fun k => by have h1 := enText_len (l.take k); have h2 := szEn_takeLe l k; omega
  have HSZ : Hid (∀ e ∈ l, e.1.size ≤ 1048576) := hl.2
  have ho0 : (w.alloc (.cells #[] 5)).ownsRow w.heap.size 5 1 (.slice (some ⟨w.heap.size, 0, none⟩) 0 0) 0 [] := World.ownsRow_made w #[] 0 (Nat.le_refl _) (Nat.zero_le _) rfl
  have HO0 : Hid ((w.alloc (.cells #[] 5)).ownsRow w.heap.size 5 1 (.slice (some ⟨w.heap.size, 0, none⟩) 0 0) (enText (l.take 0)).length ((enText (l.take 0)).map (Value.int .u8))) := by show World.ownsRow _ _ _ _ _ _ _; simpa [enText] using ho0
  have hb0 : Below w.heap.size w (w.alloc (.cells #[] 5)) := below1 _ _
  clear hr ho0
  go_enter Tryd.func99, Tryd.ntmps99
  go_wp2
  go_loopw [3, 4] (fun v i wr => ∃ (k : Nat) (v' : Value), v' = v ∧ k ≤ l.length ∧ i = .int .i64 k ∧ Hid (wr.ownsRow w.heap.size 5 1 v' (enText (l.take k)).length ((enText (l.take k)).map (Value.int .u8))) ∧ Below w.heap.size w wr) (fun _ i _ => l.length - (intOf i).toNat)
  case atStart => exact ⟨0, _, rfl, Nat.zero_le _, rfl, HO0, hb0⟩
  case round =>
    clear HO0 hb0
    obtain ⟨k, v', rfl, hk, rfl, HO, hbel⟩ := hrel
    by_cases hlt : k < l.length
    · obtain ⟨b, off, rfl, hblt, hcell⟩ := HCS.out k hlt
      have hc0 : wr.cell? ⟨b, off + k * 2, none⟩ = some (.string l[k].1) := (hbel.cell hblt).trans (hcell 0 (by omega))
      have HC1 : Hid (∀ W, Below w.heap.size w W → W.cell? ⟨b, off + k * 2 + 1, none⟩ = some (.int .i64 l[k].2)) := fun W h => (h.cell hblt).trans (hcell 1 (by omega))
      have HTK : Hid (enText (l.take (k + 1)) = enText (l.take k) ++ putText (l[k]).1 ++ putNum (l[k]).2) := enText_take hlt
      have hes := HSZ.out _ (List.getElem_mem hlt)
      have hL := HLEN.out k
      have hT5 := putText_len (l[k]).1
      have hN5 := putNum_len (l[k]).2
      clear hcell
      generalize (l[k]).1 = t at *
      generalize (l[k]).2 = n at *
      obtain ⟨B, hB⟩ : ∃ B, enText (l.take k) = B := ⟨_, rfl⟩
      rw [hB] at HO HTK hL
      clear hB
      obtain ⟨av, cv, rfl⟩ : ∃ av cv, v' = .slice av B.length cv := by
        rcases HO.out.2 with ⟨rfl, h0⟩ | ⟨g, cap, cur, rfl, _⟩
        · exact ⟨none, 0, by rw [h0]⟩
        · exact ⟨_, _, rfl⟩
      go_wp2_with fail
      refine (specPutText t _ hes).mono ?_
      rintro e w1 ⟨v1, rfl, ho1, hb1⟩
      have hO1 := ownsRow_below HO.out hb1 (Nat.le_refl _)
      have hbel1 := hbel.trans (hb1.mono hbel.size)
      have HS1 : Hid (Src Tryd.prog 1 94 v1 (putText t).length ((putText t).map (Value.int .u8)) w1) := src_own8 Tryd.underlying94 ho1 (oneU8 _)
      have HO1 : Hid (w1.ownsRow w.heap.size 5 1 (.slice av B.length cv) B.length (B.map (Value.int .u8))) := hO1
      obtain ⟨a1, c1, rfl⟩ : ∃ a1 c1, v1 = .slice a1 (putText t).length c1 := by
        rcases ho1.2 with ⟨rfl, h0⟩ | ⟨g, cap, cur, rfl, _⟩
        · exact ⟨none, 0, by rw [h0]⟩
        · exact ⟨_, _, rfl⟩
      clear ho1 hb1 hO1 HO hc0
      generalize putText t = PT at *
      go_wp2_with (at_builtin; refine wpList_append_own_src _ rfl (.tmp 12) (.tmp 18) 94 94 rfl w.heap.size 5 i0 (.int .u8 0) 1 1 Tryd.underlying94 hi hz0 hz1 hz2 rfl _ _ _ rfl HO1.out _ PT.length (PT.map (Value.int .u8)) rfl HS1.out (by unfold maxLen; omega) (by omega) hbel1.size ?_)
      intro v2 w2 ho2 hg2
      have hbel2 : Below w.heap.size w w2 := hbel1.grown hg2 hbel1.size (fun q hq => (HO1.out.lt q hq).1)
      have HO2 : Hid (w2.ownsRow w.heap.size 5 1 v2 (B ++ PT).length ((B ++ PT).map (Value.int .u8))) := by show World.ownsRow _ _ _ _ _ _ _; rw [List.length_append, List.map_append]; exact ho2
      obtain ⟨a2, c2, rfl⟩ : ∃ a2 c2, v2 = .slice a2 (B ++ PT).length c2 := by
        rcases HO2.out.2 with ⟨rfl, h0⟩ | ⟨g, cap, cur, rfl, _⟩
        · exact ⟨none, 0, by rw [h0]⟩
        · exact ⟨_, _, rfl⟩
      have hBP : (B ++ PT).length ≤ 41000000 := by rw [List.length_append]; omega
      clear ho2 hg2 HO1 HS1 hbel1
      generalize B ++ PT = B2 at *
      have hc1 := HC1.out w2 hbel2
      go_wp2_with fail
      refine (specPutNum n _).mono ?_
      rintro e w3 ⟨v3, rfl, ho3, hb3⟩
      have hO3 := ownsRow_below HO2.out hb3 (Nat.le_refl _)
      have hbel3 := hbel2.trans (hb3.mono hbel2.size)
      have HS3 : Hid (Src Tryd.prog 1 94 v3 (putNum n).length ((putNum n).map (Value.int .u8)) w3) := src_own8 Tryd.underlying94 ho3 (oneU8 _)
      have HO3 : Hid (w3.ownsRow w.heap.size 5 1 (.slice a2 B2.length c2) B2.length (B2.map (Value.int .u8))) := hO3
      obtain ⟨a3, c3, rfl⟩ : ∃ a3 c3, v3 = .slice a3 (putNum n).length c3 := by
        rcases ho3.2 with ⟨rfl, h0⟩ | ⟨g, cap, cur, rfl, _⟩
        · exact ⟨none, 0, by rw [h0]⟩
        · exact ⟨_, _, rfl⟩
      clear ho3 hb3 hO3 HO2 hc1
      generalize putNum n = PN at *
      go_wp2_with (at_builtin; refine wpList_append_own_src _ rfl (.tmp 20) (.tmp 26) 94 94 rfl w.heap.size 5 i0 (.int .u8 0) 1 1 Tryd.underlying94 hi hz0 hz1 hz2 rfl _ _ _ rfl HO3.out _ PN.length (PN.map (Value.int .u8)) rfl HS3.out (by unfold maxLen; omega) (by omega) hbel3.size ?_)
      intro v4 w4 ho4 hg4
      have hbel4 : Below w.heap.size w w4 := hbel3.grown hg4 hbel3.size (fun q hq => (HO3.out.lt q hq).1)
      have HO4 : Hid (w4.ownsRow w.heap.size 5 1 v4 (enText (l.take (k + 1))).length ((enText (l.take (k + 1))).map (Value.int .u8))) := by show World.ownsRow _ _ _ _ _ _ _; rw [HTK.out, List.length_append, List.map_append]; exact ho4
      clear ho4 hg4 HO3 HS3 hbel3
      go_wp2
      go_roundw
      case rel => exact ⟨k + 1, _, rfl, by omega, by go_num, HO4, hbel4⟩
      case measure => simp [intOf]; omega
    · obtain rfl : k = l.length := by omega
      have hO := HO.out
      rw [List.take_length] at hO
      have hcv := conv_own8 (enText_u8 l) hO
      have HTS : Hid (enTextS l = baOf (enText l)) := rfl
      generalize enText l = X at *
      go_wp2
      go_ret
      exact ⟨by rw [HTS.out]; rfl, hbel⟩
end Go.Proofs.YthfgfhbinggpfaaDoor

/-
  Own text, plain: names and paths as lists of bytes: a text cut at slashes, names, paths, what is within what, normal paths. Nothing of the program.
-/
namespace Go.Proofs.YthfgfhbinggpfaaDoor

/-- A byte of a name. -/
def nb (b : UInt8) : Bool := (decide (97 ≤ b.toNat) && decide (b.toNat ≤ 122)) || (decide (48 ≤ b.toNat) && decide (b.toNat ≤ 57))
/-- A name. -/
def nmOk (l : List UInt8) : Bool := decide (1 ≤ l.length) && decide (l.length ≤ 6) && l.all nb

/-- A text cut at its slashes. -/
def cutL : List UInt8 → List (List UInt8)
  | [] => [[]]
  | b :: t => if b = 47 then [] :: cutL t else match cutL t with
    | h :: r => (b :: h) :: r
    | [] => [[b]]
theorem cutL_cons (l : List UInt8) : ∃ h r, cutL l = h :: r := by
  induction l with
  | nil => exact ⟨_, _, rfl⟩
  | cons b t ih =>
    obtain ⟨h, r, e⟩ := ih
    by_cases hb : b = 47
    · exact ⟨[], cutL t, by simp [cutL, hb]⟩
    · exact ⟨b :: h, r, by simp [cutL, hb, e]⟩
theorem cutL_slash (t : List UInt8) : cutL (47 :: t) = [] :: cutL t := by simp [cutL]
theorem cutL_step {b : UInt8} {t h : List UInt8} {r : List (List UInt8)} (hb : b ≠ 47) (e : cutL t = h :: r) : cutL (b :: t) = (b :: h) :: r := by simp [cutL, hb, e]
theorem cutL_app (x t : List UInt8) : cutL (x ++ 47 :: t) = cutL x ++ cutL t := by
  induction x with
  | nil => simp [cutL]
  | cons b x ih =>
    by_cases hb : b = 47
    · subst hb; rw [List.cons_append, cutL_slash, cutL_slash, ih]; rfl
    · obtain ⟨h, r, e⟩ := cutL_cons x
      rw [List.cons_append, cutL_step hb (by rw [ih, e]; rfl), cutL_step hb e]
      rfl
theorem cutL_plain (x : List UInt8) (h : ∀ b ∈ x, b ≠ 47) : cutL x = [x] := by
  induction x with
  | nil => rfl
  | cons b x ih => exact cutL_step (h b (by simp)) (ih fun c hc => h c (by simp [hc]))
theorem cutL_one {x : List UInt8} (h : (cutL x).length ≤ 1) : cutL x = [x] := by
  induction x with
  | nil => rfl
  | cons b x ih =>
    obtain ⟨y, r, e⟩ := cutL_cons x
    by_cases hb : b = 47
    · subst hb; rw [cutL_slash, e] at h; simp at h
    · rw [cutL_step hb e] at h
      have := ih (by rw [e]; simpa using h)
      exact cutL_step hb this
theorem nb_slash : nb 47 = false := by decide
theorem nmOk_no {x : List UInt8} (h : nmOk x = true) : ∀ b ∈ x, b ≠ 47 := by
  intro b hb e
  subst e
  simp only [nmOk, Bool.and_eq_true, List.all_eq_true] at h
  have := h.2 47 hb
  rw [nb_slash] at this
  cases this
theorem nmOk_cut {x : List UInt8} (h : nmOk x = true) : cutL x = [x] := cutL_plain x (nmOk_no h)

/-- Names, each behind a slash. -/
def joinL (l : List (List UInt8)) : List UInt8 := l.flatMap (47 :: ·)
theorem joinL_cons (x : List UInt8) (l : List (List UInt8)) : joinL (x :: l) = 47 :: (x ++ joinL l) := by simp [joinL]
theorem joinL_app (a b : List (List UInt8)) : joinL (a ++ b) = joinL a ++ joinL b := by simp [joinL]
theorem cutL_join (l : List (List UInt8)) : ∀ x, cutL (x ++ joinL l) = cutL x ++ l.flatMap cutL := by
  induction l with
  | nil => intro x; simp [joinL]
  | cons y l ih => intro x; rw [joinL_cons, cutL_app, ih y]; simp
theorem cut_names {l : List (List UInt8)} (h : l.all nmOk = true) : l.flatMap cutL = l := by
  induction l with
  | nil => rfl
  | cons y l ih =>
    simp only [List.all_cons, Bool.and_eq_true] at h
    rw [List.flatMap_cons, nmOk_cut h.1, ih h.2]; rfl
theorem cut_joined {l : List (List UInt8)} (h : l.all nmOk = true) : cutL (joinL l) = [] :: l := by
  have := cutL_join l []
  rw [List.nil_append, cut_names h] at this
  simpa [cutL] using this

/-- What is behind the first slash. -/
def tailsOk (q : List (List UInt8)) : Bool := match q with
  | [] :: r => decide (1 ≤ r.length) && decide (r.length ≤ 4) && r.all nmOk
  | _ => false
/-- A path. -/
def ptOk (p : List UInt8) : Bool := p == [47] || tailsOk (cutL p)
/-- Its names. -/
def nms (p : List UInt8) : List (List UInt8) := if ptOk p && !(p == [47]) then (cutL p).tail else []
/-- The path of names. -/
def ptOf (l : List (List UInt8)) : List UInt8 := if l = [] then [47] else if decide (l.length ≤ 4) && l.all nmOk then joinL l else []

theorem tailsOk_iff {q : List (List UInt8)} : tailsOk q = true ↔ ∃ r, q = [] :: r ∧ 1 ≤ r.length ∧ r.length ≤ 4 ∧ r.all nmOk = true := by
  unfold tailsOk
  split
  · rename_i r
    simp only [Bool.and_eq_true, decide_eq_true_eq]
    constructor
    · rintro ⟨⟨h1, h2⟩, h3⟩; exact ⟨r, rfl, h1, h2, h3⟩
    · rintro ⟨r', e, h1, h2, h3⟩
      obtain rfl : r = r' := by simpa using e
      exact ⟨⟨h1, h2⟩, h3⟩
  · rename_i h
    constructor
    · intro h; cases h
    · rintro ⟨r, e, _⟩; exact absurd e (h r)

theorem uncut : ∀ {p : List UInt8} {h : List UInt8} {r : List (List UInt8)}, cutL p = h :: r → p = h ++ joinL r
  | [], h, r, e => by simp [cutL] at e; obtain ⟨rfl, rfl⟩ := e; rfl
  | b :: t, h, r, e => by
    obtain ⟨h', r', e'⟩ := cutL_cons t
    by_cases hb : b = 47
    · subst hb
      rw [cutL_slash, e'] at e
      simp at e
      obtain ⟨rfl, rfl⟩ := e
      rw [List.nil_append, joinL_cons, ← uncut e']
    · rw [cutL_step hb e'] at e
      simp at e
      obtain ⟨rfl, rfl⟩ := e
      rw [List.cons_append, ← uncut e']

/-- A path that is not the root: its names are one to four, and it is theirs. -/
theorem pt_names {p : List UInt8} (h : ptOk p = true) (h' : p ≠ [47]) : cutL p = [] :: nms p ∧ p = joinL (nms p) ∧ 1 ≤ (nms p).length ∧ (nms p).length ≤ 4 ∧ (nms p).all nmOk = true := by
  have hb : (p == [47]) = false := by simpa using h'
  have ht : tailsOk (cutL p) = true := by simpa [ptOk, hb] using h
  obtain ⟨r, e, h1, h2, h3⟩ := tailsOk_iff.1 ht
  have en : nms p = r := by simp [nms, h, hb, e]
  rw [en]
  exact ⟨e, by simpa using uncut e, h1, h2, h3⟩
theorem nms_root : nms [47] = [] := by simp [nms]
theorem nms_not {p : List UInt8} (h : ptOk p = false) : nms p = [] := by simp [nms, h]
theorem ptOk_root : ptOk [47] = true := by simp [ptOk]
theorem nms_all (p : List UInt8) : (nms p).length ≤ 4 ∧ (nms p).all nmOk = true := by
  by_cases h : ptOk p = true
  · by_cases h' : p = [47]
    · subst h'; rw [nms_root]; simp
    · exact ⟨(pt_names h h').2.2.2.1, (pt_names h h').2.2.2.2⟩
  · rw [nms_not (by simpa using h)]; simp
theorem joinL_ne_root {l : List (List UInt8)} (h : l.all nmOk = true) : joinL l ≠ [47] := by
  intro e
  have := cut_joined h
  rw [e, cutL_slash] at this
  simp [cutL] at this
  subst this
  simp [nmOk] at h
theorem pt_of_names {l : List (List UInt8)} (h1 : 1 ≤ l.length) (h2 : l.length ≤ 4) (h : l.all nmOk = true) : ptOk (joinL l) = true ∧ nms (joinL l) = l := by
  have hr : (joinL l == [47]) = false := by simpa using joinL_ne_root h
  have ho : ptOk (joinL l) = true := by simp [ptOk, hr, tailsOk_iff.2 ⟨l, cut_joined h, h1, h2, h⟩]
  exact ⟨ho, by simp [nms, ho, hr, cut_joined h]⟩
theorem ptOf_nil : ptOf [] = [47] := by simp [ptOf]
theorem ptOf_ok {l : List (List UInt8)} (h1 : 1 ≤ l.length) (h2 : l.length ≤ 4) (h : l.all nmOk = true) : ptOf l = joinL l := by
  have : l ≠ [] := by intro e; subst e; simp at h1
  simp only [ptOf, this, h2, h]; simp
theorem ptOf_nms {p : List UInt8} (h : ptOk p = true) : ptOf (nms p) = p := by
  by_cases h' : p = [47]
  · subst h'; rw [nms_root, ptOf_nil]
  · obtain ⟨_, h2, h3, h4, h5⟩ := pt_names h h'
    rw [ptOf_ok h3 h4 h5, ← h2]
theorem nms_ptOf {l : List (List UInt8)} (h2 : l.length ≤ 4) (h : l.all nmOk = true) : ptOk (ptOf l) = true ∧ nms (ptOf l) = l := by
  by_cases h1 : 1 ≤ l.length
  · rw [ptOf_ok h1 h2 h]; exact pt_of_names h1 h2 h
  · obtain rfl : l = [] := List.eq_nil_of_length_eq_zero (by omega)
    rw [ptOf_nil]; exact ⟨ptOk_root, nms_root⟩

theorem flat_len_ge (l : List (List UInt8)) : l.length ≤ (l.flatMap cutL).length := by
  induction l with
  | nil => simp
  | cons y l ih =>
    obtain ⟨h, r, e⟩ := cutL_cons y
    rw [List.flatMap_cons, List.length_append, e, List.length_cons, List.length_cons]; omega
theorem flat_len {l : List (List UInt8)} (hl : (l.flatMap cutL).length ≤ l.length) : l.flatMap cutL = l := by
  induction l with
  | nil => rfl
  | cons y l ih =>
    obtain ⟨h, r, e⟩ := cutL_cons y
    rw [List.flatMap_cons, List.length_append] at hl
    have := flat_len_ge l
    rw [List.length_cons] at hl
    have hy : cutL y = [y] := cutL_one (by rw [e] at hl ⊢; rw [List.length_cons] at hl ⊢; omega)
    rw [List.flatMap_cons, hy, ih (by rw [hy, List.length_singleton] at hl; omega)]; rfl

/-- The path of names, asked by joining first and looking then. -/
theorem ptOf_asked (l : List (List UInt8)) (h0 : l ≠ []) : ptOf l = if ptOk (joinL l) = true ∧ (nms (joinL l)).length = l.length then joinL l else [] := by
  have h1 : 1 ≤ l.length := by cases l with | nil => exact absurd rfl h0 | cons => simp
  split
  · rename_i h
    obtain ⟨ho, hn⟩ := h
    by_cases hr : joinL l = [47]
    · rw [hr, nms_root] at hn; simp at hn; omega
    · obtain ⟨hc, _, _, h4, h5⟩ := pt_names ho hr
      have hj := cutL_join l []
      rw [List.nil_append, hc] at hj
      simp [cutL] at hj
      rw [hj] at hn h4 h5
      have hf := flat_len (l := l) (by omega)
      rw [hf] at h4 h5
      exact ptOf_ok h1 h4 h5
  · rename_i h
    unfold ptOf
    rw [if_neg h0]
    split
    · rename_i h'
      simp only [Bool.and_eq_true, decide_eq_true_eq] at h'
      have := pt_of_names h1 h'.1 h'.2
      exact absurd ⟨this.1, by rw [this.2]⟩ h
    · rfl

/-! ### A path looked at byte by byte -/
def scanP : List UInt8 → Nat → Nat → Bool
  | [], d, z => decide (0 < z) && decide (d ≤ 4)
  | b :: t, d, z => if b = 47 then (if 0 < d ∧ z = 0 then false else scanP t (d + 1) 0) else if d = 0 ∨ 6 < z + 1 ∨ nb b = false then false else scanP t d (z + 1)
theorem scanP_in (t : List UInt8) : ∀ (d z : Nat) (h : List UInt8) (r : List (List UInt8)), cutL t = h :: r → z ≤ 6 → scanP t (d + 1) z = (decide (1 ≤ z + h.length) && decide (z + h.length ≤ 6) && h.all nb && r.all nmOk && decide (d + 1 + r.length ≤ 4)) := by
  induction t with
  | nil => intro d z h r e hz; simp [cutL] at e; obtain ⟨rfl, rfl⟩ := e; simp [scanP, hz, show (0 < z) = (1 ≤ z) from rfl]
  | cons b t ih =>
    intro d z h r e hz
    obtain ⟨h', r', e'⟩ := cutL_cons t
    by_cases hb : b = 47
    · subst hb
      rw [cutL_slash, e'] at e
      simp at e
      obtain ⟨rfl, rfl⟩ := e
      rw [scanP, if_pos rfl]
      by_cases h0 : z = 0
      · subst h0; simp
      · rw [if_neg (by omega), ih (d + 1) 0 h' r' e' (by omega)]
        have hz1 : 1 ≤ z := by omega
        simp only [List.length_nil, Nat.add_zero, hz, hz1, List.all_nil, List.all_cons, nmOk, List.length_cons, Nat.zero_add, decide_true, Bool.true_and]
        rw [show d + 1 + 1 + r'.length = d + 1 + (r'.length + 1) from by omega]
    · rw [cutL_step hb e'] at e
      simp at e
      obtain ⟨rfl, rfl⟩ := e
      rw [scanP, if_neg hb]
      by_cases hn : nb b = true
      · by_cases h6 : 6 < z + 1
        · rw [if_pos (by omega)]
          have : ¬ (z + (h'.length + 1) ≤ 6) := by omega
          simp [this]
        · rw [if_neg (by simp [hn]; omega), ih d (z + 1) h' r' e' (by omega)]
          simp only [List.length_cons, List.all_cons, hn, Bool.true_and]
          have e1 : z + 1 + h'.length = z + (h'.length + 1) := by omega
          rw [e1]
      · have hn' : nb b = false := by simpa using hn
        rw [if_pos (Or.inr (Or.inr hn'))]
        simp [hn']
theorem scanP_all (p : List UInt8) : (p == [47] || scanP p 0 0) = ptOk p := by
  unfold ptOk
  cases p with
  | nil => simp [scanP, cutL, tailsOk]
  | cons b t =>
    obtain ⟨h, r, e⟩ := cutL_cons t
    by_cases hb : b = 47
    · subst hb
      have e2 : (47 :: t == [47]) = (t == []) := by simp
      rw [scanP, if_pos rfl, if_neg (by omega), cutL_slash, scanP_in t 0 0 h r e (by omega), e]
      simp only [tailsOk, List.length_cons, List.all_cons, nmOk, Nat.zero_add]
      congr 1
      simp only [show 1 ≤ r.length + 1 from by omega, decide_true, Bool.true_and]
      have : decide (1 + r.length ≤ 4) = decide (r.length + 1 ≤ 4) := by congr 1; rw [Nat.add_comm]
      rw [this]
      cases decide (r.length + 1 ≤ 4) <;> simp
    · rw [scanP, if_neg hb, if_pos (Or.inl rfl), cutL_step hb e]
      simp [tailsOk]

/-! ### Within -/
def wthn (p q : List UInt8) : Bool := ptOk p && ptOk q && decide (nms q <+: nms p)
theorem wthn_said {p q : List UInt8} (hp : ptOk p = true) (hq : ptOk q = true) : decide (nms q <+: nms p) = (p == q || q == [47] || decide (q ++ [47] <+: p)) := by
  by_cases hq' : q = [47]
  · subst hq'; simp [nms_root]
  have hqb : (q == [47]) = false := by simpa using hq'
  obtain ⟨hqc, hqj, hq1, hq4, hqa⟩ := pt_names hq hq'
  by_cases hp' : p = [47]
  · subst hp'
    rw [nms_root]
    have h1 : ¬ nms q <+: [] := by intro h; have := h.length_le; simp at this; rw [this] at hq1; simp at hq1
    have h2 : ¬ ([47] : List UInt8) = q := fun h => hq' h.symm
    have h3 : ¬ q ++ [47] <+: [47] := by
      intro h; have := h.length_le; simp at this
      rw [hqj] at this
      cases hn : nms q with
      | nil => rw [hn] at hq1; simp at hq1
      | cons y l => rw [hn, joinL_cons] at this; simp at this
    simp [h1, h2, h3, hqb]
  · obtain ⟨hpc, hpj, hp1, hp4, hpa⟩ := pt_names hp hp'
    rw [hqb, Bool.or_false, Bool.eq_iff_iff]
    simp only [decide_eq_true_eq, Bool.or_eq_true, beq_iff_eq]
    constructor
    · rintro ⟨c, hc⟩
      cases c with
      | nil => left; rw [List.append_nil] at hc; rw [hpj, hqj, hc]
      | cons y c =>
        right
        refine ⟨y ++ joinL c, ?_⟩
        have := congrArg joinL hc
        rw [joinL_app, ← hpj, ← hqj, joinL_cons] at this
        rw [← this]; simp
    · rintro (rfl | ⟨t, ht⟩)
      · exact List.prefix_refl _
      · refine ⟨cutL t, ?_⟩
        have : cutL p = cutL q ++ cutL t := by rw [← ht, List.append_assoc]; exact cutL_app q t
        rw [hpc, hqc] at this
        simpa using this.symm

/-! ### Normal paths -/
def nrm : List (List UInt8) → List (List UInt8) → Option (List (List UInt8))
  | st, [] => some st
  | st, x :: t => if x = [] ∨ x = [46] then nrm st t else if x = [46, 46] then nrm st.dropLast t else if nmOk x then nrm (st ++ [x]) t else none
/-- The normal form, the empty text where there is none. -/
def normL (s : List UInt8) : List UInt8 := if s.length ≤ 60 ∧ s.head? = some 47 then (match nrm [] (cutL s) with | some l => ptOf l | none => []) else []
theorem nmOk_dots {x : List UInt8} (h : nmOk x = true) : ¬ (x = [] ∨ x = [46]) ∧ x ≠ [46, 46] := by
  refine ⟨?_, ?_⟩
  · rintro (rfl | rfl) <;> revert h <;> decide
  · rintro rfl; revert h; decide
theorem nrm_names {l : List (List UInt8)} (h : l.all nmOk = true) : ∀ st t, nrm st (l ++ t) = nrm (st ++ l) t := by
  induction l with
  | nil => intro st t; simp
  | cons y l ih =>
    intro st t
    simp only [List.all_cons, Bool.and_eq_true] at h
    have := nmOk_dots h.1
    rw [List.cons_append, nrm, if_neg this.1, if_neg this.2, if_pos h.1, ih h.2]
    simp
theorem nrm_all : ∀ (t : List (List UInt8)) (st l : List (List UInt8)), st.all nmOk = true → nrm st t = some l → l.all nmOk = true
  | [], st, l, h, e => by simp [nrm] at e; subst e; exact h
  | x :: t, st, l, h, e => by
    rw [nrm] at e
    split at e
    · exact nrm_all t st l h e
    · split at e
      · refine nrm_all t _ l ?_ e
        rw [List.all_eq_true] at h ⊢
        intro y hy
        exact h y (List.dropLast_subset _ hy)
      · split at e
        · rename_i hx
          refine nrm_all t _ l ?_ e
          rw [List.all_append, h]; simp [hx]
        · cases e
theorem ptOf_some {l : List (List UInt8)} (h : ptOf l ≠ []) : l.length ≤ 4 ∧ l.all nmOk = true := by
  unfold ptOf at h
  split at h
  · rename_i h0; subst h0; simp
  · split at h
    · rename_i h2; simpa using h2
    · exact absurd rfl h
/-- A normal form is a path. -/
theorem normL_path {s : List UInt8} (h : normL s ≠ []) : ptOk (normL s) = true := by
  unfold normL at h ⊢
  split at h
  · rename_i hs
    rw [if_pos hs]
    split at h
    · rename_i l hl
      have := ptOf_some h
      exact (nms_ptOf this.1 this.2).1
    · exact absurd rfl h
  · exact absurd rfl h
theorem join_len {l : List (List UInt8)} (h : l.all nmOk = true) : (joinL l).length ≤ 7 * l.length := by
  induction l with
  | nil => simp [joinL]
  | cons y l ih =>
    simp only [List.all_cons, Bool.and_eq_true] at h
    have := ih h.2
    have hy : y.length ≤ 6 := by have := h.1; simp [nmOk] at this; omega
    rw [joinL_cons]; simp; omega
theorem pt_len {p : List UInt8} (h : ptOk p = true) : 1 ≤ p.length ∧ p.length ≤ 28 ∧ p.head? = some 47 := by
  by_cases h' : p = [47]
  · subst h'; simp
  · obtain ⟨_, hj, h1, h4, ha⟩ := pt_names h h'
    have := join_len ha
    rw [← hj] at this
    refine ⟨?_, by omega, ?_⟩
    · rw [hj]
      cases hn : nms p with
      | nil => rw [hn] at h1; simp at h1
      | cons y l => rw [joinL_cons]; simp
    · rw [hj]
      cases hn : nms p with
      | nil => rw [hn] at h1; simp at h1
      | cons y l => rw [joinL_cons]; simp
/-- A path is its own normal form, and behind one name more and two dots, too. -/
theorem norm_same {p : List UInt8} (h : ptOk p = true) : normL p = p := by
  have hl := pt_len h
  unfold normL
  rw [if_pos ⟨by omega, hl.2.2⟩]
  by_cases h' : p = [47]
  · subst h'
    have : nrm [] (cutL [47]) = some [] := by simp [cutL, nrm]
    rw [this]; exact ptOf_nil
  · obtain ⟨hc, hj, h1, h4, ha⟩ := pt_names h h'
    have : nrm [] (cutL p) = some (nms p) := by
      rw [hc, nrm, if_pos (Or.inl rfl)]
      have := nrm_names ha [] []
      simpa [nrm] using this
    rw [this]; exact ptOf_nms h
theorem norm_back {p : List UInt8} (h : ptOk p = true) : normL (p ++ [47, 113, 47, 46, 46]) = p := by
  have hl := pt_len h
  have hh : (p ++ [47, 113, 47, 46, 46]).head? = some 47 := by
    rw [List.head?_append, hl.2.2]; rfl
  have hcut : cutL (p ++ [47, 113, 47, 46, 46]) = cutL p ++ [[113], [46, 46]] := by
    rw [show p ++ ([47, 113, 47, 46, 46] : List UInt8) = p ++ 47 :: [113, 47, 46, 46] from rfl, cutL_app]
    simp [cutL]
  unfold normL
  rw [if_pos ⟨by simp; omega, hh⟩, hcut]
  have hq : nmOk [113] = true := by decide
  have hdots : ∀ st : List (List UInt8), nrm st [[113], [46, 46]] = some st := by
    intro st
    simp [nrm, hq]
  by_cases h' : p = [47]
  · subst h'
    have : nrm [] (cutL [47] ++ [[113], [46, 46]]) = some [] := by
      simp only [cutL, if_true]
      simp [nrm, hq]
    rw [this]; exact ptOf_nil
  · obtain ⟨hc, hj, h1, h4, ha⟩ := pt_names h h'
    have : nrm [] (cutL p ++ [[113], [46, 46]]) = some (nms p) := by
      rw [hc, List.cons_append, nrm, if_pos (Or.inl rfl), nrm_names ha, hdots]
      simp
    rw [this]; exact ptOf_nms h
end Go.Proofs.YthfgfhbinggpfaaDoor

/-
  Own text: texts as lists of bytes.
-/
namespace Go.Proofs.YthfgfhbinggpfaaDoor
open Go.RowKit

/-- The bytes of a text. -/
def bt (s : ByteArray) : List UInt8 := s.data.toList
/-- The text of bytes. -/
def tx (l : List UInt8) : ByteArray := ⟨l.toArray⟩
theorem bt_tx (l : List UInt8) : bt (tx l) = l := by simp [bt, tx]
theorem tx_bt (s : ByteArray) : tx (bt s) = s := rfl
theorem bt_inj {a b : ByteArray} (h : bt a = bt b) : a = b := by rw [← tx_bt a, ← tx_bt b, h]
theorem bt_len (s : ByteArray) : (bt s).length = s.size := by unfold bt; rw [Array.length_toList]; rfl
theorem tx_size (l : List UInt8) : (tx l).size = l.length := by simp [tx, ByteArray.size]
theorem bt_get (s : ByteArray) (k : Nat) (h : k < s.size) : (bt s)[k]'(by rw [bt_len]; exact h) = s[k] := by simp [bt]; rfl
theorem bt_app (a b : ByteArray) : bt (a ++ b) = bt a ++ bt b := by unfold bt; rw [ByteArray.data_append, Array.toList_append]
theorem bt_empty : bt ByteArray.empty = [] := rfl
theorem bt_extract (s : ByteArray) (a b : Nat) : bt (s.extract a b) = ((bt s).take b).drop a := by
  rw [List.drop_take]
  simp [bt]
theorem str_eq (a b : ByteArray) : (a.toList == b.toList) = (bt a == bt b) := by
  rw [ByteArray.toList_eq, ByteArray.toList_eq]; rfl
theorem lit_same {a : ByteArray} {l : List UInt8} (h : bt a = l) : (a.toList == l) = true := by rw [ByteArray.toList_eq, ← h]; simp [bt]
theorem lit_other {a : ByteArray} {l : List UInt8} (h : ¬ bt a = l) : (a.toList == l) = false := by rw [ByteArray.toList_eq]; simpa [bt] using h
theorem str_same {a b : ByteArray} (h : bt a = bt b) : (a.toList == b.toList) = true := by rw [str_eq, h]; simp
theorem str_other {a b : ByteArray} (h : ¬ bt a = bt b) : (a.toList == b.toList) = false := by rw [str_eq]; simpa using h
end Go.Proofs.YthfgfhbinggpfaaDoor

/-
  Own text: whether a text is a name: the program's way, rune by rune, and the other one, byte by byte.
-/
namespace Go.Proofs.YthfgfhbinggpfaaDoor
open Go.RowKit

/-- A number of a name's byte. -/
def nr (r : Int) : Bool := (decide (97 ≤ r) && decide (r ≤ 122)) || (decide (48 ≤ r) && decide (r ≤ 57))
theorem nr_nb (b : UInt8) : nr (b.toNat : Int) = nb b := by
  unfold nr nb
  simp only [Int.ofNat_le, show (97 : Int) = ((97 : Nat) : Int) from rfl, show (122 : Int) = ((122 : Nat) : Int) from rfl, show (48 : Int) = ((48 : Nat) : Int) from rfl, show (57 : Int) = ((57 : Nat) : Int) from rfl]
theorem nr_high {r : Int} (h : 128 ≤ r) : nr r = false := by
  unfold nr
  simp
  omega

theorem runeW (r : Int) (w : World) :
    Calls Tryd.prog 58 #[.int .i32 r] w fun e w' => e = .returned (.bool (nr r)) ∧ w' = w := by
  have HR : Hid (nr r = ((decide (97 ≤ r) && decide (r ≤ 122)) || (decide (48 ≤ r) && decide (r ≤ 57)))) := rfl
  by_cases h1 : 97 ≤ r <;> by_cases h2 : r ≤ 122 <;> by_cases h3 : 48 ≤ r <;> by_cases h4 : r ≤ 57
  all_goals first
    | (exfalso; omega)
    | (go_enter Tryd.func58, Tryd.ntmps58
       go_wp2
       go_ret
       exact ⟨by rw [HR.out]; simp [h1, h2, h3, h4], rfl⟩)

theorem below_iter {w : World} (s : ByteArray) (k : Nat) : Below w.heap.size w (w.iter s k) := (Below.refl _ _).alloc (Nat.le_refl _) _

theorem all_take {s : ByteArray} {k : Nat} (hk : k < s.size) (h : ((bt s).take k).all nb = true) (hb : nb s[k] = true) : ((bt s).take (k + 1)).all nb = true := by
  rw [List.take_succ_eq_append_getElem (by rw [bt_len]; exact hk), bt_get s k hk, List.all_append, h]
  simp [hb]
theorem all_not {s : ByteArray} {k : Nat} (hk : k < s.size) (hb : nb s[k] = false) : nmOk (bt s) = false := by
  unfold nmOk
  have : (bt s).all nb = false := by
    rw [List.all_eq_false]
    exact ⟨s[k], by rw [← bt_get s k hk]; exact List.getElem_mem _, by simp [hb]⟩
  rw [this]; simp
theorem all_end {s : ByteArray} (h : ((bt s).take s.size).all nb = true) : nmOk (bt s) = (decide (1 ≤ s.size) && decide (s.size ≤ 6)) := by
  rw [List.take_of_length_le (by rw [bt_len]; exact Nat.le_refl _)] at h
  unfold nmOk
  rw [h, bt_len]; simp

set_option maxRecDepth 20000 in
set_option maxHeartbeats 400000 in
theorem implName (s : ByteArray) (w : World) :
    Calls Tryd.prog 90 #[.string s] w fun e w' => e = .returned (.bool (nmOk (bt s))) ∧ Below w.heap.size w w' := by
  go_enter Tryd.func90, Tryd.ntmps90
  go_wp2
  go_loopw [2] (fun x w' => x = .bool false ∧ ∃ pos : Nat, w' = w.iter s pos ∧ pos ≤ s.size ∧ Hid (((bt s).take pos).all nb = true)) (fun _ w' => s.size - w'.iterPos w.heap.size)
  case atStart => exact ⟨rfl, 0, rfl, Nat.zero_le _, by show _ = _; simp⟩
  case round =>
    obtain ⟨rfl, pos, rfl, hle, HA⟩ := hrel
    by_cases hp : pos < s.size
    · by_cases ha : (s[pos]'hp).toNat < 128
      · have hnx : ∀ ty, (Instr.next (.pointer (some ⟨w.heap.size, 0, none⟩)) true ty).run Tryd.prog (w.iter s pos) = _ := fun ty => run_next_ascii w s pos ty hp ha
        have HB : Hid (nr ((s[pos]'hp).toNat : Int) = nb (s[pos]'hp)) := nr_nb _
        have HT : Hid (nb (s[pos]'hp) = true → ((bt s).take (pos + 1)).all nb = true) := all_take hp HA.out
        have HF : Hid (nb (s[pos]'hp) = false → nmOk (bt s) = false) := all_not hp
        generalize (s[pos]'hp) = b at *
        cases hb : nb b with
        | true =>
          go_wp2_with (go_at_call 58; refine (runeW _ _).mono ?_; rintro e w1 ⟨rfl, hw1⟩; subst w1; rw [HB.out, hb])
          go_roundw
          case rel => exact ⟨rfl, pos + 1, rfl, by omega, HT.out hb⟩
          case measure => simp; omega
        | false =>
          go_wp2_with (go_at_call 58; refine (runeW _ _).mono ?_; rintro e w1 ⟨rfl, hw1⟩; subst w1; rw [HB.out, hb])
          go_ret
          exact ⟨by rw [HF.out hb]; rfl, below_iter _ _⟩
      · have hnx : ∀ ty, (Instr.next (.pointer (some ⟨w.heap.size, 0, none⟩)) true ty).run Tryd.prog (w.iter s pos) = _ := fun ty => run_next_any w s pos ty hp
        have HH : Hid (nr ((Utf8.decode s pos).1 : Int) = false) := nr_high (by have := (decode_high s pos hp (by omega)).1; omega)
        have HF : Hid (nmOk (bt s) = false) := all_not hp (by rw [← nr_nb]; exact nr_high (by omega))
        generalize Utf8.decode s pos = d at *
        obtain ⟨d1, d2⟩ := d
        simp only at hnx HH
        go_wp2_with (go_at_call 58; refine (runeW _ _).mono ?_; rintro e w1 ⟨rfl, hw1⟩; subst w1; rw [HH.out])
        go_ret
        exact ⟨by rw [HF.out]; rfl, below_iter _ _⟩
    · obtain rfl : pos = s.size := by omega
      have hnx : ∀ ty, (Instr.next (.pointer (some ⟨w.heap.size, 0, none⟩)) true ty).run Tryd.prog (w.iter s s.size) = _ := fun ty => run_next_end w s s.size ty hp
      have HE : Hid (nmOk (bt s) = (decide (1 ≤ s.size) && decide (s.size ≤ 6))) := all_end HA.out
      by_cases h1 : 0 < s.size
      · by_cases h2 : s.size ≤ 6
        · go_wp2
          go_ret
          exact ⟨by rw [HE.out]; simp [h2]; omega, below_iter _ _⟩
        · go_wp2
          go_ret
          refine ⟨?_, below_iter _ _⟩
          rw [HE.out]
          simp [h2, show ¬ (s.size : Int) ≤ 6 by omega]
      · go_wp2
        go_ret
        exact ⟨by rw [HE.out]; simp; omega, below_iter _ _⟩

set_option maxRecDepth 20000 in
set_option maxHeartbeats 400000 in
theorem specName (s : ByteArray) (w : World) :
    Calls Tryd.prog 55 #[.string s] w fun e w' => e = .returned (.bool (nmOk (bt s))) ∧ w' = w := by
  have HL : Hid ((bt s).length = s.size) := bt_len s
  by_cases h16 : 1 ≤ s.size ∧ s.size ≤ 6
  · obtain ⟨h1, h6⟩ := h16
    have hin : (decide ((1 : Int) ≤ (s.size : Int)) && decide ((s.size : Int) ≤ 6)) = true := by simp; omega
    go_enter Tryd.func55, Tryd.ntmps55
    go_wp2_with (go_at_call 40; refine (inW _ _ _ _).mono ?_; rintro e w1 ⟨rfl, hw1⟩; subst w1; rw [hin])
    go_loopw [3] (fun x w' => ∃ k : Nat, x = .int .i64 k ∧ w' = w ∧ k ≤ s.size ∧ Hid (((bt s).take k).all nb = true)) (fun x _ => s.size - (intOf x).toNat)
    case atStart => exact ⟨0, rfl, rfl, Nat.zero_le _, by show _ = _; simp⟩
    case round =>
      obtain ⟨k, rfl, hw1, hk, HA⟩ := hrel
      subst hw1
      by_cases hp : k < s.size
      · have HB : Hid (nr ((s[k]'hp).toNat : Int) = nb (s[k]'hp)) := nr_nb _
        have HT : Hid (nb (s[k]'hp) = true → ((bt s).take (k + 1)).all nb = true) := all_take hp HA.out
        have HF : Hid (nb (s[k]'hp) = false → nmOk (bt s) = false) := all_not hp
        have hsk := getElem!_pos s k hp
        generalize hb0 : (s[k]'hp) = b at *
        have hb1 : b.toNat < 256 := b.toNat_lt
        have HNB : Hid (nb b = ((decide ((97 : Int) ≤ (b.toNat : Int)) && decide ((b.toNat : Int) ≤ 122)) || (decide ((48 : Int) ≤ (b.toNat : Int)) && decide ((b.toNat : Int) ≤ 57)))) := HB.out.symm
        by_cases c1 : (97 : Int) ≤ (b.toNat : Int) <;> by_cases c2 : (b.toNat : Int) ≤ 122 <;> by_cases c3 : (48 : Int) ≤ (b.toNat : Int) <;> by_cases c4 : (b.toNat : Int) ≤ 57
        all_goals first
          | (exfalso; omega)
          | (have hb : nb b = true := by rw [HNB.out]; simp; omega
             clear HNB
             go_wp2
             go_roundw
             case rel => exact ⟨k + 1, by go_num, by trivial, by omega, HT.out hb⟩
             case measure => simp [intOf]; omega)
          | (have hb : nb b = false := by rw [HNB.out]; simp; omega
             clear HNB
             go_wp2
             go_ret
             exact ⟨by rw [HF.out hb]; rfl, rfl⟩)
      · obtain rfl : k = s.size := by omega
        have HE : Hid (nmOk (bt s) = (decide (1 ≤ s.size) && decide (s.size ≤ 6))) := all_end HA.out
        go_wp2
        go_ret
        exact ⟨by rw [HE.out]; simp; omega, rfl⟩
  · have hin : (decide ((1 : Int) ≤ (s.size : Int)) && decide ((s.size : Int) ≤ 6)) = false := by simp; omega
    have HN : Hid (nmOk (bt s) = false) := by
      show _ = _
      unfold nmOk
      rw [bt_len]
      by_cases h : 1 ≤ s.size
      · simp [show ¬ s.size ≤ 6 by omega]
      · simp [show ¬ 1 ≤ s.size by omega]
    go_enter Tryd.func55, Tryd.ntmps55
    go_wp2_with (go_at_call 40; refine (inW _ _ _ _).mono ?_; rintro e w1 ⟨rfl, hw1⟩; subst w1; rw [hin])
    go_ret
    exact ⟨by rw [HN.out]; rfl, rfl⟩
end Go.Proofs.YthfgfhbinggpfaaDoor
