/-
  Own texts, several together.
-/
import Derived.Test.YtogpgocldgdeaaaDoorEntF
import Derived.Test.YtogpgocldgdeaaaDoorTextW
import Derived.Test.YtogpgocldgdeaaaDoorAppSrc
import Derived.Test.YtogpgocldgdeaaaDoorGoodW
import Derived.Laws.IdiomStrings
import Derived.Laws.BytesArg
/-
  Own text, plain: entries of a directory: found, added, dropped, as text; the order of names.
-/
namespace Go.Proofs.YtogpgocldgdeaaaDoor
open Go.RowKit

def ltB (a b : ByteArray) : Bool := Op.bytesLess a.toList b.toList
theorem bl_irrefl : ∀ l : List UInt8, Op.bytesLess l l = false
  | [] => rfl
  | a :: l => by unfold Op.bytesLess; rw [bl_irrefl l]; simp
theorem bl_total : ∀ a b : List UInt8, Op.bytesLess a b = true ∨ a = b ∨ Op.bytesLess b a = true
  | [], [] => .inr (.inl rfl)
  | [], _ :: _ => .inl rfl
  | _ :: _, [] => .inr (.inr rfl)
  | x :: a, y :: b => by
    unfold Op.bytesLess
    have h := bl_total a b
    rcases Nat.lt_trichotomy x.toNat y.toNat with h1 | h1 | h1
    · left
      simp [show x < y from UInt8.lt_iff_toNat_lt.2 h1]
    · have e : x = y := UInt8.toNat_inj.1 h1
      subst e
      rcases h with h | h | h
      · left; simp [h]
      · right; left; rw [h]
      · right; right; simp [h]
    · right; right
      simp [show y < x from UInt8.lt_iff_toNat_lt.2 h1]
theorem bl_trans : ∀ a b c : List UInt8, Op.bytesLess a b = true → Op.bytesLess b c = true → Op.bytesLess a c = true
  | [], [], _, h, _ => by cases h
  | [], _ :: _, [], _, h => by cases h
  | [], _ :: _, _ :: _, _, _ => rfl
  | _ :: _, [], _, h, _ => by cases h
  | _ :: _, _ :: _, [], _, h => by cases h
  | x :: a, y :: b, z :: c, h1, h2 => by
    unfold Op.bytesLess at *
    simp only [Bool.or_eq_true, Bool.and_eq_true, decide_eq_true_eq, beq_iff_eq] at *
    rcases h1 with h1 | ⟨rfl, h1⟩
    · rcases h2 with h2 | ⟨rfl, h2⟩
      · left; exact UInt8.lt_trans h1 h2
      · left; exact h1
    · rcases h2 with h2 | ⟨rfl, h2⟩
      · left; exact h2
      · right; exact ⟨rfl, bl_trans a b c h1 h2⟩
theorem ltB_irrefl (a : ByteArray) : ltB a a = false := bl_irrefl _
theorem ltB_trans {a b c : ByteArray} (h1 : ltB a b = true) (h2 : ltB b c = true) : ltB a c = true := bl_trans _ _ _ h1 h2

/-- The node of the first entry of that name, or -1. -/
def enFind (l : List EntD) (s : ByteArray) : Int := if h : l.findIdx (fun x => decide (x.1 = s)) < l.length then (l[l.findIdx (fun x => decide (x.1 = s))]).2 else -1
theorem enIdx_at {l : List EntD} {s : ByteArray} {k : Nat} (hk : k < l.length) (h0 : (l[k]).1 = s) (h : ∀ j (hj : j < l.length), j < k → (l[j]).1 ≠ s) : l.findIdx (fun x => decide (x.1 = s)) = k := by
  rw [List.findIdx_eq hk]
  refine ⟨by simp [h0], fun j hj => ?_⟩
  simpa using h j (by omega) hj
theorem enIdx_none {l : List EntD} {s : ByteArray} (h : ∀ j (hj : j < l.length), (l[j]).1 ≠ s) : ¬ l.findIdx (fun x => decide (x.1 = s)) < l.length := by
  intro hlt
  have := List.findIdx_getElem (p := fun x : EntD => decide (x.1 = s)) (xs := l) (w := hlt)
  exact h _ hlt (by simpa using this)
theorem enFind_at {l : List EntD} {s : ByteArray} {k : Nat} (hk : k < l.length) (h0 : (l[k]).1 = s) (h : ∀ j (hj : j < l.length), j < k → (l[j]).1 ≠ s) : enFind l s = (l[k]).2 := by
  have e := enIdx_at hk h0 h
  unfold enFind
  rw [dif_pos (by rw [e]; exact hk)]
  simp only [e]
theorem enFind_none {l : List EntD} {s : ByteArray} (h : ∀ j (hj : j < l.length), (l[j]).1 ≠ s) : enFind l s = -1 := by
  unfold enFind
  rw [dif_neg (enIdx_none h)]
/-- Where a name goes: ahead of the first one that is greater. -/
def enAt (l : List EntD) (s : ByteArray) : Nat := l.findIdx (fun e => ltB s e.1)
def enAdded (l : List EntD) (s : ByteArray) (n : Int) : List EntD := l.take (enAt l s) ++ (s, n) :: l.drop (enAt l s)
def enDropped (l : List EntD) (s : ByteArray) : List EntD := if l.findIdx (fun x => decide (x.1 = s)) < l.length then l.eraseIdx (l.findIdx (fun x => decide (x.1 = s))) else l
def enHas (l : List EntD) (s : ByteArray) : Bool := decide (l.findIdx (fun x => decide (x.1 = s)) < l.length)
/-- Its text's bytes. -/
def enText (l : List EntD) : List Int := l.flatMap fun e => putText e.1 ++ putNum e.2
end Go.Proofs.YtogpgocldgdeaaaDoor

/-
  Own text: entries as the other program finds and copies them.
-/
namespace Go.Proofs.YtogpgocldgdeaaaDoor
open Go.RowKit

theorem strEq {a b : ByteArray} : (a.toList == b.toList) = decide (a = b) := by
  by_cases h : a = b
  · subst h; simp
  · rw [decide_eq_false h, beq_eq_false_iff_ne]
    intro h2
    apply h
    rw [ByteArray.toList_eq, ByteArray.toList_eq] at h2
    obtain ⟨⟨x⟩⟩ := a
    obtain ⟨⟨y⟩⟩ := b
    simp at h2
    rw [h2]

theorem srcEn {w : World} {a : Option Addr} {l : List EntD} (cap : Nat) (h : RdF encN 2 w a l) : Src Tryd.prog 2 24 (.slice a l.length cap) l.length (l.flatMap encN) w := by
  rcases h with rfl | ⟨b, off, rfl, hb, hc⟩
  · cases a with
    | none => exact Src.ofNil w Tryd.underlying24 cap
    | some x => exact Src.ofSlice w Tryd.underlying24 x 0 cap [] rfl (fun j u h => by simp at h) (fun u hu => by simp at hu)
  · refine Src.ofSlice w Tryd.underlying24 ⟨b, off, none⟩ l.length cap (l.flatMap encN) (flat_len_c encN_len l) (fun j u hj => ?_) (fun u hu => ?_)
    · have hjl : j < l.length * 2 := by
        rcases Nat.lt_or_ge j (l.flatMap encN).length with h | h
        · rw [flat_len_c encN_len] at h; exact h
        · rw [List.getElem?_eq_none h] at hj; cases hj
      have e := flat_get encN_len l (j / 2) (by omega) (j % 2) (by omega)
      rw [show j / 2 * 2 + j % 2 = j by omega, hj] at e
      rw [Go.WideShapes.add_plain]
      have := hc (j / 2) (by omega) (j % 2) (by omega)
      rw [show off + j / 2 * 2 + j % 2 = off + j by omega] at this
      rw [this, ← e]
    · obtain ⟨p, _, hp⟩ := List.mem_flatMap.1 hu
      simp [encN] at hp
      rcases hp with rfl | rfl <;> rfl

set_option maxRecDepth 20000 in
set_option maxHeartbeats 400000 in
theorem copyEn (a : Option Addr) (cap : Nat) (l : List EntD) (w : World) (hl : l.length ≤ 4194305) (hr : RdF encN 2 w a l) :
    Calls Tryd.prog 25 #[.slice a l.length cap] w fun e w' => ∃ v, e = .returned v ∧ w'.ownsRow w.heap.size 32 2 v l.length (l.flatMap encN) ∧ Below w.heap.size w w' := by
  obtain ⟨i0, hi, hz0, hz1, hz2⟩ := info_parts Tryd.infoEnt
  have ho0 : (w.alloc (.cells #[] 32)).ownsRow w.heap.size 32 2 (.slice (some ⟨w.heap.size, 0, none⟩) 0 0) 0 [] := World.ownsRow_made w #[] 0 (Nat.le_refl _) (Nat.zero_le _) rfl
  have hb0 : Below w.heap.size w (w.alloc (.cells #[] 32)) := (Below.refl _ _).alloc (Nat.le_refl _) _
  have HR : Hid (RdF encN 2 (w.alloc (.cells #[] 32)) a l) := hr.below hb0 (Nat.le_refl _)
  clear hr
  go_enter Tryd.func25, Tryd.ntmps25
  go_wp2_with (at_builtin; refine wpList_append_own_src _ rfl _ _ 24 24 rfl w.heap.size 32 i0 _ 2 24 Tryd.underlying24 hi hz0 hz1 hz2 rfl _ _ _ rfl ho0 _ l.length (l.flatMap encN) rfl (srcEn cap HR.out) (by unfold maxLen; omega) (by omega) hb0.size ?_)
  intro v' w2 ho2 hg2
  have hb2 : Below w.heap.size w w2 := hb0.grown hg2 hb0.size (fun k hk => (ho0.lt k hk).1)
  clear hg2
  go_wp2
  go_ret
  exact ⟨_, rfl, by simpa using ho2, hb2⟩
end Go.Proofs.YtogpgocldgdeaaaDoor

/-
  Own text: the text of entries, as the other program writes it.
-/
namespace Go.Proofs.YtogpgocldgdeaaaDoor
open Go.RowKit

theorem src_own8 {P : Program} {w : World} {base : Nat} {t e e' : TypeId} {v : Value} {n : Nat} {xs : List Value} (ht : P.underlying t = some (.slice e')) (h : w.ownsRow base e 1 v n xs) (h1 : ∀ u ∈ xs, u.oneCell' = true) : Src P 1 t v n xs w := by
  have hl : xs.length = n * 1 := h.1
  rcases h.2 with ⟨rfl, rfl⟩ | ⟨g, cap, cur, rfl, _⟩
  · obtain rfl : xs = [] := List.eq_nil_of_length_eq_zero (by simpa using hl)
    exact Src.ofNil w ht 0
  · exact Src.ofSlice w ht ⟨g, 0, none⟩ n cap xs hl (h.cells (g := g) rfl) h1
/-- A row of bytes of the call's own, turned into a text. -/
theorem conv_own8 {w : World} {base : Nat} {v : Value} {l : List Int} (hu : U8 l) (h : w.ownsRow base 5 1 v l.length (l.map (Value.int .u8))) : (convert 22 9 v).run Tryd.prog w = .ok (.string (baOf l)) w := by
  rcases h.2 with ⟨rfl, h0⟩ | ⟨g, cap, cur, rfl, _⟩
  · obtain rfl : l = [] := List.eq_nil_of_length_eq_zero h0
    exact run_convert_bytes_nil w 22 5 Tryd.underlying22 Tryd.underlying5 0 0 9 Tryd.underlying9
  · have hc := run_convert_bytes_back (P := Tryd.prog) w 22 9 5 ⟨g, 0, none⟩ cap (l.map fun x => UInt8.ofNat x.toNat) Tryd.underlying22 Tryd.underlying5 Tryd.underlying9 (by
      intro j hj
      rw [List.length_map] at hj
      rw [Go.WideShapes.add_plain, Nat.zero_add]
      have h2 := h.cellAt j (by omega)
      rw [List.getElem?_map, List.getElem?_eq_getElem hj] at h2
      rw [h2]
      have := hu _ (List.getElem_mem hj)
      simp
      omega)
    rw [List.length_map] at hc
    exact hc
theorem enText_take {l : List EntD} {k : Nat} (h : k < l.length) : enText (l.take (k + 1)) = enText (l.take k) ++ putText (l[k]).1 ++ putNum (l[k]).2 := by
  unfold enText
  rw [List.take_succ_eq_append_getElem h, List.flatMap_append]
  simp
theorem enText_u8 (l : List EntD) : U8 (enText l) := by
  intro n hn
  obtain ⟨e, _, he⟩ := List.mem_flatMap.1 hn
  rcases List.mem_append.1 he with h | h
  · exact putText_u8 _ n h
  · exact putNum_u8 _ n h
theorem enText_len (l : List EntD) : (enText l).length ≤ 10 * szEn l := by
  induction l with
  | nil => simp [enText, szEn]
  | cons x l ih =>
    have h1 := putText_len x.1
    have h2 := putNum_len x.2
    unfold enText szEn at *
    rw [List.flatMap_cons, List.length_append, List.length_append, List.map_cons, List.sum_cons]
    omega
theorem szEn_takeLe (l : List EntD) (k : Nat) : szEn (l.take k) ≤ szEn l := by
  have : szEn l = szEn (l.take k) + szEn (l.drop k) := by
    unfold szEn
    conv => lhs; rw [← List.take_append_drop k l]
    rw [List.map_append, List.sum_append]
  omega
theorem belowNE (w : World) (n : Nat) : Below w.heap.size w (w.drewN n) := ⟨rfl, rfl, rfl, Nat.le_refl _, fun _ _ => rfl⟩
/-- Small enough to be made a text of. -/
def SmE (l : List EntD) : Prop := szEn l ≤ 3000000 ∧ ∀ e ∈ l, e.1.size ≤ 1048576
theorem smE_of {l : List EntD} (h : szEn l ≤ 1048576) : SmE l := ⟨by omega, fun e he => by have := szEn_mem he; omega⟩
def enTextS (l : List EntD) : ByteArray := baOf (enText l)
theorem oneU8 (l : List Int) : ∀ u ∈ l.map (Value.int .u8), u.oneCell' = true := fun u hu => by obtain ⟨_, _, rfl⟩ := List.mem_map.1 hu; rfl
theorem Tryd.infoU8T : (Tryd.prog.info? 5).map (fun i => (i.zero, i.size, i.bytes)) = some (some (.int .u8 0), 1, 1) := by kernel_rfl

set_option maxRecDepth 20000 in
set_option maxHeartbeats 2000000 in
theorem specDirText (a : Option Addr) (c : Nat) (l : List EntD) (w : World) (hl : SmE l) (hr : RdF encN 2 w a l) :
    Calls Tryd.prog 48 #[.slice a l.length c] w fun e w' => e = .returned (.string (enTextS l)) ∧ Below w.heap.size w w' := by
  obtain ⟨i0, hi, hz0, hz1, hz2⟩ := info_parts Tryd.infoU8T
  have hll := szEn_len l
  have hl1 := hl.1
  have HCS : Hid (∀ k (hk : k < l.length), ∃ b off, a = some ⟨b, off, none⟩ ∧ b < w.heap.size ∧ ∀ j, j < 2 → w.cell? ⟨b, off + k * 2 + j, none⟩ = (encN l[k])[j]?) := fun k hk => hr.at k hk
  have HLEN : Hid (∀ k, (enText (l.take k)).length ≤ 30000000) := fun k => by have h1 := enText_len (l.take k); have h2 := szEn_takeLe l k; omega
  have HSZ : Hid (∀ e ∈ l, e.1.size ≤ 1048576) := hl.2
  have ho0 : (w.alloc (.cells #[] 5)).ownsRow w.heap.size 5 1 (.slice (some ⟨w.heap.size, 0, none⟩) 0 0) 0 [] := World.ownsRow_made w #[] 0 (Nat.le_refl _) (Nat.zero_le _) rfl
  have HO0 : Hid ((w.alloc (.cells #[] 5)).ownsRow w.heap.size 5 1 (.slice (some ⟨w.heap.size, 0, none⟩) 0 0) (enText (l.take 0)).length ((enText (l.take 0)).map (Value.int .u8))) := by show World.ownsRow _ _ _ _ _ _ _; simpa [enText] using ho0
  have hb0 : Below w.heap.size w (w.alloc (.cells #[] 5)) := below1 _ _
  clear hr ho0
  go_enter Tryd.func48, Tryd.ntmps48
  go_wp2
  go_loopw [3, 4] (fun v i wr => ∃ (k : Nat) (v' : Value), v' = v ∧ k ≤ l.length ∧ i = .int .i64 k ∧ Hid (wr.ownsRow w.heap.size 5 1 v' (enText (l.take k)).length ((enText (l.take k)).map (Value.int .u8))) ∧ Below w.heap.size w wr) (fun _ i _ => l.length - (intOf i).toNat)
  case atStart => exact ⟨0, _, rfl, Nat.zero_le _, rfl, HO0, hb0⟩
  case round =>
    clear HO0 hb0
    obtain ⟨k, v', rfl, hk, rfl, HO, hbel⟩ := hrel
    by_cases hlt : k < l.length
    · obtain ⟨b, off, rfl, hblt, hcell⟩ := HCS.out k hlt
      have hc0 : wr.cell? ⟨b, off + k * 2, none⟩ = some (.string l[k].1) := (hbel.cell hblt).trans (hcell 0 (by omega))
      have HC1 : Hid (∀ W, Below w.heap.size w W → W.cell? ⟨b, off + k * 2 + 1, none⟩ = some (.int .i64 l[k].2)) := fun W h => (h.cell hblt).trans (hcell 1 (by omega))
      have HTK : Hid (enText (l.take (k + 1)) = enText (l.take k) ++ putText (l[k]).1 ++ putNum (l[k]).2) := enText_take hlt
      have hes := HSZ.out _ (List.getElem_mem hlt)
      have hL := HLEN.out k
      have hT5 := putText_len (l[k]).1
      have hN5 := putNum_len (l[k]).2
      clear hcell
      generalize (l[k]).1 = t at *
      generalize (l[k]).2 = n at *
      obtain ⟨B, hB⟩ : ∃ B, enText (l.take k) = B := ⟨_, rfl⟩
      rw [hB] at HO HTK hL
      clear hB
      obtain ⟨av, cv, rfl⟩ : ∃ av cv, v' = .slice av B.length cv := by
        rcases HO.out.2 with ⟨rfl, h0⟩ | ⟨g, cap, cur, rfl, _⟩
        · exact ⟨none, 0, by rw [h0]⟩
        · exact ⟨_, _, rfl⟩
      go_wp2_with fail
      refine (specPutText t _ hes).mono ?_
      rintro e w1 ⟨v1, rfl, ho1, hb1⟩
      have hO1 := ownsRow_below HO.out hb1 (Nat.le_refl _)
      have hbel1 := hbel.trans (hb1.mono hbel.size)
      have HS1 : Hid (Src Tryd.prog 1 22 v1 (putText t).length ((putText t).map (Value.int .u8)) w1) := src_own8 Tryd.underlying22 ho1 (oneU8 _)
      have HO1 : Hid (w1.ownsRow w.heap.size 5 1 (.slice av B.length cv) B.length (B.map (Value.int .u8))) := hO1
      obtain ⟨a1, c1, rfl⟩ : ∃ a1 c1, v1 = .slice a1 (putText t).length c1 := by
        rcases ho1.2 with ⟨rfl, h0⟩ | ⟨g, cap, cur, rfl, _⟩
        · exact ⟨none, 0, by rw [h0]⟩
        · exact ⟨_, _, rfl⟩
      clear ho1 hb1 hO1 HO hc0
      generalize putText t = PT at *
      go_wp2_with (at_builtin; refine wpList_append_own_src _ rfl (.tmp 12) (.tmp 18) 22 22 rfl w.heap.size 5 i0 (.int .u8 0) 1 1 Tryd.underlying22 hi hz0 hz1 hz2 rfl _ _ _ rfl HO1.out _ PT.length (PT.map (Value.int .u8)) rfl HS1.out (by unfold maxLen; omega) (by omega) hbel1.size ?_)
      intro v2 w2 ho2 hg2
      have hbel2 : Below w.heap.size w w2 := hbel1.grown hg2 hbel1.size (fun q hq => (HO1.out.lt q hq).1)
      have HO2 : Hid (w2.ownsRow w.heap.size 5 1 v2 (B ++ PT).length ((B ++ PT).map (Value.int .u8))) := by show World.ownsRow _ _ _ _ _ _ _; rw [List.length_append, List.map_append]; exact ho2
      obtain ⟨a2, c2, rfl⟩ : ∃ a2 c2, v2 = .slice a2 (B ++ PT).length c2 := by
        rcases HO2.out.2 with ⟨rfl, h0⟩ | ⟨g, cap, cur, rfl, _⟩
        · exact ⟨none, 0, by rw [h0]⟩
        · exact ⟨_, _, rfl⟩
      have hBP : (B ++ PT).length ≤ 41000000 := by rw [List.length_append]; omega
      clear ho2 hg2 HO1 HS1 hbel1
      generalize B ++ PT = B2 at *
      have hc1 := HC1.out w2 hbel2
      go_wp2_with fail
      refine (specPutNum n _).mono ?_
      rintro e w3 ⟨v3, rfl, ho3, hb3⟩
      have hO3 := ownsRow_below HO2.out hb3 (Nat.le_refl _)
      have hbel3 := hbel2.trans (hb3.mono hbel2.size)
      have HS3 : Hid (Src Tryd.prog 1 22 v3 (putNum n).length ((putNum n).map (Value.int .u8)) w3) := src_own8 Tryd.underlying22 ho3 (oneU8 _)
      have HO3 : Hid (w3.ownsRow w.heap.size 5 1 (.slice a2 B2.length c2) B2.length (B2.map (Value.int .u8))) := hO3
      obtain ⟨a3, c3, rfl⟩ : ∃ a3 c3, v3 = .slice a3 (putNum n).length c3 := by
        rcases ho3.2 with ⟨rfl, h0⟩ | ⟨g, cap, cur, rfl, _⟩
        · exact ⟨none, 0, by rw [h0]⟩
        · exact ⟨_, _, rfl⟩
      clear ho3 hb3 hO3 HO2 hc1
      generalize putNum n = PN at *
      go_wp2_with (at_builtin; refine wpList_append_own_src _ rfl (.tmp 20) (.tmp 26) 22 22 rfl w.heap.size 5 i0 (.int .u8 0) 1 1 Tryd.underlying22 hi hz0 hz1 hz2 rfl _ _ _ rfl HO3.out _ PN.length (PN.map (Value.int .u8)) rfl HS3.out (by unfold maxLen; omega) (by omega) hbel3.size ?_)
      intro v4 w4 ho4 hg4
      have hbel4 : Below w.heap.size w w4 := hbel3.grown hg4 hbel3.size (fun q hq => (HO3.out.lt q hq).1)
      have HO4 : Hid (w4.ownsRow w.heap.size 5 1 v4 (enText (l.take (k + 1))).length ((enText (l.take (k + 1))).map (Value.int .u8))) := by show World.ownsRow _ _ _ _ _ _ _; rw [HTK.out, List.length_append, List.map_append]; exact ho4
      clear ho4 hg4 HO3 HS3 hbel3
      go_wp2
      go_roundw
      case rel => exact ⟨k + 1, _, rfl, by omega, by go_num, HO4, hbel4⟩
      case measure => simp [intOf]; omega
    · obtain rfl : k = l.length := by omega
      have hO := HO.out
      rw [List.take_length] at hO
      have hcv := conv_own8 (enText_u8 l) hO
      have HTS : Hid (enTextS l = baOf (enText l)) := rfl
      generalize enText l = X at *
      go_wp2
      go_ret
      exact ⟨by rw [HTS.out]; rfl, hbel⟩
end Go.Proofs.YtogpgocldgdeaaaDoor
