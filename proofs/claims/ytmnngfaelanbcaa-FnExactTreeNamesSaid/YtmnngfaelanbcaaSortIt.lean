/-
  Own text: a row of items sorted by their paths.
-/
import Derived.Test.YtmnngfaelanbcaaItM
import Derived.Test.YtmnngfaelanbcaaShelfT
import Derived.Test.YtmnngfaelanbcaaShelfC
namespace Go.Proofs.Ytmnngfaelanbcaa
open Go.RowKit Go.Sort Go.Lib

/-! ### The order of texts -/
theorem cb_neg : ∀ a b : List UInt8, (Lib.compareBytes a b < 0) ↔ Op.bytesLess a b = true
  | [], [] => by simp [Lib.compareBytes, Op.bytesLess]
  | [], _ :: _ => by simp [Lib.compareBytes, Op.bytesLess]
  | _ :: _, [] => by simp [Lib.compareBytes, Op.bytesLess]
  | x :: a, y :: b => by
    have ih := cb_neg a b
    unfold Lib.compareBytes Op.bytesLess
    rcases Nat.lt_trichotomy x.toNat y.toNat with h1 | h1 | h1
    · simp [show x < y from UInt8.lt_iff_toNat_lt.2 h1]
    · have e : x = y := UInt8.toNat_inj.1 h1
      subst e
      simp [ih]
    · have h2 : ¬ x < y := fun h => by have := UInt8.lt_iff_toNat_lt.1 h; omega
      have h3 : ¬ x = y := fun h => by rw [h] at h1; omega
      simp [show y < x from UInt8.lt_iff_toNat_lt.2 h1, h2, h3]
def lessS (a b : ByteArray) : Bool := Op.bytesLess a.toList b.toList
theorem less_irrefl : ∀ l : List UInt8, Op.bytesLess l l = false
  | [] => rfl
  | a :: l => by unfold Op.bytesLess; rw [less_irrefl l]; simp
theorem less_total : ∀ a b : List UInt8, Op.bytesLess a b = true ∨ a = b ∨ Op.bytesLess b a = true
  | [], [] => .inr (.inl rfl)
  | [], _ :: _ => .inl rfl
  | _ :: _, [] => .inr (.inr rfl)
  | x :: a, y :: b => by
    unfold Op.bytesLess
    have h := less_total a b
    rcases Nat.lt_trichotomy x.toNat y.toNat with h1 | h1 | h1
    · left
      simp [show x < y from UInt8.lt_iff_toNat_lt.2 h1]
    · have e : x = y := UInt8.toNat_inj.1 h1
      subst e
      rcases h with h | h | h
      · left; simp [h]
      · right; left; rw [h]
      · right; right; simp [h]
    · right; right
      simp [show y < x from UInt8.lt_iff_toNat_lt.2 h1]
theorem less_trans : ∀ a b c : List UInt8, Op.bytesLess a b = true → Op.bytesLess b c = true → Op.bytesLess a c = true
  | [], [], _, h, _ => by cases h
  | [], _ :: _, [], _, h => by cases h
  | [], _ :: _, _ :: _, _, _ => rfl
  | _ :: _, [], _, h, _ => by cases h
  | _ :: _, _ :: _, [], _, h => by cases h
  | x :: a, y :: b, z :: c, h1, h2 => by
    unfold Op.bytesLess at *
    simp only [Bool.or_eq_true, Bool.and_eq_true, decide_eq_true_eq, beq_iff_eq] at *
    rcases h1 with h1 | ⟨rfl, h1⟩
    · rcases h2 with h2 | ⟨rfl, h2⟩
      · left; exact UInt8.lt_trans h1 h2
      · left; exact h1
    · rcases h2 with h2 | ⟨rfl, h2⟩
      · left; exact h2
      · right; exact ⟨rfl, less_trans a b c h1 h2⟩
theorem lessS_irrefl (a : ByteArray) : lessS a a = false := less_irrefl _
theorem lessS_trans {a b c : ByteArray} (h1 : lessS a b = true) (h2 : lessS b c = true) : lessS a c = true := less_trans _ _ _ h1 h2
theorem lessS_total (a b : ByteArray) : lessS a b = true ∨ a = b ∨ lessS b a = true := by
  rcases less_total a.toList b.toList with h | h | h
  · exact .inl h
  · exact .inr (.inl ((str_iff a b).1 h))
  · exact .inr (.inr h)
theorem lessS_ne {a b : ByteArray} (h : lessS a b = true) : a ≠ b := by
  intro e
  rw [e, lessS_irrefl] at h
  cases h
def cfI (x y : ItD) : Int := Lib.compareBytes x.p.data.toList y.p.data.toList
theorem ltI (x y : ItD) : ltOf cfI x y = lessS x.p y.p := by
  unfold ltOf cfI lessS
  rw [← ByteArray.toList_eq, ← ByteArray.toList_eq]
  cases h : Op.bytesLess x.p.toList y.p.toList with
  | true => exact decide_eq_true ((cb_neg _ _).2 h)
  | false => exact decide_eq_false fun h2 => by rw [(cb_neg _ _).1 h2] at h; cases h
theorem swoI : SWO (ltOf cfI) where
  irrefl x := by rw [ltI]; exact lessS_irrefl _
  trans x y z h1 h2 := by rw [ltI] at *; exact lessS_trans h1 h2
  ntrans x y z h1 h2 := by
    rw [ltI] at *
    cases h : lessS x.p z.p with
    | false => rfl
    | true =>
      rcases lessS_total x.p y.p with h3 | h3 | h3
      · rw [h1] at h3; cases h3
      · rw [h3, h2] at h; cases h
      · rw [lessS_trans h3 h] at h2; cases h2

/-- In order by path, each path once. -/
def Rise (l : List ItD) : Prop := l.Pairwise fun x y => lessS x.p y.p = true
theorem rise_unique : ∀ {l m : List ItD}, Rise l → Rise m → (∀ x, x ∈ l ↔ x ∈ m) → l = m
  | [], [], _, _, _ => rfl
  | [], y :: m, _, _, h => absurd ((h y).2 (List.mem_cons_self ..)) (by simp)
  | x :: l, [], _, _, h => absurd ((h x).1 (List.mem_cons_self ..)) (by simp)
  | x :: l, y :: m, h1, h2, h => by
    have h1' := List.pairwise_cons.1 h1
    have h2' := List.pairwise_cons.1 h2
    have hxy : x = y := by
      rcases List.mem_cons.1 ((h x).1 (List.mem_cons_self ..)) with e | e
      · exact e
      · rcases List.mem_cons.1 ((h y).2 (List.mem_cons_self ..)) with e2 | e2
        · exact e2.symm
        · have a := h2'.1 x e
          have b := h1'.1 y e2
          exact absurd rfl (lessS_ne (lessS_trans a b))
    subst hxy
    congr 1
    refine rise_unique h1'.2 h2'.2 fun z => ⟨fun hz => ?_, fun hz => ?_⟩
    · rcases List.mem_cons.1 ((h z).1 (List.mem_cons_of_mem _ hz)) with e | e
      · exact absurd (by rw [e]) (lessS_ne (h1'.1 z hz))
      · exact e
    · rcases List.mem_cons.1 ((h z).2 (List.mem_cons_of_mem _ hz)) with e | e
      · exact absurd (by rw [e]) (lessS_ne (h2'.1 z hz))
      · exact e
instance : Inhabited ItD := ⟨zeroI⟩

/-! ### The row behind the sort -/
theorem flat_toList (d : Array ItD) : (flatK encI 4 d).toList = d.toList.flatMap encI := by
  apply List.ext_getElem?
  intro t
  by_cases ht : t < d.size * 4
  · have hi : t / 4 < d.toList.length := by rw [Array.length_toList]; omega
    have hj : t % 4 < 4 := Nat.mod_lt _ (by omega)
    have e := flat_get encI_len d.toList (t / 4) hi (t % 4) hj
    rw [show t / 4 * 4 + t % 4 = t by omega] at e
    rw [e]
    have hs : t < (flatK encI 4 d).toList.length := by rw [Array.length_toList, size_flatK]; exact ht
    have hs2 : t < (flatK encI 4 d).size := by rw [size_flatK]; exact ht
    have g := get_flatK encI 4 d t ht
    rw [getElem!_pos _ t hs2] at g
    rw [List.getElem?_eq_getElem hs, Array.getElem_toList, g]
    have hd : d[t / 4]! = d.toList[t / 4] := by rw [getElem!_pos _ (t / 4) (by simpa using hi)]; simp
    rw [hd]
    have hl : t % 4 < (encI d.toList[t / 4]).length := by rw [encI_len]; exact hj
    rw [List.getElem?_eq_getElem hl, getElem!_pos _ (t % 4) hl]
  · rw [List.getElem?_eq_none (by rw [Array.length_toList, size_flatK]; omega), List.getElem?_eq_none (by rw [flat_len_c encI_len, Array.length_toList]; omega)]
theorem holds_own {w : World} {g : Nat} {cur : Array Value} {e : TypeId} {l : List ItD} (hb : w.heap[g]? = some (.cells cur e (0, 0))) (ht : cur.toList.take (l.length * 4) = l.flatMap encI) : HoldsK encI 4 w g 0 l.toArray := by
  have hf := flat_toList l.toArray
  intro j hj
  rw [size_flatK] at hj
  have hj' : j < l.length * 4 := by simpa using hj
  refine ⟨?_, by simp [World.frozen?, hb]⟩
  have h1 : (cur.toList.take (l.length * 4))[j]? = (flatK encI 4 l.toArray).toList[j]? := by rw [ht, hf]
  rw [List.getElem?_take_of_lt hj'] at h1
  simp only [World.cell?, hb, Nat.zero_add]
  simp only [Option.isSome_none, Bool.false_eq_true, if_false]
  have hs : j < (flatK encI 4 l.toArray).size := by rw [size_flatK]; exact hj
  rw [← Array.getElem?_toList, h1, Array.getElem?_toList, Array.getElem?_eq_getElem hs, getElem!_pos _ j hs]
  rfl
theorem heap_sortK {w : World} {g n : Nat} {os : Array Obj} {cur : Array Value} {e : TypeId} (d : Array ItD) (hb : w.heap[g]? = some (.cells cur e (0, 0))) :
    (sortWorldK encI 4 w g 0 n d os).heap[g]? = some (.cells (Go.Sort.putCells id 0 (flatK encI 4 d) cur) e (0, 0)) := by
  have hg : g < w.heap.size := (Array.getElem?_eq_some_iff.1 hb).1
  unfold sortWorldK
  rw [heap_grow_old _ _ (by show g < (putRow id (Sort.ahead w n) g 0 (flatK encI 4 d)).heap.size; rw [size_putRow]; exact hg)]
  simp [putRowK, putRow, mapBlock, Sort.ahead, Array.getElem?_modify, hb, onCells]
theorem grown_sortK {w : World} {g n : Nat} {os : Array Obj} (d : Array ItD) : w.grownBy (sortWorldK encI 4 w g 0 n d os) (some g) := by
  unfold sortWorldK
  refine ⟨rfl, rfl, rfl, by show w.heap.size ≤ (grow (putRow id (Sort.ahead w n) g 0 (flatK encI 4 d)) os).heap.size; rw [size_grow, size_putRow]; exact Nat.le_add_right _ _, fun k hk hne => ?_⟩
  rw [heap_grow_old _ _ (by show k < (putRow id (Sort.ahead w n) g 0 (flatK encI 4 d)).heap.size; rw [size_putRow]; exact hk)]
  have : g ≠ k := fun e => hne (by rw [e])
  simp [putRowK, putRow, mapBlock, Sort.ahead, Array.getElem?_modify, this]
theorem take_putK (cur F : Array Value) (h : F.size ≤ cur.size) : (Go.Sort.putCells id 0 F cur).toList.take F.size = F.toList := by
  apply List.ext_getElem?
  intro j
  by_cases hj : j < F.size
  · rw [List.getElem?_take_of_lt hj, Array.getElem?_toList]
    simp [Go.Sort.putCells, hj, show j < cur.size by omega]
  · rw [List.getElem?_take_eq_none (by omega), List.getElem?_eq_none (by simp; omega)]
theorem own_sortK {w : World} {base g cap n : Nat} {os : Array Obj} {cur : Array Value} {e : TypeId} {l : List ItD} (d : Array ItD) (hl : d.size = l.length) (hbase : base ≤ g) (hb : w.heap[g]? = some (.cells cur e (0, 0)))
    (h1 : l.length ≤ cap) (h2 : cap ≤ maxLen) (h3 : cur.size = cap * 4) :
    (sortWorldK encI 4 w g 0 n d os).ownsRow base e 4 (.slice (some ⟨g, 0, none⟩) l.length cap) l.length (d.toList.flatMap encI) := by
  have hfs : (flatK encI 4 d).size = l.length * 4 := by rw [size_flatK, hl]
  refine ⟨by rw [flat_len_c encI_len, Array.length_toList, hl], .inr ⟨g, cap, _, rfl, hbase, heap_sortK d hb, h1, h2, by simp [Go.Sort.putCells, h3], ?_⟩⟩
  rw [← hfs, take_putK cur _ (by rw [hfs, h3]; exact Nat.mul_le_mul_right _ h1), flat_toList]
/-- What is sorted and has each path once is in order. -/
theorem rise_of {d d' : Array ItD} (hp : PermIn 0 d.size d d') (hs : SortedIn (ltOf cfI) 0 d.size d') (hn : d.toList.Pairwise fun x y => x.p ≠ y.p) : d'.toList.Perm d.toList ∧ Rise d'.toList := by
  obtain ⟨h1, _, h3⟩ := hp
  have hperm : d'.toList.Perm d.toList := by
    have e1 : d'.extract 0 d.size = d' := by rw [← h1]; simp
    have e2 : d.extract 0 d.size = d := by simp
    rwa [e1, e2] at h3
  refine ⟨hperm, ?_⟩
  have hn' : d'.toList.Pairwise fun x y => x.p ≠ y.p := (hperm.pairwise_iff (fun h e => h e.symm)).2 hn
  unfold Rise
  rw [List.pairwise_iff_getElem] at hn' ⊢
  intro i j hi hj hij
  have hi' : i < d'.size := by simpa using hi
  have hj' : j < d'.size := by simpa using hj
  have h := hs i j (Nat.zero_le _) hij (by omega)
  rw [ltI, getElem!_pos _ i hi', getElem!_pos _ j hj'] at h
  simp only [Array.getElem_toList]
  rcases lessS_total d'[i].p d'[j].p with h4 | h4 | h4
  · exact h4
  · have := hn' i j hi hj hij
    simp only [Array.getElem_toList] at this
    exact absurd h4 this
  · rw [h] at h4; cases h4

set_option maxRecDepth 20000 in
theorem cmpT (x y : ItD) (W : World) : Calls Try.prog 48 #[.agg #[.string x.p, .int .i64 x.k, .string x.d, .int .i64 x.t], .agg #[.string y.p, .int .i64 y.k, .string y.d, .int .i64 y.t]] W fun e w' => e = .returned (.int .i64 (cfI x y)) ∧ ∃ q os', w' = grow (W.drewN q) os' := by
  have hcon := fun W' => Try.strings_Compare x.p y.p W'
  have HC : Hid (cfI x y = Lib.compareBytes x.p.data.toList y.p.data.toList) := rfl
  generalize Lib.compareBytes x.p.data.toList y.p.data.toList = r at hcon HC
  go_enter Try.func48, Try.ntmps48
  go_wp2_with (go_at_call 49; refine (hcon _).mono ?_; rintro e w' ⟨rfl, rfl⟩)
  go_ret
  exact ⟨by rw [HC.out]; rfl, 0, _, by rw [alloc_eq_grow, alloc_eq_grow, grow_grow]; rfl⟩
theorem cmpTLays (blk off size : Nat) (w : World) : CmpLays Try.prog 48 #[] encI 4 cfI blk off size w :=
  fun _ _ _ _ x y => cmpT x y _
set_option maxRecDepth 20000 in
/-- slices.SortFunc: the same slice owns the items in order. -/
theorem sortIt (base : Nat) (v : Value) (l : List ItD) (w : World) (hn : l.Pairwise fun x y => x.p ≠ y.p) (hl : l.length ≤ 4194304) (ho : w.ownsRow base 34 4 v l.length (l.flatMap encI)) :
    Calls Try.prog 47 #[v, .func (.func 48) #[] #[]] w fun e w' => e = .returned (.tuple #[]) ∧ ∃ l', l'.Perm l ∧ Rise l' ∧ w'.ownsRow base 34 4 v l'.length (l'.flatMap encI) ∧ Only (blk v) w w' := by
  rcases ho.2 with ⟨rfl, h0⟩ | ⟨g, cap, cur, rfl, hbase, hb, h1, h2, h3, h4⟩
  · have hz : l = [] := List.eq_nil_of_length_eq_zero h0
    subst hz
    refine (AnyF.slices_SortFunc_none Try.sortIt none 0 _ w).mono ?_
    rintro e w' ⟨rfl, rfl⟩
    exact ⟨rfl, [], List.Perm.refl _, List.Pairwise.nil, ho, Only.refl _ _⟩
  · have eg : ∀ args w, (callFunc 48 args).run Try.prog w = .ok (.enter 48 args) w := enters_of Try.func48 (by kernel_rfl) rfl
    have hH := holds_own hb h4
    have hsz : l.toArray.size < 4611686018427387904 := by simp; omega
    refine (AnyQ.slices_SortFunc Try.sortIt 4 Try.isAgg34 Try.sizeOf34 encI (fun _ => rfl) (fun x u hu => by simp [encI] at hu; rcases hu with rfl | rfl | rfl | rfl <;> rfl) cfI swoI 48 #[] g 0 cap l.toArray w eg (cmpTLays g 0 _ w) hH (Array.getElem?_eq_some_iff.1 hb).1 hsz).mono ?_
    rintro e w' ⟨rfl, d', n, os, hp, hs, rfl⟩
    obtain ⟨hp2, hr⟩ := rise_of hp hs (by simpa using hn)
    have hls : d'.size = l.length := by rw [hp.1]; simp
    refine ⟨rfl, d'.toList, by simpa using hp2, hr, ?_, Only.of_grown (grown_sortK d')⟩
    have := own_sortK (n := n) (os := os) d' hls hbase hb h1 h2 h3
    rwa [show d'.toList.length = l.length by rw [Array.length_toList, hls]]
end Go.Proofs.Ytmnngfaelanbcaa
