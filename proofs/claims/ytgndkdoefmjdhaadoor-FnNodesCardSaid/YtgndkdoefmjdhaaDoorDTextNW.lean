/-
  Own text: the nodes and the texts that FnNodes draws.
-/
import Derived.Test.YtgndkdoefmjdhaaDoorDBentNW
import Derived.Lib.JoinLaws
namespace Go.Proofs.YtgndkdoefmjdhaaDoor
open Go.RowKit

set_option maxRecDepth 20000 in
set_option maxHeartbeats 1000000 in
theorem drawNT (x : Option Addr) (cap : Nat) (l : List Int) (w : World) (hl : l.length ≤ 1048576) (hu : U8 l) (hr : Rd .u8 w x l) :
    Calls Tryd.prog 6 #[.slice x l.length cap] w fun e w' => ∃ v n, e = .returned v ∧ OwnN w' w.heap.size v n ∧ n.b.length ≤ 6 ∧ Below w.heap.size w w' := by
  have HR : Hid (Rd .u8 (w.alloc (.cells zeroC 26)) x l) := hr.below (below1 w _) (Nat.le_refl _)
  have HU : Hid (U8 l) := hu
  clear hr hu
  go_enter Tryd.func6, Tryd.ntmps6
  go_wp2_with fail
  refine (newD x cap l _ hl HU.out HR.out).mono ?_
  rintro e w1 ⟨P, rfl, hP, hd1, hb1⟩
  have hPw : w.heap.size + 1 ≤ P := by simpa using hP
  have hR1 : Var w1 w.heap.size zeroC 26 := (Var.made w _ _).new hb1
  have hB1 : Below w.heap.size w w1 := (below1 w _).trans (hb1.mono (by simp))
  have HD1 : Hid (Drw w1 P x cap l) := hd1
  clear hd1 hb1 hP
  go_wp2_with fail
  refine (drawN P x cap l _ HD1.out).mono ?_
  rintro e w2 ⟨v, n, rfl, ho, hn, _, hon⟩
  obtain ⟨a, c, rfl⟩ := ho.lay
  have hR2 := hR1.onlyP hon (by omega)
  have hB2 : Below w.heap.size w w2 := hB1.trans (hon.belowB hB1.size (by omega))
  obtain ⟨hR9, r0, r1, r2, r3, r4, q0, q1, q2, q3, q4⟩ := hR2.five (.int .i64 n.k) (.int .i64 n.g) (.int .i64 n.t) (.int .i64 n.s) (.slice a n.b.length c)
  have HR9 : Hid _ := hR9
  have HB9 : Hid _ := below_five hB2 (Nat.le_refl _) (.int .i64 n.k) (.int .i64 n.g) (.int .i64 n.t) (.int .i64 n.s) (.slice a n.b.length c)
  have HN : Hid (n.b.length ≤ 6) := hn
  have hs1 := hR1.lt
  have HO9 : Hid (OwnN (five w2 w.heap.size (.int .i64 n.k) (.int .i64 n.g) (.int .i64 n.t) (.int .i64 n.s) (.slice a n.b.length c)) w.heap.size (.agg #[.int .i64 n.k, .int .i64 n.g, .int .i64 n.t, .int .i64 n.s, .slice a n.b.length c]) n) := by
    obtain ⟨u, hu, ho2⟩ := ho
    exact ⟨u, hu, ownsRow_base (own_five ho2 hs1 _ _ _ _ _) (by omega)⟩
  clear hR9 hR2 hB2 ho hn hon hR1 hB1
  go_wp2
  refine bodyPost_ret (results_cell_row rfl _ _ w.heap.size 26 #[.int .i64 n.k, .int .i64 n.g, .int .i64 n.t, .int .i64 n.s, .slice a n.b.length c] (0, 0) _ rfl HR9.out Tryd.underlying26 rfl Tryd.sizeNode) rfl ?_
  first
    | exact ⟨_, rfl, _, HO9.out, HN.out, HB9.out⟩
    | exact ⟨_, _, rfl, HO9.out, HN.out, HB9.out⟩

/-- The row of bytes of a text, whole: all its places are there and may be written. -/
def RowB (W : World) (g : Nat) (s : ByteArray) (cap : Nat) : Prop := W.heap[g]? = some (.cells (bytesRow s cap) 5 ((bytesRow s cap).size, (bytesRow s cap).size + 1))
theorem bytesRow_size (s : ByteArray) (cap : Nat) (h : s.size ≤ cap) : (bytesRow s cap).size = cap := by
  unfold bytesRow
  simp
  have : s.data.size = s.size := rfl
  omega
theorem RowB.lt {W : World} {g : Nat} {s : ByteArray} {cap : Nat} (h : RowB W g s cap) : g < W.heap.size := (Array.getElem?_eq_some_iff.1 h).1
theorem RowB.there {W : World} {g : Nat} {s : ByteArray} {cap : Nat} (h : RowB W g s cap) (hc : s.size ≤ cap) (j : Nat) (hj : j < cap) : (∃ u, W.cell? ⟨g, j, none⟩ = some u) ∧ W.frozen? ⟨g, j, none⟩ = false := by
  have hs := bytesRow_size s cap hc
  have h' : W.heap[g]? = some (.cells (bytesRow s cap) 5 ((bytesRow s cap).size, (bytesRow s cap).size + 1)) := h
  refine ⟨?_, ?_⟩
  · rw [cell_of_row W g j _ _ _ h]
    exact ⟨_, Array.getElem?_eq_getElem (by omega)⟩
  · simp [World.frozen?, h', hs]
    omega
theorem RowB.rd {W : World} {g : Nat} {s : ByteArray} {cap : Nat} (h : RowB W g s cap) : ∀ i, i < (bytesOf s).length → W.cell? ⟨g, 0 + i, none⟩ = some (.int .u8 ((bytesOf s).getD i 0)) := by
  intro i hi
  rw [bytesOf_len] at hi
  have hj : i < s.data.size := hi
  rw [Nat.zero_add, cell_of_row W g i _ _ _ h, bytesRow_at s cap i hj]
  simp [bytesOf, List.getD, Array.getElem?_eq_getElem hj]
theorem RowB.onlyP {P : Nat} {W W' : World} {g : Nat} {s : ByteArray} {cap : Nat} (h : RowB W g s cap) (ho : OnlyP P W W') (hne : g ≠ P) : RowB W' g s cap := by
  show W'.heap[g]? = _
  rw [ho.block g h.lt hne]
  exact h
theorem RowB.new {W W' : World} {g : Nat} {s : ByteArray} {cap : Nat} (h : RowB W g s cap) (hb : Below W.heap.size W W') : RowB W' g s cap := by
  show W'.heap[g]? = _
  rw [hb.block g h.lt]
  exact h
theorem bytes_rowF (s : ByteArray) (w : World) (hs : s.size ≤ 1048576) : ∃ cap W, (convert 9 22 (.string s)).run Tryd.prog w = .ok (.slice (some ⟨w.heap.size, 0, none⟩) s.size cap) W ∧ RowB W w.heap.size s cap ∧ Below w.heap.size w W ∧ s.size ≤ cap ∧ cap ≤ maxLen := by
  have hcv := run_bytes_of_string (P := Tryd.prog) w 9 22 5 s Tryd.underlying9 Tryd.underlying22 Tryd.underlying5
  have hge := grownCap_ge w s.size 0 5
  have hle := grownCap_le_maxLen w s.size 0 5 (by unfold maxLen; omega)
  generalize hcap : grownCap w s.size 0 5 = cap at hcv hge hle
  generalize hW : w.drew.alloc (.cells (bytesRow s cap) 5 ((bytesRow s cap).size, (bytesRow s cap).size + 1)) = W at hcv
  exact ⟨cap, W, hcv, by rw [← hW]; exact heap_alloc_new w.drew _, by rw [← hW]; exact (Below.refl _ _).drew.alloc (Nat.le_refl _) _, hge, hle⟩
/-- Bytes that lie in a row, turned into a text: some text as long. -/
theorem conv_some {W : World} {b off cap n : Nat} (h : ∀ i, i < n → ∃ x : UInt8, W.cell? ⟨b, off + i, none⟩ = some (.int .u8 x.toNat)) : ∃ s : ByteArray, s.size = n ∧ (convert 22 9 (.slice (some ⟨b, off, none⟩) n cap)).run Tryd.prog W = .ok (.string s) W := by
  obtain ⟨l, hl, hc⟩ : ∃ l : List UInt8, l.length = n ∧ ∀ j (hj : j < l.length), W.cell? ⟨b, off + j, none⟩ = some (.int .u8 l[j].toNat) := by
    clear cap
    induction n with
    | zero => exact ⟨[], rfl, fun j hj => by simp at hj⟩
    | succ n ih =>
      obtain ⟨l, hl, hc⟩ := ih (fun i hi => h i (by omega))
      obtain ⟨x, hx⟩ := h n (by omega)
      refine ⟨l ++ [x], by simp [hl], fun j hj => ?_⟩
      by_cases hjn : j < l.length
      · rw [hc j hjn, List.getElem_append_left hjn]
      · have : j = n := by simp at hj; omega
        subst this
        rw [hx, List.getElem_append_right (by omega)]
        simp [hl]
  subst hl
  exact ⟨⟨l.toArray⟩, by simp [ByteArray.size], run_convert_bytes_back (P := Tryd.prog) W 22 9 5 ⟨b, off, none⟩ cap l Tryd.underlying22 Tryd.underlying5 Tryd.underlying9 (fun j hj => by rw [Go.WideShapes.add_plain]; exact hc j hj)⟩
theorem RowB.byte {W : World} {g : Nat} {s : ByteArray} {cap : Nat} (h : RowB W g s cap) (i : Nat) (hi : i < s.size) : ∃ x : UInt8, W.cell? ⟨g, i, none⟩ = some (.int .u8 x.toNat) := by
  have hj : i < s.data.size := hi
  rw [cell_of_row W g i _ _ _ h, bytesRow_at s cap i hj]
  exact ⟨_, rfl⟩
theorem ndText_size {n : NodeD} (h : NodP n) : 1 ≤ (ndText n).size ∧ (ndText n).size ≤ 41 := by
  unfold ndText
  rw [if_pos (ndOk_yes h)]
  have h1 := ndB_len h
  have h2 : (baOf (ndB n)).size = (ndB n).length := by simp [baOf, ByteArray.size]
  omega
/-- append of one byte where there is room. -/
theorem append_room_one {P : Program} (w : World) {ops : Array Oper} {rest : List Oper} {o : Oper} {a : Act} {Q : Exit → Act → World → Prop}
    (hg : o.guard = none) (s x : Operand) (t tx : TypeId) (hop : o.op = Op.call { callee := Callee.builtin Builtin.append, args := #[s, x], argTypes := #[t, tx] })
    (e : TypeId) (i : TypeInfo) (ht : P.underlying t = some (.slice e)) (hi : P.info? e = some i) (hsz : i.size = 1)
    (b n c : Nat) (hs : a.eval s = .slice (some ⟨b, 0, none⟩) n c) (xv : Value) (hx : a.eval x = xv) (u : Value) (hsrc : Src P 1 tx xv 1 [u] w)
    (hroom : n + 1 ≤ c) (hth : (∃ old, w.cell? ⟨b, n, none⟩ = some old) ∧ w.frozen? ⟨b, n, none⟩ = false)
    (hK : ∀ w', Hid (w' = w.setCell ⟨b, n, none⟩ u) → wpList P ops Q rest (a.put o.dst (.slice (some ⟨b, 0, none⟩) (n + 1) c)) w') : wpList P ops Q (o :: rest) a w := by
  refine wpList_append_room_src w hg s x t tx hop e i ht hi b 0 n c hs xv hx 1 [u] (by rw [hsz]; exact hsrc) hroom (fun j hj => ?_) (fun j hj => ?_) ?_
  · have hj0 : j = 0 := by simpa using hj
    obtain ⟨v, hv⟩ := hth.1
    rw [hj0, hsz, Nat.mul_one, Nat.zero_add, Nat.add_zero, hv]
    rfl
  · have hj0 : j = 0 := by simpa using hj
    rw [hj0, hsz, Nat.mul_one, Nat.zero_add, Nat.add_zero]
    exact hth.2
  · rw [hsz, Nat.mul_one, Nat.zero_add]
    exact hK _ (show _ = _ by simp [World.setCells])

set_option maxRecDepth 20000 in
set_option maxHeartbeats 4000000 in
theorem drawNO (x : Option Addr) (cap : Nat) (l : List Int) (w : World) (hl : l.length ≤ 1048576) (hu : U8 l) (hr : Rd .u8 w x l) :
    Calls Tryd.prog 9 #[.slice x l.length cap] w fun e w' => ∃ s : ByteArray, e = .returned (.string s) ∧ s.size ≤ 1048576 ∧ Below w.heap.size w w' := by
  obtain ⟨i0, hi, hz0, hz1, hz2⟩ := info_parts Tryd.infoU8
  have HR : Hid (Rd .u8 w x l) := hr
  have HU : Hid (U8 l) := hu
  clear hr hu
  go_enter Tryd.func9, Tryd.ntmps9
  go_wp2_with fail
  refine (newD x cap l _ hl HU.out HR.out).mono ?_
  rintro e w1 ⟨P, rfl, hP, hd1, hb1⟩
  have HD1 : Hid (Drw w1 P x cap l) := hd1
  clear hd1 HU HR
  go_wp2_with fail
  refine (rightN P x cap l _ HD1.out).mono ?_
  rintro e w2 ⟨v, n, rfl, ho, hn, hd2, hon2⟩
  have hB2 : Below w.heap.size w w2 := hb1.trans (hon2.belowB hb1.size hP)
  have HD2 : Hid (Drw w2 P x cap l) := hd2
  have h5 := hn.len
  have HNT := ndText_size hn
  have hrd := ho.rd
  obtain ⟨a, c, rfl⟩ := ho.lay
  clear hd2 hon2 HD1 hb1 ho hn
  go_wp2_with fail
  refine (specNodeText _ n _ (by omega) hrd).mono ?_
  rintro e w3 ⟨rfl, hb3⟩
  have hB3 : Below w.heap.size w w3 := hB2.trans (hb3.mono hB2.size)
  have HD3 : Hid (Drw w3 P x cap l) := HD2.out.far hb3 HD2.out.lt
  generalize ndText n = T at *
  obtain ⟨t1, t2⟩ := HNT
  obtain ⟨bc, W4, hcv, hrow, hb4, hbc, hbm⟩ := bytes_rowF T w3 (by omega)
  obtain ⟨g, hg⟩ : ∃ g, w3.heap.size = g := ⟨_, rfl⟩
  rw [hg] at hcv hrow
  have HB4 : Hid (Below w.heap.size w W4) := hB3.trans (hb4.mono hB3.size)
  have HD4 : Hid (Drw W4 P x cap l) := HD3.out.far hb4 HD3.out.lt
  have hPg : P < g := by have := HD3.out.lt; omega
  have HRW : Hid (RowB W4 g T bc) := hrow
  have hgw : w.heap.size ≤ g := by have := hB3.size; omega
  clear HD2 HD3 hb3 hB2 hB3 hrd hrow hb4 hg
  go_wp2_with fail
  refine (belowO P x cap l 6 _ HD4.out (by omega) (by omega)).mono ?_
  rintro e w5 ⟨r, rfl, hr6, hd5, hon5⟩
  have HR5 : Hid (RowB w5 g T bc) := HRW.out.onlyP hon5 (by omega)
  have HB5 : Hid (Below w.heap.size w w5) := HB4.out.trans (hon5.belowB HB4.out.size hP)
  have HD5 : Hid (Drw w5 P x cap l) := hd5
  clear hd5 hon5 HRW HB4 HD4 hcv
  by_cases h0 : r = 0
  · subst h0
    go_wp2_with fail
    refine (belowO P x cap l (T.size + 1) _ HD5.out (by omega) (by omega)).mono ?_
    rintro e w6 ⟨m, rfl, hm, hd6, hon6⟩
    have HB6 : Hid (Below w.heap.size w w6) := HB5.out.trans (hon6.belowB HB5.out.size hP)
    have hrow6 := HR5.out.onlyP hon6 (by omega)
    obtain ⟨s, hs1, hcv⟩ := conv_some (W := w6) (b := g) (off := 0) (cap := bc) (n := m) (fun i hi => by rw [Nat.zero_add]; exact hrow6.byte i (by omega))
    have HS : Hid (s.size ≤ 1048576) := by show _ ≤ _; omega
    have hmc : (m : Int) ≤ (bc : Int) := by omega
    have hbc0 : ¬ bc = 0 := by omega
    clear hd6 hon6 hrow6 HD5 HR5 HB5 hs1
    go_wp2
    go_ret
    exact ⟨s, rfl, HS.out, HB6.out⟩
  by_cases h1 : r = 1
  · subst h1
    go_wp2_with fail
    refine (belowO P x cap l 3 _ HD5.out (by omega) (by omega)).mono ?_
    rintro e w6 ⟨m, rfl, hm, hd6, hon6⟩
    have HB6 : Hid (Below w.heap.size w w6) := HB5.out.trans (hon6.belowB HB5.out.size hP)
    have HR6 : Hid (RowB w6 g T bc) := HR5.out.onlyP hon6 (by omega)
    obtain ⟨y, hy⟩ : ∃ y : UInt8, (m : Int) = (y.toNat : Int) := ⟨UInt8.ofNat m, by rw [UInt8.toNat_ofNat']; omega⟩
    rw [hy]
    have hwu : IntKind.u8.wrap (y.toNat : Int) = (y.toNat : Int) := by rw [← hy, IntKind.wrap_u8]; omega
    have HRA : Hid (RowB (w6.alloc (.cells #[.int .u8 (y.toNat : Int)] 5)) g T bc) := HR6.out.new (below1 _ _)
    have HBA : Hid (Below w.heap.size w (w6.alloc (.cells #[.int .u8 (y.toNat : Int)] 5))) := HB6.out.alloc HB6.out.size _
    have HS6 : Hid (Src Tryd.prog 1 22 (.slice (some ⟨w6.heap.size, 0, none⟩) 1 1) 1 [.int .u8 (y.toNat : Int)] (w6.alloc (.cells #[.int .u8 (y.toNat : Int)] 5))) := src_oneI Tryd.underlying22 w6 _ rfl
    have HV6 : Hid ((w6.alloc (.cells #[.int .u8 (y.toNat : Int)] 5)).cell? ⟨w6.heap.size, 0, none⟩ = some (.int .u8 (y.toNat : Int))) := (Var.made w6 _ _).cell 0
    clear hd6 hon6 HD5 HR5 HB5 HB6 HR6 hy hm
    by_cases hroom : T.size + 1 ≤ bc
    · have hth := HRA.out.there hbc T.size (by omega)
      have HTH : Hid ((∃ old, (w6.alloc (.cells #[.int .u8 (y.toNat : Int)] 5)).cell? ⟨g, T.size, none⟩ = some old) ∧ (w6.alloc (.cells #[.int .u8 (y.toNat : Int)] 5)).frozen? ⟨g, T.size, none⟩ = false) := hth
      clear hth
      go_wp2_with (at_builtin; refine append_room_one _ rfl (.tmp 24) (.tmp 28) 22 22 rfl 5 i0 Tryd.underlying22 hi hz1 g T.size bc rfl _ rfl (.int .u8 (y.toNat : Int)) HS6.out hroom HTH.out ?_)
      intro W8 HW8
      have hW8 := HW8.out
      clear HW8
      obtain ⟨⟨old, hold⟩, hfz⟩ := HTH.out
      obtain ⟨s, hs1, hcv⟩ := conv_some (W := W8) (b := g) (off := 0) (cap := bc) (n := T.size + 1) (fun i hi => by
        rw [Nat.zero_add, hW8]
        by_cases him : i = T.size
        · subst him
          exact ⟨y, World.cell?_setCell_same _ _ _ hold⟩
        · obtain ⟨z, hz⟩ := HRA.out.byte i (by omega)
          refine ⟨z, ?_⟩
          rw [← hz]
          exact World.cell?_setCell_other _ _ _ _ (fun h => him (by injection h with _ h2 _; omega)))
      have HS : Hid (s.size ≤ 1048576) := by show _ ≤ _; omega
      have HB8 : Hid (Below w.heap.size w W8) := by rw [hW8]; exact HBA.out.setCell (p := ⟨g, T.size, none⟩) hgw _
      clear HRA HBA HS6 HV6 hs1 HTH hold hfz hW8
      go_wp2
      go_ret
      exact ⟨s, rfl, HS.out, HB8.out⟩
    · have hbl : (bytesOf T).length = T.size := bytesOf_len T
      have HOL : Hid (∀ b, some (⟨g, 0, none⟩ : Addr) = some b → ∀ j u, ((bytesOf T).map (Value.int .u8))[j]? = some u → (w6.alloc (.cells #[.int .u8 (y.toNat : Int)] 5)).cell? (b.add j) = some u) := by
        intro b hb j u hj
        cases hb
        have hjl : j < (bytesOf T).length := by
          rcases Nat.lt_or_ge j (bytesOf T).length with h | h
          · exact h
          · rw [List.getElem?_eq_none (by simpa using h)] at hj; cases hj
        rw [Go.WideShapes.add_plain, HRA.out.rd j hjl]
        rw [List.getElem?_map, List.getElem?_eq_getElem hjl] at hj
        simp [List.getD, hjl] at hj ⊢
        exact hj
      have HNL : Hid (∀ j u, [Value.int .u8 (y.toNat : Int)][j]? = some u → (w6.alloc (.cells #[.int .u8 (y.toNat : Int)] 5)).cell? ((⟨w6.heap.size, 0, none⟩ : Addr).add j) = some u) := by
        intro j u hj
        match j, hj with
        | 0, hj => simp at hj; subst hj; rw [Go.WideShapes.add_plain]; exact HV6.out
      go_wp2_with (at_builtin; refine wpList_append_grows _ rfl (.tmp 24) (.tmp 28) 22 rfl 5 i0 (.int .u8 0) 1 1 Tryd.underlying22 hi hz0 hz1 hz2 rfl (by decide) (some ⟨g, 0, none⟩) T.size bc ((bytesOf T).map (Value.int .u8)) rfl (by intro h; cases h) (by rw [List.length_map, hbl, Nat.mul_one]) HOL.out ⟨w6.heap.size, 0, none⟩ 1 1 [.int .u8 (y.toNat : Int)] rfl rfl HNL.out (fun u hu => by simp at hu; subst hu; rfl) (by omega) (by unfold maxLen; omega) (by omega) ?_)
      intro v8 w8 ho8 hg8
      have HB8 : Hid (Below w.heap.size w w8) := HBA.out.grown hg8 HBA.out.size (fun k hk => by cases hk)
      have ho9 : w8.ownsRow (w6.heap.size + 1) 5 1 v8 (bytesOf T ++ [(y.toNat : Int)]).length ((bytesOf T ++ [(y.toNat : Int)]).map (Value.int .u8)) := by
        rw [List.length_append, List.map_append, hbl]
        exact ho8
      have hu9 : U8 (bytesOf T ++ [(y.toNat : Int)]) := by
        intro z hz
        rcases List.mem_append.1 hz with h | h
        · exact bytesOf_u8 T z h
        · simp at h; have := y.toNat_lt; omega
      have hcv := conv_row hu9 (by simp) ho9
      have HS : Hid ((baOf (bytesOf T ++ [(y.toNat : Int)])).size ≤ 1048576) := by
        show _ ≤ _
        have : (baOf (bytesOf T ++ [(y.toNat : Int)])).size = (bytesOf T ++ [(y.toNat : Int)]).length := by simp [baOf, ByteArray.size]
        rw [this, List.length_append, hbl]
        simp; omega
      obtain ⟨a9, c9, hv9, _, _⟩ := own_rd ho9
      subst hv9
      generalize baOf (bytesOf T ++ [(y.toNat : Int)]) = s at *
      clear HRA HBA HS6 HV6 HOL HNL ho8 ho9 hg8 hu9
      generalize (bytesOf T ++ [(y.toNat : Int)]).length = LL at *
      go_wp2
      go_ret
      exact ⟨s, rfl, HS.out, HB8.out⟩
  by_cases h2 : r = 2
  · subst h2
    go_wp2_with fail
    refine (belowO P x cap l T.size _ HD5.out (by omega) (by omega)).mono ?_
    rintro e w6 ⟨m, rfl, hm, hd6, hon6⟩
    have HB6 : Hid (Below w.heap.size w w6) := HB5.out.trans (hon6.belowB HB5.out.size hP)
    have HR6 : Hid (RowB w6 g T bc) := HR5.out.onlyP hon6 (by omega)
    have HD6 : Hid (Drw w6 P x cap l) := hd6
    clear hd6 hon6 HD5 HR5 HB5
    go_wp2_with fail
    refine (byteO P x cap l _ HD6.out).mono ?_
    rintro e w7 ⟨q, rfl, hq, hd7, hon7⟩
    have HB7 : Hid (Below w.heap.size w w7) := HB6.out.trans (hon7.belowB HB6.out.size hP)
    have HR7 : Hid (RowB w7 g T bc) := HR6.out.onlyP hon7 (by omega)
    obtain ⟨y, hy⟩ : ∃ y : UInt8, (q : Int) = (y.toNat : Int) := ⟨UInt8.ofNat q, by rw [UInt8.toNat_ofNat']; omega⟩
    rw [hy]
    have hwu : IntKind.u8.wrap (y.toNat : Int) = (y.toNat : Int) := by rw [← hy, IntKind.wrap_u8]; omega
    obtain ⟨⟨old, hold⟩, hfz⟩ := HR7.out.there hbc m (by omega)
    have hm2 : (m : Int) < (T.size : Int) := by omega
    obtain ⟨s, hs1, hcv⟩ := conv_some (W := w7.setCell ⟨g, m, none⟩ (.int .u8 (y.toNat : Int))) (b := g) (off := 0) (cap := bc) (n := T.size) (fun i hi => by
      rw [Nat.zero_add]
      by_cases him : i = m
      · subst him
        exact ⟨y, World.cell?_setCell_same _ _ _ hold⟩
      · obtain ⟨z, hz⟩ := HR7.out.byte i hi
        refine ⟨z, ?_⟩
        rw [← hz]
        exact World.cell?_setCell_other _ _ _ _ (fun h => him (by injection h with _ h2 _; omega)))
    have HS : Hid (s.size ≤ 1048576) := by show _ ≤ _; omega
    have HB8 : Hid (Below w.heap.size w (w7.setCell ⟨g, m, none⟩ (.int .u8 (y.toNat : Int)))) := HB7.out.setCell (p := ⟨g, m, none⟩) hgw _
    clear hd7 hon7 HD6 HR6 HB6 HR7 HB7 hy hq hs1
    go_wp2
    go_ret
    exact ⟨s, rfl, HS.out, HB8.out⟩
  have e0 : ((r : Int) == 0) = false := by rw [beq_eq_false_iff_ne]; omega
  have e1 : ((r : Int) == 1) = false := by rw [beq_eq_false_iff_ne]; omega
  have e2 : ((r : Int) == 2) = false := by rw [beq_eq_false_iff_ne]; omega
  obtain ⟨s, hs1, hcv⟩ := conv_some (W := w5) (b := g) (off := 0) (cap := bc) (n := T.size) (fun i hi => by rw [Nat.zero_add]; exact HR5.out.byte i hi)
  have HS : Hid (s.size ≤ 1048576) := by show _ ≤ _; omega
  clear HD5 HR5 hs1
  go_wp2
  go_ret
  exact ⟨s, rfl, HS.out, HB5.out⟩
end Go.Proofs.YtgndkdoefmjdhaaDoor
