/-
  Own text: a write, as the other program takes it.
-/
import Derived.Test.YtlidmnehpcodkaaSSameW
import Derived.Test.YtlidmnehpcodkaaCopyD
import Derived.Laws.ResultCell
namespace Go.Proofs.Ytlidmnehpcodkaa
open Go.RowKit

theorem results_row_tmp {P : Program} {fn : Func} {p u : Tmp} {ty : TypeId} (h : fn.results = #[.cell p ty, .tmp u]) (tmps : Array Value) (w : World) (g : Nat) (t : TypeId) (cs : Array Value) (d : TypeDesc)
    (hp : tmps.getD p undef = .pointer (some ⟨g, 0, none⟩)) (hg : Var w g cs t)
    (hu : P.underlying ty = some d) (hd : (match d with | .struct _ | .array _ _ => true | _ => false) = true) (hi : (P.info? ty).map (·.size) = some cs.size) :
    (results fn tmps).run P w = .ok (.tuple #[.agg cs, tmps.getD u undef]) w := by
  rw [results_cell_tmp h, hp]
  simp [asAddr, run_loadVar_row w g t ty cs (0, 0) d hg hu hd hi]

/-- One write, made by itself, as a row. -/
theorem rd_onePut {W : World} {P : Nat} {n : Int} {s : ByteArray} {t : TypeId} (h : Var W P #[.int .i64 n, .string s] t) : RdF encP 2 W (some ⟨P, 0, none⟩) [(n, s)] := by
  refine .inr ⟨P, 0, rfl, h.lt, fun i hi j hj => ?_⟩
  simp at hi
  subst hi
  rw [show 0 + 0 * 2 + j = j by omega, h.cell j]
  match j, hj with
  | 0, _ => rfl
  | 1, _ => rfl
/-- A row is no struct variable of another make. -/
theorem own_var {w : World} {base : Nat} {e : TypeId} {size : Nat} {v : Value} {n : Nat} {xs : List Value} {P : Nat} {C : Array Value} {t : TypeId} (h : w.ownsRow base e size v n xs) (hV : Var w P C t) (hne : e ≠ t) : ¬ v.ownBlock = some P := by
  intro hk
  rcases h.2 with ⟨rfl, _⟩ | ⟨g, cap, cur, rfl, _, hg, _⟩
  · cases hk
  · cases hk
    have hV' : w.heap[g]? = some (.cells C t (0, 0)) := hV
    rw [hg] at hV'
    cases hV'
    exact hne rfl
theorem own_setVar {w : World} {base : Nat} {e : TypeId} {size : Nat} {v : Value} {n : Nat} {xs : List Value} {P : Nat} {C : Array Value} {t : TypeId} (h : w.ownsRow base e size v n xs) (hV : Var w P C t) (hne : e ≠ t) (j : Nat) (u : Value) : (w.setCell ⟨P, j, none⟩ u).ownsRow base e size v n xs :=
  own_only (S := fun k => k = P) h (Only.setCell (S := fun k => k = P) (Only.refl _ _) (p := ⟨P, j, none⟩) rfl u) (fun _ hk e => own_var h hV hne (e ▸ hk))
/-- A disk that is owned, and a struct variable of that make: a store there leaves it. -/
theorem OwnD.setVar {w : World} {lo : Nat} {v : Value} {d : DiskD} {P : Nat} {C : Array Value} (h : OwnD w lo v d) (hV : Var w P C 43) (j : Nat) (u : Value) : OwnD (w.setCell ⟨P, j, none⟩ u) lo v d := by
  obtain ⟨v1, v2, rfl, h1, h2⟩ := h
  exact ⟨v1, v2, rfl, own_setVar h1 hV (by decide) j u, own_setVar h2 hV (by decide) j u⟩

/-- Two cells of a struct variable set. -/
theorem Var.two {w : World} {P : Nat} {x y : Value} {t : TypeId} (h : Var w P #[x, y] t) (u v : Value) : Var ((w.setCell ⟨P, 0, none⟩ u).setCell ⟨P, 1, none⟩ v) P #[u, v] t := (h.set 0 u).set 1 v

def wrD (d : DiskD) (at' : Int) (s : ByteArray) : DiskD := (dkWrite d at' s).getD d
def wrOk (d : DiskD) (at' : Int) (s : ByteArray) : Bool := (dkWrite d at' s).isSome
theorem wr_no {d : DiskD} {at' : Int} {s : ByteArray} (h : ¬ (dkOk d = true ∧ dkOk (d.1, d.2 ++ [(at', s)]) = true)) : wrD d at' s = d ∧ wrOk d at' s = false := by
  unfold wrD wrOk dkWrite
  rw [if_neg h]
  exact ⟨rfl, rfl⟩
theorem wr_yes {d : DiskD} {at' : Int} {s : ByteArray} (h : dkOk d = true ∧ dkOk (d.1, d.2 ++ [(at', s)]) = true) : wrD d at' s = (d.1, d.2 ++ [(at', s)]) ∧ wrOk d at' s = true := by
  unfold wrD wrOk dkWrite
  rw [if_pos h]
  exact ⟨rfl, rfl⟩

set_option maxRecDepth 20000 in
set_option maxHeartbeats 1000000 in
theorem specSectorWrite (v : Value) (d : DiskD) (at' : Int) (s : ByteArray) (w : World) (hl : d.1.length ≤ 4194303 ∧ d.2.length ≤ 4194303) (hr : RdD w v d) :
    Calls Try.prog 53 #[v, .int .i64 at', .string s] w fun e w' => ∃ v', e = .returned (.tuple #[v', .bool (wrOk d at' s)]) ∧ OwnD w' w.heap.size v' (wrD d at' s) ∧ Below w.heap.size w w' := by
  have hrd := hr
  obtain ⟨a, ca, b, cb, rfl, r1, r2⟩ := hr
  obtain ⟨i0, hi, hz0, hz1, hz2⟩ := info_parts Try.infoPut
  have hl1 := hl.1
  have hl2 := hl.2
  have HNO : Hid (¬ (dkOk d = true ∧ dkOk (d.1, d.2 ++ [(at', s)]) = true) → wrD d at' s = d ∧ wrOk d at' s = false) := wr_no
  have HYE : Hid (dkOk d = true ∧ dkOk (d.1, d.2 ++ [(at', s)]) = true → wrD d at' s = (d.1, d.2 ++ [(at', s)]) ∧ wrOk d at' s = true) := wr_yes
  have HCP : Hid (∀ W, Below w.heap.size w W → Calls Try.prog 52 #[.agg #[.slice a d.1.length ca, .slice b d.2.length cb]] W fun e w' => ∃ v', e = .returned v' ∧ OwnD w' W.heap.size v' d ∧ Below W.heap.size W w') :=
    fun W hW => copyD _ d W ⟨by omega, by omega⟩ (hrd.below hW (Nat.le_refl _))
  have HOK : Hid (∀ W, Below w.heap.size w W → Calls Try.prog 76 #[.agg #[.slice a d.1.length ca, .slice b d.2.length cb]] W fun e w' => e = .returned (.bool (dkOk d)) ∧ Below W.heap.size W w') :=
    fun W hW => specDiskOk _ d W ⟨by omega, by omega⟩ (hrd.below hW (Nat.le_refl _))
  clear r1 r2 hrd
  go_enter Try.func53, Try.ntmps53
  go_wp2_with fail
  refine (HCP.out _ (below2 _ _ _)).mono ?_
  rintro e w1 ⟨v1, rfl, ho1, hb1⟩
  obtain ⟨u1, u2, rfl, o1, o2⟩ := ho1
  obtain ⟨a1, c1, rfl, _, _⟩ := own_rdS o1
  obtain ⟨b1, d1, rfl, _, _⟩ := own_rdF encP_len o2 rfl
  have hs0 : ((w.alloc (.cells #[.slice a d.1.length ca, .slice b d.2.length cb] 43)).alloc (.cells #[.slice none 0 0, .slice none 0 0] 43)).heap.size = w.heap.size + 2 := by simp
  have hX1 : Var w1 w.heap.size #[.slice a d.1.length ca, .slice b d.2.length cb] 43 := ((Var.made w _ _).alloc _).new hb1
  have hR1 : Var w1 (w.heap.size + 1) #[.slice none 0 0, .slice none 0 0] 43 := (Var.made2 w _ _ _).new hb1
  have hb01 : Below w.heap.size w w1 := (below2 w _ _).trans (hb1.mono (by simp; omega))
  rw [hs0] at o1 o2
  clear hb1 hs0
  have hlt1 : w.heap.size + 2 ≤ w1.heap.size := hR1.lt
  have hV1 : Var ((w1.alloc (.cells #[.slice a1 d.1.length c1, .slice b1 d.2.length d1] 43)).alloc (.cells #[.int .i64 at', .string s] 59)) w1.heap.size #[.slice a1 d.1.length c1, .slice b1 d.2.length d1] 43 := (Var.made w1 _ _).alloc _
  have hP1 : Var ((w1.alloc (.cells #[.slice a1 d.1.length c1, .slice b1 d.2.length d1] 43)).alloc (.cells #[.int .i64 at', .string s] 59)) (w1.heap.size + 1) #[.int .i64 at', .string s] 59 := Var.made2 w1 _ _ _
  have hX1' := (hX1.alloc (.cells #[.slice a1 d.1.length c1, .slice b1 d.2.length d1] 43)).alloc (.cells #[.int .i64 at', .string s] 59)
  have hR1' := (hR1.alloc (.cells #[.slice a1 d.1.length c1, .slice b1 d.2.length d1] 43)).alloc (.cells #[.int .i64 at', .string s] 59)
  have o1' := (o1.alloc (.cells #[.slice a1 d.1.length c1, .slice b1 d.2.length d1] 43)).alloc (.cells #[.int .i64 at', .string s] 59)
  have o2' := (o2.alloc (.cells #[.slice a1 d.1.length c1, .slice b1 d.2.length d1] 43)).alloc (.cells #[.int .i64 at', .string s] 59)
  have hb01' : Below w.heap.size w ((w1.alloc (.cells #[.slice a1 d.1.length c1, .slice b1 d.2.length d1] 43)).alloc (.cells #[.int .i64 at', .string s] 59)) := (hb01.alloc (by omega) _).alloc (by simp; omega) _
  have hsz1 : w.heap.size + 2 ≤ ((w1.alloc (.cells #[.slice a1 d.1.length c1, .slice b1 d.2.length d1] 43)).alloc (.cells #[.int .i64 at', .string s] 59)).heap.size := by simp; omega
  have hgl : ∀ k, (Value.slice b1 d.2.length d1).ownBlock = some k → w.heap.size + 2 ≤ k ∧ k < w1.heap.size := o2.lt
  have HRB : Hid (RdF encP 2 ((w1.alloc (.cells #[.slice a1 d.1.length c1, .slice b1 d.2.length d1] 43)).alloc (.cells #[.int .i64 at', .string s] 59)) (some ⟨w1.heap.size + 1, 0, none⟩) [(at', s)]) := rd_onePut hP1
  clear hX1 hR1 hP1 o1 o2 hb01
  go_wp2_with (at_builtin; refine wpList_append_own_src _ rfl _ _ 25 25 rfl (w.heap.size + 2) 59 i0 (.agg #[.int .i64 0, .string ⟨#[]⟩]) 2 24 Try.underlying25 hi hz0 hz1 hz2 rfl _ _ _ rfl o2' _ 1 ([(at', s)].flatMap encP) rfl (src_puts 1 HRB.out) ?m1 ?m2 hsz1 ?_)
  case m1 => unfold maxLen; omega
  case m2 => omega
  intro v2 w2 ho2 hg2
  have ho2' : w2.ownsRow (w.heap.size + 2) 59 2 v2 (d.2 ++ [(at', s)]).length ((d.2 ++ [(at', s)]).flatMap encP) := by
    rw [List.flatMap_append, List.length_append]; exact ho2
  have hlen2 : (d.2 ++ [(at', s)]).length ≤ 4194304 := by simp; omega
  have hon2 := Only.of_grown hg2
  have hV2 := hV1.only hon2 (fun h => by have := (hgl _ h).2; omega)
  have hX2 := hX1'.only hon2 (fun h => by have := (hgl _ h).1; omega)
  have hR2 := hR1'.only hon2 (fun h => by have := (hgl _ h).1; omega)
  have o12 := own_only o1' hon2 (own_apart o1' o2' (by decide))
  have hb02 : Below w.heap.size w w2 := hb01'.grown hg2 (by omega) (fun k hk => by have := (hgl k hk).1; omega)
  clear hV1 hX1' hR1' o1' o2' hb01' ho2 hg2 hon2 HRB hsz1
  generalize d.2 ++ [(at', s)] = L at *
  obtain ⟨b2, d2, rfl, _, _⟩ := own_rdF encP_len ho2' rfl
  have hV3 := hV2.set 1 (.slice b2 L.length d2)
  have hX3 := hX2.other (Q := w1.heap.size) (by omega) 1 (.slice b2 L.length d2)
  have hR3 := hR2.other (Q := w1.heap.size) (by omega) 1 (.slice b2 L.length d2)
  have hO2 : OwnD w2 (w.heap.size + 2) (.agg #[.slice a1 d.1.length c1, .slice b2 L.length d2]) (d.1, L) := ⟨_, _, rfl, o12, ho2'⟩
  have hO3 := hO2.setVar hV2 1 (.slice b2 L.length d2)
  have hb03 : Below w.heap.size w (w2.setCell ⟨w1.heap.size, 1, none⟩ (.slice b2 L.length d2)) := hb02.setCell (p := ⟨w1.heap.size, 1, none⟩) (by show _ ≤ w1.heap.size; omega) _
  have hc1 := hV2.cell 1
  have hf1 := hV2.frozen 1
  have hx0 := hX3.cell 0
  have hx1 := hX3.cell 1
  simp at hc1 hx0 hx1
  have HV3 : Hid (Var (w2.setCell ⟨w1.heap.size, 1, none⟩ (.slice b2 L.length d2)) w1.heap.size #[.slice a1 d.1.length c1, .slice b2 L.length d2] 43) := hV3
  clear hV2 hX2 hR2 hb02 o12 ho2' hO2 hV3
  go_wp2_with fail
  clear hc1 hf1 hx0 hx1
  generalize w2.setCell ⟨w1.heap.size, 1, none⟩ (.slice b2 L.length d2) = W3 at *
  refine (HOK.out W3 hb03).mono ?_
  rintro e w4 ⟨rfl, hb4⟩
  have hX4 := hX3.new hb4
  have hR4 := hR3.new hb4
  have hV4 := HV3.out.new hb4
  have hO4 := hO3.below hb4
  have hb04 : Below w.heap.size w w4 := hb03.trans (hb4.mono hb03.size)
  have hx0 := hX4.cell 0
  have hx1 := hX4.cell 1
  have hv0 := hV4.cell 0
  have hv1 := hV4.cell 1
  have hr0 := hR4.cell 0
  have hg0 := hR4.frozen 0
  have hg1 := hR4.frozen 1
  simp at hx0 hx1 hv0 hv1 hr0
  clear hX3 hR3 HV3 hO3 hb03 hb4
  have HX4 : Hid (Var w4 w.heap.size #[.slice a d.1.length ca, .slice b d.2.length cb] 43) := hX4
  have HR4 : Hid (Var w4 (w.heap.size + 1) #[.slice none 0 0, .slice none 0 0] 43) := hR4
  have HV4 : Hid (Var w4 w1.heap.size #[.slice a1 d.1.length c1, .slice b2 L.length d2] 43) := hV4
  have HO4 : Hid (OwnD w4 (w.heap.size + 2) (.agg #[.slice a1 d.1.length c1, .slice b2 L.length d2]) (d.1, L)) := hO4
  have HOut : Hid (Calls Try.prog 76 #[.agg #[.slice a1 d.1.length c1, .slice b2 L.length d2]] w4 fun e w' => e = .returned (.bool (dkOk (d.1, L))) ∧ Below w4.heap.size w4 w') := specDiskOk _ (d.1, L) w4 ⟨by show d.1.length ≤ _; omega, hlen2⟩ hO4.rd
  clear hX4 hR4 hV4 hO4
  cases hok : dkOk d with
  | false =>
    have HF : Hid (wrD d at' s = d ∧ wrOk d at' s = false) := HNO.out (by simp [hok])
    go_wp2_with fail
    refine (HCP.out w4 hb04).mono ?_
    rintro e w9 ⟨v9, rfl, ho9, hb9⟩
    obtain ⟨x9, y9, rfl, ox9, oy9⟩ := ho9
    obtain ⟨a9, c9, rfl, _, _⟩ := own_rdS ox9
    obtain ⟨b9, d9, rfl, _, _⟩ := own_rdF encP_len oy9 rfl
    have hR9 := HR4.out.new hb9
    have hO9 : OwnD w9 w.heap.size (.agg #[.slice a9 d.1.length c9, .slice b9 d.2.length d9]) d := ⟨_, _, rfl, ownsRow_base ox9 hb04.size, ownsRow_base oy9 hb04.size⟩
    have HO10 : Hid (OwnD ((w9.setCell ⟨w.heap.size + 1, 0, none⟩ (.slice a9 d.1.length c9)).setCell ⟨w.heap.size + 1, 1, none⟩ (.slice b9 d.2.length d9)) w.heap.size (.agg #[.slice a9 d.1.length c9, .slice b9 d.2.length d9]) d) := (hO9.setVar hR9 0 _).setVar (hR9.set 0 _) 1 _
    have HR10 : Hid (Var ((w9.setCell ⟨w.heap.size + 1, 0, none⟩ (.slice a9 d.1.length c9)).setCell ⟨w.heap.size + 1, 1, none⟩ (.slice b9 d.2.length d9)) (w.heap.size + 1) #[.slice a9 d.1.length c9, .slice b9 d.2.length d9] 43) := hR9.two _ _
    have hb10 : Below w.heap.size w ((w9.setCell ⟨w.heap.size + 1, 0, none⟩ (.slice a9 d.1.length c9)).setCell ⟨w.heap.size + 1, 1, none⟩ (.slice b9 d.2.length d9)) := ((hb04.trans (hb9.mono hb04.size)).setCell (p := ⟨w.heap.size + 1, 0, none⟩) (by show _ ≤ w.heap.size + 1; omega) _).setCell (p := ⟨w.heap.size + 1, 1, none⟩) (by show _ ≤ w.heap.size + 1; omega) _
    have hq0 := hR9.cell 0
    have hq1 := (hR9.set 0 (.slice a9 d.1.length c9)).cell 1
    have hk0 := hR9.frozen 0
    have hk1 := hR9.frozen 1
    simp at hq0 hq1
    clear hR9 hO9 ox9 oy9 hb9
    go_wp2
    refine bodyPost_ret (results_row_tmp rfl _ _ (w.heap.size + 1) 43 #[.slice a9 d.1.length c9, .slice b9 d.2.length d9] _ rfl HR10.out Try.underlying43 rfl Try.sizeDisk) rfl ?_
    exact ⟨_, by rw [HF.out.2]; rfl, by rw [HF.out.1]; exact HO10.out, hb10⟩
  | true =>
    go_wp2_with fail
    refine HOut.out.mono ?_
    rintro e w5 ⟨rfl, hb5⟩
    have hX5 := HX4.out.new hb5
    have hR5 := HR4.out.new hb5
    have hV5 := HV4.out.new hb5
    have hO5 := HO4.out.below hb5
    have hb05 : Below w.heap.size w w5 := hb04.trans (hb5.mono hb04.size)
    have hy0 := hX5.cell 0
    have hy1 := hX5.cell 1
    have hu0 := hV5.cell 0
    have hu1 := hV5.cell 1
    simp at hy0 hy1 hu0 hu1
    have HR5 : Hid (Var w5 (w.heap.size + 1) #[.slice none 0 0, .slice none 0 0] 43) := hR5
    clear hx0 hx1 hv0 hv1 hr0 hg0 hg1 hb5 hX5 hV5 hR5
    cases hok2 : dkOk (d.1, L) with
    | false =>
      have HF : Hid (wrD d at' s = d ∧ wrOk d at' s = false) := HNO.out (by rw [hok2]; simp)
      go_wp2_with fail
      refine (HCP.out w5 hb05).mono ?_
      rintro e w9 ⟨v9, rfl, ho9, hb9⟩
      obtain ⟨x9, y9, rfl, ox9, oy9⟩ := ho9
      obtain ⟨a9, c9, rfl, _, _⟩ := own_rdS ox9
      obtain ⟨b9, d9, rfl, _, _⟩ := own_rdF encP_len oy9 rfl
      have hR9 := HR5.out.new hb9
      have hO9 : OwnD w9 w.heap.size (.agg #[.slice a9 d.1.length c9, .slice b9 d.2.length d9]) d := ⟨_, _, rfl, ownsRow_base ox9 hb05.size, ownsRow_base oy9 hb05.size⟩
      have HO10 : Hid (OwnD ((w9.setCell ⟨w.heap.size + 1, 0, none⟩ (.slice a9 d.1.length c9)).setCell ⟨w.heap.size + 1, 1, none⟩ (.slice b9 d.2.length d9)) w.heap.size (.agg #[.slice a9 d.1.length c9, .slice b9 d.2.length d9]) d) := (hO9.setVar hR9 0 _).setVar (hR9.set 0 _) 1 _
      have HR10 : Hid (Var ((w9.setCell ⟨w.heap.size + 1, 0, none⟩ (.slice a9 d.1.length c9)).setCell ⟨w.heap.size + 1, 1, none⟩ (.slice b9 d.2.length d9)) (w.heap.size + 1) #[.slice a9 d.1.length c9, .slice b9 d.2.length d9] 43) := hR9.two _ _
      have hb10 : Below w.heap.size w ((w9.setCell ⟨w.heap.size + 1, 0, none⟩ (.slice a9 d.1.length c9)).setCell ⟨w.heap.size + 1, 1, none⟩ (.slice b9 d.2.length d9)) := ((hb05.trans (hb9.mono hb05.size)).setCell (p := ⟨w.heap.size + 1, 0, none⟩) (by show _ ≤ w.heap.size + 1; omega) _).setCell (p := ⟨w.heap.size + 1, 1, none⟩) (by show _ ≤ w.heap.size + 1; omega) _
      have hq0 := hR9.cell 0
      have hq1 := (hR9.set 0 (.slice a9 d.1.length c9)).cell 1
      have hk0 := hR9.frozen 0
      have hk1 := hR9.frozen 1
      simp at hq0 hq1
      clear hR9 hO9 ox9 oy9 hb9
      go_wp2
      refine bodyPost_ret (results_row_tmp rfl _ _ (w.heap.size + 1) 43 #[.slice a9 d.1.length c9, .slice b9 d.2.length d9] _ rfl HR10.out Try.underlying43 rfl Try.sizeDisk) rfl ?_
      exact ⟨_, by rw [HF.out.2]; rfl, by rw [HF.out.1]; exact HO10.out, hb10⟩
    | true =>
      have HF : Hid (wrD d at' s = (d.1, L) ∧ wrOk d at' s = true) := HYE.out ⟨hok, hok2⟩
      have HO10 : Hid (OwnD ((w5.setCell ⟨w.heap.size + 1, 0, none⟩ (.slice a1 d.1.length c1)).setCell ⟨w.heap.size + 1, 1, none⟩ (.slice b2 L.length d2)) w.heap.size (.agg #[.slice a1 d.1.length c1, .slice b2 L.length d2]) (d.1, L)) := ((hO5.setVar HR5.out 0 _).setVar (HR5.out.set 0 _) 1 _).base (by omega)
      have HR10 : Hid (Var ((w5.setCell ⟨w.heap.size + 1, 0, none⟩ (.slice a1 d.1.length c1)).setCell ⟨w.heap.size + 1, 1, none⟩ (.slice b2 L.length d2)) (w.heap.size + 1) #[.slice a1 d.1.length c1, .slice b2 L.length d2] 43) := HR5.out.two _ _
      have hb10 : Below w.heap.size w ((w5.setCell ⟨w.heap.size + 1, 0, none⟩ (.slice a1 d.1.length c1)).setCell ⟨w.heap.size + 1, 1, none⟩ (.slice b2 L.length d2)) := (hb05.setCell (p := ⟨w.heap.size + 1, 0, none⟩) (by show _ ≤ w.heap.size + 1; omega) _).setCell (p := ⟨w.heap.size + 1, 1, none⟩) (by show _ ≤ w.heap.size + 1; omega) _
      have hq0 := HR5.out.cell 0
      have hq1 := (HR5.out.set 0 (.slice a1 d.1.length c1)).cell 1
      have hk0 := HR5.out.frozen 0
      have hk1 := HR5.out.frozen 1
      simp at hq0 hq1
      clear hO5
      go_wp2
      refine bodyPost_ret (results_row_tmp rfl _ _ (w.heap.size + 1) 43 #[.slice a1 d.1.length c1, .slice b2 L.length d2] _ rfl HR10.out Try.underlying43 rfl Try.sizeDisk) rfl ?_
      exact ⟨_, by rw [HF.out.2]; rfl, by rw [HF.out.1]; exact HO10.out, hb10⟩
end Go.Proofs.Ytlidmnehpcodkaa
