/-
  Own text: a copy of a disk, as the other program makes it: both rows made anew, in whatever order.
-/
import Derived.Test.YtlidmnehpcodkaaDiskW
import Derived.Test.YtlidmnehpcodkaaAppSrc
import Derived.Deep.RegionLaw
namespace Go.Proofs.Ytlidmnehpcodkaa
open Go.RowKit

section
variable {P : Program} (w : World)
/-- append onto a row of the call's own, from whatever source, as one step of a region that draws. -/
theorem step_own_src {ops : Array Oper} {o : Oper} {a : Act} {K : Act → World → Prop} {Q : Exit → Act → World → Prop} {E : Prop} (hgd : o.guard = none) (s x : Operand) (t tx : TypeId)
    (ho : o.op = .call { callee := .builtin .append, args := #[s, x], argTypes := #[t, tx] })
    (base : Nat) (e : TypeId) (i : TypeInfo) (z : Value) (size bytes : Nat) (ht : P.underlying t = some (.slice e)) (hi : P.info? e = some i) (hz : i.zero = some z)
    (hsize : i.size = size) (hby : i.bytes = bytes) (hzs : z.cells.size = size)
    (v : Value) (n : Nat) (xs : List Value) (xv : Value) (m : Nat) (news : List Value) (h63 : n + m ≤ maxLen) (hbytes : (n + m) * bytes ≤ 140737488355328)
    (hs : a.eval s = v) (hx : a.eval x = xv) (hown : w.ownsRow base e size v n xs) (hsrc : Src P size tx xv m news w) (hbase : base ≤ w.heap.size)
    (h : ∀ v' w', w'.ownsRow base e size v' (n + m) (xs ++ news) → w.grownBy w' v.ownBlock → K (a.put o.dst v') w') :
    if Region.wanted o (yielded ops a.tmps) = true then Oper.wp P o a w K Q else E := by
  have hw : Region.wanted o (yielded ops a.tmps) = true := by simp [Region.wanted, hgd]
  rw [if_pos hw]
  obtain ⟨v', w', hr, h2, h3⟩ := run_append_own_src (P := P) w base t tx o.type e i z size bytes ht hi hz hsize hby hzs v n xs hown xv m news hsrc h63 hbytes hbase
  unfold Oper.wp execOp
  simp only [ho, resolve, invoke, builtin, Sem.run_bind, Sem.run_pure, Result.andThen_ok, List.map_toArray, List.map_cons, List.map_nil, hs, hx, hr]
  exact h v' w' h2 h3
end

/-- Texts as a source. -/
theorem src_txt {w : World} {a : Option Addr} {l : List ByteArray} (cap : Nat) (h : RdS w a l) : Src Try.prog 1 36 (.slice a l.length cap) l.length (l.map Value.string) w := by
  cases a with
  | none =>
    rcases h with rfl | ⟨b, off, h, _⟩
    · exact Src.ofNil w Try.underlying36 cap
    · cases h
  | some x =>
    refine Src.ofSlice w Try.underlying36 x l.length cap _ (by simp) ?_ ?_
    · intro j u hj
      rcases h with rfl | ⟨b, off, h, hlt, hc⟩
      · simp at hj
      · cases h
        rw [List.getElem?_map] at hj
        obtain ⟨y, hy, rfl⟩ := Option.map_eq_some_iff.1 hj
        obtain ⟨hj', rfl⟩ := List.getElem?_eq_some_iff.1 hy
        have := hc j hj'
        rw [Go.WideShapes.add_plain]
        exact this
    · intro u hu
      obtain ⟨y, _, rfl⟩ := List.mem_map.1 hu
      rfl
/-- Writes as a source. -/
theorem src_puts {w : World} {a : Option Addr} {l : List PutD} (cap : Nat) (h : RdF encP 2 w a l) : Src Try.prog 2 25 (.slice a l.length cap) l.length (l.flatMap encP) w := by
  cases a with
  | none =>
    rcases h with rfl | ⟨b, off, h, _⟩
    · exact Src.ofNil w Try.underlying25 cap
    · cases h
  | some x =>
    refine Src.ofSlice w Try.underlying25 x l.length cap _ (flat_len_c encP_len l) ?_ ?_
    · intro j u hj
      rcases h with rfl | ⟨b, off, h, hlt, hc⟩
      · simp at hj
      · cases h
        have hjl : j < l.length * 2 := by have := (List.getElem?_eq_some_iff.1 hj).1; rw [flat_len_c encP_len] at this; exact this
        have e := flat_get encP_len l (j / 2) (by omega) (j % 2) (by omega)
        rw [show j / 2 * 2 + j % 2 = j by omega, hj] at e
        have := hc (j / 2) (by omega) (j % 2) (by omega)
        rw [Go.WideShapes.add_plain, show off + j = off + j / 2 * 2 + j % 2 by omega, this, ← e]
    · intro u hu
      obtain ⟨y, _, hy⟩ := List.mem_flatMap.1 hu
      simp [encP] at hy
      rcases hy with rfl | rfl <;> rfl

set_option maxRecDepth 20000 in
set_option maxHeartbeats 400000 in
theorem copyT (a : Option Addr) (cap : Nat) (l : List ByteArray) (w : World) (hl : l.length ≤ 4194305) (hr : RdS w a l) :
    Calls Try.prog 75 #[.slice a l.length cap] w fun e w' => ∃ v, e = .returned v ∧ w'.ownsRow w.heap.size 9 1 v l.length (l.map Value.string) ∧ Below w.heap.size w w' := by
  obtain ⟨i0, hi, hz0, hz1, hz2⟩ := info_parts Try.infoTxt
  have ho0 : (w.alloc (.cells #[] 9)).ownsRow w.heap.size 9 1 (.slice (some ⟨w.heap.size, 0, none⟩) 0 0) 0 [] := World.ownsRow_made w #[] 0 (Nat.le_refl _) (Nat.zero_le _) rfl
  have hb0 : Below w.heap.size w (w.alloc (.cells #[] 9)) := (Below.refl _ _).alloc (Nat.le_refl _) _
  have HR : Hid (RdS (w.alloc (.cells #[] 9)) a l) := hr.below hb0 (Nat.le_refl _)
  clear hr
  go_enter Try.func75, Try.ntmps75
  go_wp2_with (at_builtin; refine wpList_append_own_src _ rfl _ _ 36 36 rfl w.heap.size 9 i0 (.string ⟨#[]⟩) 1 16 Try.underlying36 hi hz0 hz1 hz2 rfl _ _ _ rfl ho0 _ l.length (l.map Value.string) rfl (src_txt cap HR.out) (by unfold maxLen; omega) (by omega) hb0.size ?_)
  intro v' w2 ho2 hg2
  have hb2 : Below w.heap.size w w2 := hb0.grown hg2 hb0.size (fun k hk => (ho0.lt k hk).1)
  clear hg2
  go_wp2
  go_ret
  exact ⟨_, rfl, by simpa using ho2, hb2⟩

set_option maxRecDepth 20000 in
set_option maxHeartbeats 2000000 in
theorem copyD (v : Value) (d : DiskD) (w : World) (hl : d.1.length ≤ 4194304 ∧ d.2.length ≤ 4194304) (hr : RdD w v d) :
    Calls Try.prog 52 #[v] w fun e w' => ∃ v', e = .returned v' ∧ OwnD w' w.heap.size v' d ∧ Below w.heap.size w w' := by
  obtain ⟨a, ca, b, cb, rfl, r1, r2⟩ := hr
  obtain ⟨hl1, hl2⟩ := hl
  obtain ⟨i0, hi, hz0, hz1, hz2⟩ := info_parts Try.infoPut
  go_enter Try.func52, Try.ntmps52
  go_wp2_with fail
  have hX0 : Var ((w.alloc (.cells #[.slice a d.1.length ca, .slice b d.2.length cb] 43)).alloc (.cells #[.slice none 0 0, .slice none 0 0] 43)).drew w.heap.size #[.slice a d.1.length ca, .slice b d.2.length cb] 43 := (Var.made w _ _).alloc _
  have hR0 : Var ((w.alloc (.cells #[.slice a d.1.length ca, .slice b d.2.length cb] 43)).alloc (.cells #[.slice none 0 0, .slice none 0 0] 43)).drew (w.heap.size + 1) #[.slice none 0 0, .slice none 0 0] 43 := Var.made2 w _ _ _
  have hb0 : Below w.heap.size w ((w.alloc (.cells #[.slice a d.1.length ca, .slice b d.2.length cb] 43)).alloc (.cells #[.slice none 0 0, .slice none 0 0] 43)).drew := (below2 w _ _).drew
  have hs0 : w.heap.size + 2 ≤ ((w.alloc (.cells #[.slice a d.1.length ca, .slice b d.2.length cb] 43)).alloc (.cells #[.slice none 0 0, .slice none 0 0] 43)).drew.heap.size := hR0.lt
  have HRS : Hid (∀ X, Below w.heap.size w X → RdS X a d.1) := fun X h => r1.below h (Nat.le_refl _)
  have HRP : Hid (∀ X, Below w.heap.size w X → RdF encP 2 X b d.2) := fun X h => r2.below h (Nat.le_refl _)
  clear r1 r2
  generalize (w.alloc (.cells #[.slice a d.1.length ca, .slice b d.2.length cb] 43)).alloc (.cells #[.slice none 0 0, .slice none 0 0] 43) = W0 at *
  have hx0 := hX0.cell 0
  have hx1 := hX0.cell 1
  have hXa : Var (W0.alloc (.cells #[] 59)).drew w.heap.size #[.slice a d.1.length ca, .slice b d.2.length cb] 43 := hX0.alloc (.cells #[] 59)
  have hRa : Var (W0.alloc (.cells #[] 59)).drew (w.heap.size + 1) #[.slice none 0 0, .slice none 0 0] 43 := hR0.alloc (.cells #[] 59)
  have hy0 := hXa.cell 0
  have hy1 := hXa.cell 1
  have hba : Below w.heap.size w (W0.alloc (.cells #[] 59)).drew := hb0.alloc hb0.size _
  have hoE : (W0.alloc (.cells #[] 59)).drew.ownsRow (w.heap.size + 2) 59 2 (.slice (some ⟨W0.heap.size, 0, none⟩) 0 0) 0 [] := World.ownsRow_made W0.drew #[] 0 hs0 (Nat.zero_le _) rfl
  have HX0 : Hid (Var W0.drew w.heap.size #[.slice a d.1.length ca, .slice b d.2.length cb] 43) := hX0
  have HR0 : Hid (Var W0.drew (w.heap.size + 1) #[.slice none 0 0, .slice none 0 0] 43) := hR0
  have HXa : Hid (Var (W0.alloc (.cells #[] 59)).drew w.heap.size #[.slice a d.1.length ca, .slice b d.2.length cb] 43) := hXa
  have HRa : Hid (Var (W0.alloc (.cells #[] 59)).drew (w.heap.size + 1) #[.slice none 0 0, .slice none 0 0] 43) := hRa
  have HoE : Hid ((W0.alloc (.cells #[] 59)).drew.ownsRow (w.heap.size + 2) 59 2 (.slice (some ⟨W0.heap.size, 0, none⟩) 0 0) 0 []) := hoE
  clear hX0 hR0 hXa hRa hoE
  simp at hx0 hx1 hy0 hy1
  go_region_law (first
    | (refine step_own_src (w2.alloc (.cells #[] 59)) rfl (.tmp 6) (.tmp 8) 25 25 rfl (w.heap.size + 2) 59 i0 (.agg #[.int .i64 0, .string ⟨#[]⟩]) 2 24 Try.underlying25 hi hz0 hz1 hz2 rfl (.slice (some ⟨w2.heap.size, 0, none⟩) 0 0) 0 [] (.slice b d.2.length cb) d.2.length (d.2.flatMap encP) ?_ ?_ ?_ ?_ hoEa (src_puts cb (HRP.out _ (hw2.alloc hw2.size _))) (Nat.le_trans hs2 (by simp)) ?_
       · unfold maxLen; omega
       · omega
       · simp [Act.eval]
       · simp [Act.eval]
       intro v3 w3 ho3 hg3
       obtain ⟨a3, c3, rfl, _, _⟩ := own_rdF encP_len (l := d.2) ho3 (by simp)
       have HoP : Hid (w3.ownsRow (w.heap.size + 2) 59 2 (.slice a3 (0 + d.2.length) c3) (0 + d.2.length) ([] ++ d.2.flatMap encP)) := ho3
       have HoS : Hid (w3.ownsRow (w.heap.size + 2) 9 1 (.slice a1 d.1.length c1) d.1.length (d.1.map Value.string)) := own_only (hoS.alloc _) (Only.of_grown hg3) (fun k hk h => own_apart (hoS.alloc _) hoEa (by decide) k hk h)
       have hgb : Below (w.heap.size + 2) (w2.alloc (.cells #[] 59)) w3 := (Below.refl _ _).grown hg3 (Nat.le_trans hs2 (by simp)) (fun k hk => (hoEa.lt k hk).1)
       have hR3 : Var w3 (w.heap.size + 1) #[.slice none 0 0, .slice none 0 0] 43 := (hR2.alloc _).below hgb (by omega)
       have hbF : Below w.heap.size w w3 := (hw2.alloc hw2.size _).trans (hgb.mono (by omega))
       have hv0 := hR3.cell 0
       have hv1 := (hR3.set 0 (.slice a1 d.1.length c1)).cell 1
       have hf0 := hR3.frozen 0
       have hf1 := hR3.frozen 1
       simp at hv0 hv1
       have HR3 : Hid (Var w3 (w.heap.size + 1) #[.slice none 0 0, .slice none 0 0] 43) := hR3
       clear ho3 hg3 hgb hR3)
    | (refine step_own_src w2 rfl (.tmp 6) (.tmp 8) 25 25 rfl (w.heap.size + 2) 59 i0 (.agg #[.int .i64 0, .string ⟨#[]⟩]) 2 24 Try.underlying25 hi hz0 hz1 hz2 rfl (.slice (some ⟨W0.heap.size, 0, none⟩) 0 0) 0 [] (.slice b d.2.length cb) d.2.length (d.2.flatMap encP) ?_ ?_ ?_ ?_ hoEb (src_puts cb (HRP.out _ hw2)) hs2 ?_
       · unfold maxLen; omega
       · omega
       · simp [Act.eval]
       · simp [Act.eval]
       intro v3 w3 ho3 hg3
       obtain ⟨a3, c3, rfl, _, _⟩ := own_rdF encP_len (l := d.2) ho3 (by simp)
       have HoP : Hid (w3.ownsRow (w.heap.size + 2) 59 2 (.slice a3 (0 + d.2.length) c3) (0 + d.2.length) ([] ++ d.2.flatMap encP)) := ho3
       have HoS : Hid (w3.ownsRow (w.heap.size + 2) 9 1 (.slice a1 d.1.length c1) d.1.length (d.1.map Value.string)) := own_only hoS (Only.of_grown hg3) (fun k hk h => own_apart hoS hoEb (by decide) k hk h)
       have hgb : Below (w.heap.size + 2) w2 w3 := (Below.refl _ _).grown hg3 hs2 (fun k hk => (hoEb.lt k hk).1)
       have hR3 : Var w3 (w.heap.size + 1) #[.slice none 0 0, .slice none 0 0] 43 := hR2.below hgb (by omega)
       have hbF : Below w.heap.size w w3 := hw2.trans (hgb.mono (by omega))
       have hv0 := hR3.cell 0
       have hv1 := (hR3.set 0 (.slice a1 d.1.length c1)).cell 1
       have hf0 := hR3.frozen 0
       have hf1 := hR3.frozen 1
       simp at hv0 hv1
       have HR3 : Hid (Var w3 (w.heap.size + 1) #[.slice none 0 0, .slice none 0 0] 43) := hR3
       clear ho3 hg3 hgb hR3)
    | (go_simp
       go_at_call 75
       refine (copyT a ca d.1 W0.drew (by omega) (HRS.out _ hb0)).mono ?_
       rintro e w2 ⟨v1, rfl, ho2, hb2⟩
       obtain ⟨a1, c1, rfl, _, _⟩ := own_rdS ho2
       have hoS := ownsRow_base ho2 (Nat.le_trans hs0 (Nat.le_refl _))
       have hX2 := HX0.out.new hb2
       have hR2 := HR0.out.new hb2
       have hX2a := hX2.alloc (.cells #[] 59)
       have hw2 : Below w.heap.size w w2 := hb0.trans (hb2.mono hb0.size)
       have hs2 : w.heap.size + 2 ≤ w2.heap.size := hR2.lt
       have hzc1 : w2.cell? ⟨w.heap.size, 1, none⟩ = some (.slice b d.2.length cb) := hX2.cell 1
       have hzc2 : (w2.alloc (.cells #[] 59)).cell? ⟨w.heap.size, 1, none⟩ = some (.slice b d.2.length cb) := hX2a.cell 1
       have hoEa : (w2.alloc (.cells #[] 59)).ownsRow (w.heap.size + 2) 59 2 (.slice (some ⟨w2.heap.size, 0, none⟩) 0 0) 0 [] := World.ownsRow_made w2 #[] 0 hs2 (Nat.zero_le _) rfl
       clear ho2 hb2 hX2 hX2a)
    | (go_simp
       go_at_call 75
       refine (copyT a ca d.1 (W0.alloc (.cells #[] 59)).drew (by omega) (HRS.out _ hba)).mono ?_
       rintro e w2 ⟨v1, rfl, ho2, hb2⟩
       obtain ⟨a1, c1, rfl, _, _⟩ := own_rdS ho2
       have hoS := ownsRow_base ho2 (Nat.le_trans hs0 (by simp))
       have hX2 := HXa.out.new hb2
       have hR2 := HRa.out.new hb2
       have hX2a := hX2.alloc (.cells #[] 59)
       have hw2 : Below w.heap.size w w2 := hba.trans (hb2.mono hba.size)
       have hs2 : w.heap.size + 2 ≤ w2.heap.size := hR2.lt
       have hzc1 : w2.cell? ⟨w.heap.size, 1, none⟩ = some (.slice b d.2.length cb) := hX2.cell 1
       have hzc2 : (w2.alloc (.cells #[] 59)).cell? ⟨w.heap.size, 1, none⟩ = some (.slice b d.2.length cb) := hX2a.cell 1
       have hoEb := ownsRow_below HoE.out hb2 (Nat.le_refl _)
       clear ho2 hb2 hX2 hX2a))
  all_goals
    go_wp2
    have hR5 := (HR3.out.set 0 (.slice a1 d.1.length c1)).set 1 (.slice a3 d.2.length c3)
    have HR5 : Hid (Var ((w3.setCell ⟨w.heap.size + 1, 0, none⟩ (.slice a1 d.1.length c1)).setCell ⟨w.heap.size + 1, 1, none⟩ (.slice a3 d.2.length c3)) (w.heap.size + 1) #[.slice a1 d.1.length c1, .slice a3 d.2.length c3] 43) := hR5
    refine bodyPost_ret (results_cell_row rfl _ _ (w.heap.size + 1) 43 #[.slice a1 d.1.length c1, .slice a3 d.2.length c3] (0, 0) _ rfl HR5.out Try.underlying43 rfl Try.sizeDisk) rfl ?_
    have hoP := HoP.out
    rw [Nat.zero_add, List.nil_append] at hoP
    exact ⟨_, rfl, ⟨_, _, rfl, ownsRow_base (own_set (own_set HoS.out (Q := w.heap.size + 1) (by omega) 0 _) (Q := w.heap.size + 1) (by omega) 1 _) (by omega), ownsRow_base (own_set (own_set hoP (Q := w.heap.size + 1) (by omega) 0 _) (Q := w.heap.size + 1) (by omega) 1 _) (by omega)⟩, (hbF.setCell (p := ⟨w.heap.size + 1, 0, none⟩) (by show _ ≤ w.heap.size + 1; omega) _).setCell (p := ⟨w.heap.size + 1, 1, none⟩) (by show _ ≤ w.heap.size + 1; omega) _⟩
end Go.Proofs.Ytlidmnehpcodkaa
