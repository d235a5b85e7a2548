/-
  Own text: disks: what can be read, what is owned; the laws' helpers over disks: how great, a copy, alike, marked, still marked.
-/
import Derived.Test.YtlidmnehpcodkaaTxtW
namespace Go.Proofs.Ytlidmnehpcodkaa
open Go.RowKit

/-- A disk: its sectors, what is pending. -/
abbrev DiskD := List ByteArray × List PutD
def RdD (w : World) (v : Value) (d : DiskD) : Prop :=
  ∃ a ca b cb, v = .agg #[.slice a d.1.length ca, .slice b d.2.length cb] ∧ RdS w a d.1 ∧ RdF encP 2 w b d.2
def OwnD (w : World) (lo : Nat) (v : Value) (d : DiskD) : Prop :=
  ∃ v1 v2, v = .agg #[v1, v2] ∧ w.ownsRow lo 9 1 v1 d.1.length (d.1.map Value.string) ∧ w.ownsRow lo 59 2 v2 d.2.length (d.2.flatMap encP)
def blkD (v : Value) (j : Nat) : Prop := ∃ v1 v2, v = .agg #[v1, v2] ∧ (blk v1 j ∨ blk v2 j)

theorem RdD.below {B : Nat} {w w' : World} {v : Value} {d : DiskD} (h : RdD w v d) (hb : Below B w w') (hB : w.heap.size ≤ B) : RdD w' v d := by
  obtain ⟨a, ca, b, cb, rfl, h1, h2⟩ := h
  exact ⟨a, ca, b, cb, rfl, h1.below hb hB, h2.below hb hB⟩
theorem OwnD.rd {w : World} {lo : Nat} {v : Value} {d : DiskD} (h : OwnD w lo v d) : RdD w v d := by
  obtain ⟨v1, v2, rfl, h1, h2⟩ := h
  obtain ⟨a, ca, rfl, _, r1⟩ := own_rdS h1
  obtain ⟨b, cb, rfl, _, r2⟩ := own_rdF encP_len h2 rfl
  exact ⟨a, ca, b, cb, rfl, r1, r2⟩
theorem RdD.shape {w : World} {v : Value} {d : DiskD} (h : RdD w v d) : ∃ a ca b cb, v = .agg #[.slice a d.1.length ca, .slice b d.2.length cb] := by
  obtain ⟨a, ca, b, cb, rfl, _, _⟩ := h
  exact ⟨a, ca, b, cb, rfl⟩
theorem OwnD.shape {w : World} {lo : Nat} {v : Value} {d : DiskD} (h : OwnD w lo v d) : ∃ a ca b cb, v = .agg #[.slice a d.1.length ca, .slice b d.2.length cb] := h.rd.shape
theorem OwnD.below {w w' : World} {lo : Nat} {v : Value} {d : DiskD} (h : OwnD w lo v d) (hb : Below w.heap.size w w') : OwnD w' lo v d := by
  obtain ⟨v1, v2, rfl, h1, h2⟩ := h
  exact ⟨v1, v2, rfl, ownsRow_below h1 hb (Nat.le_refl _), ownsRow_below h2 hb (Nat.le_refl _)⟩
theorem OwnD.base {w : World} {lo lo' : Nat} {v : Value} {d : DiskD} (h : OwnD w lo v d) (hl : lo' ≤ lo) : OwnD w lo' v d := by
  obtain ⟨v1, v2, rfl, h1, h2⟩ := h
  exact ⟨v1, v2, rfl, ownsRow_base h1 hl, ownsRow_base h2 hl⟩
theorem OwnD.blk {w : World} {lo : Nat} {v : Value} {d : DiskD} (h : OwnD w lo v d) : ∀ k, blkD v k → lo ≤ k ∧ k < w.heap.size := by
  obtain ⟨v1, v2, rfl, h1, h2⟩ := h
  rintro k ⟨u1, u2, e, hk⟩
  cases e
  rcases hk with hk | hk
  · exact h1.lt k hk
  · exact h2.lt k hk
theorem OwnD.only {S : Nat → Prop} {w w' : World} {lo : Nat} {v : Value} {d : DiskD} (h : OwnD w lo v d) (ho : Only S w w') (hs : ∀ k, blkD v k → ¬ S k) : OwnD w' lo v d := by
  obtain ⟨v1, v2, rfl, h1, h2⟩ := h
  exact ⟨v1, v2, rfl, own_only h1 ho (fun k hk => hs k ⟨v1, v2, rfl, .inl hk⟩), own_only h2 ho (fun k hk => hs k ⟨v1, v2, rfl, .inr hk⟩)⟩
/-- What was read before a bound is read still, whatever turns behind it. -/
theorem RdD.only {S : Nat → Prop} {w w' : World} {v : Value} {d : DiskD} (h : RdD w v d) (ho : Only S w w') (hs : ∀ k, k < w.heap.size → ¬ S k) : RdD w' v d :=
  h.below (B := w.heap.size) ⟨ho.os, ho.tape, ho.output, ho.size, fun k hk => ho.block k hk (hs k hk)⟩ (Nat.le_refl _)

def szD (d : DiskD) : Nat := szT d.1 + szP d.2
/-- No text in it is longer than a text can be. -/
def FitD (d : DiskD) : Prop := d.1.length ≤ maxLen ∧ d.2.length ≤ maxLen ∧ (∀ s ∈ d.1, s.size ≤ maxLen) ∧ ∀ p ∈ d.2, p.2.size ≤ maxLen

set_option maxRecDepth 20000 in
set_option maxHeartbeats 400000 in
theorem szDiskW (v : Value) (d : DiskD) (left : Int) (w : World) (h0 : 0 ≤ left) (h1 : left ≤ 1048576) (hf : FitD d) (hr : RdD w v d) :
    Calls Try.prog 21 #[v, .int .i64 left] w fun e w' => ∃ r : Int, e = .returned (.int .i64 r) ∧ (0 ≤ r → r + szD d = left) ∧ -1 ≤ r ∧ r ≤ 1048576 ∧ Below w.heap.size w w' := by
  obtain ⟨a, ca, b, cb, rfl, r1, r2⟩ := hr
  obtain ⟨f1, f2, f3, f4⟩ := hf
  have HR1 : Hid (RdS w a d.1) := r1
  have HR2 : Hid (RdF encP 2 w b d.2) := r2
  have HF : Hid (d.1.length ≤ maxLen ∧ d.2.length ≤ maxLen ∧ (∀ s ∈ d.1, s.size ≤ maxLen) ∧ ∀ p ∈ d.2, p.2.size ≤ maxLen) := ⟨f1, f2, f3, f4⟩
  have HSZ : Hid (szD d = szT d.1 + szP d.2) := rfl
  clear r1 r2 f1 f2 f3 f4
  go_enter Try.func21, Try.ntmps21
  go_wp2_with fail
  refine (szStrs _ _ d.1 left _ h0 h1 HF.out.1 HF.out.2.2.1 (HR1.out.below (below1 _ _) (Nat.le_refl _))).mono ?_
  rintro e w1 ⟨r, rfl, hr1, hr0, hrm, hb1⟩
  have hb01 : Below w.heap.size w w1 := (below1 w _).trans (hb1.mono (by simp))
  by_cases hneg : r < 0
  · clear hr1
    go_wp2
    go_ret
    exact ⟨-1, rfl, fun h => by omega, by omega, by omega, hb01⟩
  · have HE1 : Hid (r + szT d.1 = left) := hr1 (by omega)
    clear hr1
    have hcell : w1.cell? ⟨w.heap.size, 1, none⟩ = some (.slice b d.2.length cb) := (hb1.cell (by simp)).trans (by simp)
    go_wp2_with fail
    refine (szPuts _ _ d.2 r _ (by omega) hrm HF.out.2.1 HF.out.2.2.2 (HR2.out.below hb01 (Nat.le_refl _))).mono ?_
    rintro e w2 ⟨r', rfl, hr2, hr0', hrm', hb2⟩
    have hb02 : Below w.heap.size w w2 := hb01.trans (hb2.mono hb01.size)
    by_cases hneg' : r' < 0
    · clear hr2
      go_wp2
      go_ret
      exact ⟨-1, rfl, fun h => by omega, by omega, by omega, hb02⟩
    · have HE2 : Hid (r' + szP d.2 = r) := hr2 (by omega)
      clear hr2
      go_wp2
      go_ret
      exact ⟨r', rfl, fun _ => by rw [HSZ.out]; have := HE1.out; have := HE2.out; omega, by omega, by omega, hb02⟩

theorem Try.sizeDisk : (Try.prog.info? 43).map (·.size) = some 2 := by kernel_rfl

set_option maxRecDepth 20000 in
set_option maxHeartbeats 400000 in
theorem toDiskW (v : Value) (d : DiskD) (w : World) (hl : szD d ≤ 1048576) (hr : RdD w v d) :
    Calls Try.prog 24 #[v] w fun e w' => ∃ v', e = .returned v' ∧ OwnD w' w.heap.size v' d ∧ Below w.heap.size w w' := by
  obtain ⟨a, ca, b, cb, rfl, r1, r2⟩ := hr
  have hl1 : d.1.length ≤ 1048576 := by have := szT_len d.1; unfold szD at hl; omega
  have hl2 : d.2.length ≤ 1048576 := by have := szP_len d.2; unfold szD at hl; omega
  have HR1 : Hid (RdS w a d.1) := r1
  have HR2 : Hid (RdF encP 2 w b d.2) := r2
  clear r1 r2 hl
  go_enter Try.func24, Try.ntmps24
  go_wp2_with fail
  refine (toStrs _ _ d.1 _ hl1 (HR1.out.below (below3 _ _ _ _) (Nat.le_refl _))).mono ?_
  rintro e w1 ⟨v1, rfl, ho1, hb1⟩
  obtain ⟨a1, c1, rfl, _, _⟩ := own_rdS ho1
  have hV0 : Var w1 (w.heap.size + 1 + 1) #[.slice none 0 0, .slice none 0 0] 43 := (Var.made3 w _ _ _ _).new hb1
  have hR0 : Var w1 (w.heap.size + 1) #[.slice none 0 0, .slice none 0 0] 43 := ((Var.made2 w _ _ _).alloc _).new hb1
  have hX0 : Var w1 w.heap.size #[.slice a d.1.length ca, .slice b d.2.length cb] 38 := (((Var.made w _ _).alloc _).alloc _).new hb1
  have hs0 : (((w.alloc (.cells #[.slice a d.1.length ca, .slice b d.2.length cb] 38)).alloc (.cells #[.slice none 0 0, .slice none 0 0] 43)).alloc (.cells #[.slice none 0 0, .slice none 0 0] 43)).heap.size = w.heap.size + 1 + 1 + 1 := by simp
  rw [hs0] at ho1 hb1
  have hb01 : Below w.heap.size w w1 := (below3 w _ _ _).trans (hb1.mono (by omega))
  have hV1 := hV0.set 0 (.slice a1 d.1.length c1)
  have hR1 := hR0.other (Q := w.heap.size + 1 + 1) (by omega) 0 (.slice a1 d.1.length c1)
  have hX1 := hX0.other (Q := w.heap.size + 1 + 1) (by omega) 0 (.slice a1 d.1.length c1)
  have hb02 : Below w.heap.size w (w1.setCell ⟨w.heap.size + 1 + 1, 0, none⟩ (.slice a1 d.1.length c1)) := hb01.setCell (p := ⟨w.heap.size + 1 + 1, 0, none⟩) (by show _ ≤ w.heap.size + 1 + 1; omega) _
  have hc0 := hV0.cell 0
  have hf0 := hV0.frozen 0
  have hcx := hX1.cell 1
  go_wp2_with fail
  have ho1' := own_set ho1 (Q := w.heap.size + 1 + 1) (by omega) 0 (.slice a1 d.1.length c1)
  have hsz1 : w.heap.size + 1 + 1 + 1 ≤ (w1.setCell ⟨w.heap.size + 1 + 1, 0, none⟩ (.slice a1 d.1.length c1)).heap.size := by have := hV1.lt; omega
  clear hc0 hf0 hcx hV0 hR0 hX0 hb01 hb1 ho1 hs0
  generalize w1.setCell ⟨w.heap.size + 1 + 1, 0, none⟩ (.slice a1 d.1.length c1) = wx at *
  refine (toPuts _ _ d.2 _ hl2 (HR2.out.below hb02 (Nat.le_refl _))).mono ?_
  rintro e w2 ⟨v2, rfl, ho2, hb2⟩
  obtain ⟨a2, c2, rfl, _, _⟩ := own_rdF encP_len ho2 rfl
  have hV2 := hV1.new hb2
  have hR2 := hR1.new hb2
  have ho12 := ownsRow_below ho1' hb2 (Nat.le_refl _)
  have ho2' := ownsRow_base ho2 hsz1
  have hb03 : Below w.heap.size w w2 := hb02.trans (hb2.mono hb02.size)
  clear hV1 hR1 hX1 ho1' ho2 hb2 hb02 hsz1
  have hV3 := hV2.set 1 (.slice a2 d.2.length c2)
  have hR3 := hR2.other (Q := w.heap.size + 1 + 1) (by omega) 1 (.slice a2 d.2.length c2)
  have hR4 := hR3.set 0 (.slice a1 d.1.length c1)
  have hR5 := hR4.set 1 (.slice a2 d.2.length c2)
  have HR5 : Hid (Var (((w2.setCell ⟨w.heap.size + 1 + 1, 1, none⟩ (.slice a2 d.2.length c2)).setCell ⟨w.heap.size + 1, 0, none⟩ (.slice a1 d.1.length c1)).setCell ⟨w.heap.size + 1, 1, none⟩ (.slice a2 d.2.length c2)) (w.heap.size + 1) #[.slice a1 d.1.length c1, .slice a2 d.2.length c2] 43) := hR5
  have e1 := own_set (own_set (own_set ho12 (Q := w.heap.size + 1 + 1) (by omega) 1 (.slice a2 d.2.length c2)) (Q := w.heap.size + 1) (by omega) 0 (.slice a1 d.1.length c1)) (Q := w.heap.size + 1) (by omega) 1 (.slice a2 d.2.length c2)
  have e2 := own_set (own_set (own_set ho2' (Q := w.heap.size + 1 + 1) (by omega) 1 (.slice a2 d.2.length c2)) (Q := w.heap.size + 1) (by omega) 0 (.slice a1 d.1.length c1)) (Q := w.heap.size + 1) (by omega) 1 (.slice a2 d.2.length c2)
  have hb04 : Below w.heap.size w (((w2.setCell ⟨w.heap.size + 1 + 1, 1, none⟩ (.slice a2 d.2.length c2)).setCell ⟨w.heap.size + 1, 0, none⟩ (.slice a1 d.1.length c1)).setCell ⟨w.heap.size + 1, 1, none⟩ (.slice a2 d.2.length c2)) := ((hb03.setCell (p := ⟨w.heap.size + 1 + 1, 1, none⟩) (by show _ ≤ w.heap.size + 1 + 1; omega) _).setCell (p := ⟨w.heap.size + 1, 0, none⟩) (by show _ ≤ w.heap.size + 1; omega) _).setCell (p := ⟨w.heap.size + 1, 1, none⟩) (by show _ ≤ w.heap.size + 1; omega) _
  have E1 : Hid (_) := e1
  have E2 : Hid (_) := e2
  have hc1 := hV2.cell 1
  have hf1 := hV2.frozen 1
  have hd0 := hV3.cell 0
  have hd1 := hV3.cell 1
  have hr0 := hR3.cell 0
  have hr1 := hR4.cell 1
  have hg0 := hR3.frozen 0
  have hg1 := hR4.frozen 1
  clear e1 e2 ho12 ho2' hb03 hV2 hV3 hR2 hR3 hR4 hR5
  simp at hc1 hd0 hd1 hr0 hr1
  go_wp2
  refine bodyPost_ret (results_cell_row rfl _ _ (w.heap.size + 1) 43 #[.slice a1 d.1.length c1, .slice a2 d.2.length c2] (0, 0) _ rfl HR5.out Try.underlying43 rfl Try.sizeDisk) rfl ?_
  exact ⟨_, rfl, ⟨_, _, rfl, ownsRow_base E1.out (by omega), ownsRow_base E2.out (by omega)⟩, hb04⟩

set_option maxRecDepth 20000 in
set_option maxHeartbeats 400000 in
theorem eqDiskW (v u : Value) (d : DiskD) (w : World) (hl : d.1.length ≤ 4194304 ∧ d.2.length ≤ 4194304) (hr : RdD w v d) (hs : RdD w u d) :
    Calls Try.prog 27 #[v, u] w fun e w' => e = .returned (.bool true) ∧ Below w.heap.size w w' := by
  obtain ⟨a, ca, b, cb, rfl, r1, r2⟩ := hr
  obtain ⟨a', ca', b', cb', rfl, r1', r2'⟩ := hs
  have HR : Hid (RdS w a d.1 ∧ RdF encP 2 w b d.2 ∧ RdS w a' d.1 ∧ RdF encP 2 w b' d.2) := ⟨r1, r2, r1', r2'⟩
  obtain ⟨hl1, hl2⟩ := hl
  clear r1 r2 r1' r2'
  go_enter Try.func27, Try.ntmps27
  go_wp2_with fail
  refine (eqS _ _ _ _ d.1 _ hl1 (HR.out.1.below (below2 _ _ _) (Nat.le_refl _)) (HR.out.2.2.1.below (below2 _ _ _) (Nat.le_refl _))).mono ?_
  rintro e w1 ⟨rfl, hb1⟩
  have hX : Var w1 w.heap.size #[.slice a d.1.length ca, .slice b d.2.length cb] 43 := ((Var.made w _ _).alloc _).new hb1
  have hY : Var w1 (w.heap.size + 1) #[.slice a' d.1.length ca', .slice b' d.2.length cb'] 43 := (Var.made2 w _ _ _).new hb1
  have hb01 : Below w.heap.size w w1 := (below2 w _ _).trans (hb1.mono (by simp; omega))
  have hx1 := hX.cell 1
  have hy1 := hY.cell 1
  clear hX hY hb1
  simp at hx1 hy1
  go_wp2_with fail
  refine (eqPuts _ _ _ _ d.2 _ hl2 (HR.out.2.1.below hb01 (Nat.le_refl _)) (HR.out.2.2.2.below hb01 (Nat.le_refl _))).mono ?_
  rintro e w2 ⟨rfl, hb2⟩
  go_wp2
  go_ret
  exact ⟨rfl, hb01.trans (hb2.mono hb01.size)⟩

/-- A disk's marks, from k on, and how many. -/
def mrkD (k : Nat) (d : DiskD) : DiskD := (marksS k d.1.length, marksP (k + d.1.length) d.2.length)
def cntD (d : DiskD) : Nat := d.1.length + 2 * d.2.length
theorem mrkD_len (k : Nat) (d : DiskD) : (mrkD k d).1.length = d.1.length ∧ (mrkD k d).2.length = d.2.length := ⟨marksS_len _ _, marksP_len _ _⟩

set_option maxRecDepth 20000 in
set_option maxHeartbeats 400000 in
theorem markDiskW (v : Value) (lo k : Nat) (d : DiskD) (w : World) (hl : d.1.length ≤ 4194304 ∧ d.2.length ≤ 4194304) (hk : k ≤ 1073741824) (ho : OwnD w lo v d) :
    Calls Try.prog 28 #[v, .int .i64 k] w fun e w' => e = .returned (.int .i64 ((k + cntD d : Nat) : Int)) ∧ OwnD w' lo v (mrkD k d) ∧ Only (blkD v) w w' := by
  obtain ⟨v1, v2, rfl, ho1, ho2⟩ := ho
  obtain ⟨hl1, hl2⟩ := hl
  obtain ⟨a, ca, rfl, _, _⟩ := own_rdS ho1
  obtain ⟨b, cb, rfl, _, _⟩ := own_rdF encP_len ho2 rfl
  have HO1 : Hid (w.ownsRow lo 9 1 (.slice a d.1.length ca) d.1.length (d.1.map Value.string)) := ho1
  have HO2 : Hid (w.ownsRow lo 59 2 (.slice b d.2.length cb) d.2.length (d.2.flatMap encP)) := ho2
  have HAP : Hid (∀ j, blk (.slice b d.2.length cb) j → ¬ blk (.slice a d.1.length ca) j) := own_apart ho2 ho1 (by decide)
  have HCN : Hid (k + cntD d = k + d.1.length + 2 * d.2.length) := by show _ = _; unfold cntD; omega
  clear ho1 ho2
  go_enter Try.func28, Try.ntmps28
  go_wp2_with fail
  refine (markStrO _ d.1.length k lo d.1 _ (by omega) (by omega) (ownsRow_below HO1.out (below1 _ _) (Nat.le_refl _))).mono ?_
  rintro e w1 ⟨rfl, hm1, hon1⟩
  have hX : Var w1 w.heap.size #[.slice a d.1.length ca, .slice b d.2.length cb] 43 := by
    show w1.heap[w.heap.size]? = _
    rw [hon1.block w.heap.size (by simp) (fun hb => by have := (HO1.out.lt _ hb).2; omega)]
    exact Var.made w _ _
  have hx1 := hX.cell 1
  simp at hx1
  have hp1 := own_only (ownsRow_below HO2.out (below1 w (.cells #[.slice a d.1.length ca, .slice b d.2.length cb] 43)) (Nat.le_refl _)) hon1 (fun j hj => HAP.out j hj)
  have HM1 : Hid (w1.ownsRow lo 9 1 (.slice a d.1.length ca) d.1.length ((marksS k d.1.length).map Value.string)) := hm1
  have HP1 : Hid (w1.ownsRow lo 59 2 (.slice b d.2.length cb) d.2.length (d.2.flatMap encP)) := hp1
  have hon01 : Only (blkD (.agg #[.slice a d.1.length ca, .slice b d.2.length cb])) w w1 := (Only.of_new (below1 w _)).trans (hon1.mono fun j _ hj => ⟨_, _, rfl, .inl hj⟩)
  clear hm1 hp1 hX
  go_wp2_with fail
  refine (markPuts _ d.2.length (k + d.1.length) lo d.2 _ (by omega) (by omega) rfl HP1.out).mono ?_
  rintro e w2 ⟨rfl, hm2, hon2⟩
  have HM2 : Hid (w2.ownsRow lo 59 2 (.slice b d.2.length cb) d.2.length ((marksP (k + d.1.length) d.2.length).flatMap encP)) := hm2
  have HM3 : Hid (w2.ownsRow lo 9 1 (.slice a d.1.length ca) d.1.length ((marksS k d.1.length).map Value.string)) := own_only HM1.out hon2 (fun j hj hb => HAP.out j hb hj)
  have hon02 : Only (blkD (.agg #[.slice a d.1.length ca, .slice b d.2.length cb])) w w2 := hon01.trans (hon2.mono fun j _ hj => ⟨_, _, rfl, .inr hj⟩)
  clear hm2
  go_wp2
  go_ret
  refine ⟨by rw [HCN.out]; rfl, ⟨_, _, rfl, ?_, ?_⟩, hon02⟩
  · rw [(mrkD_len k d).1]; exact HM3.out
  · rw [(mrkD_len k d).2]; exact HM2.out

set_option maxRecDepth 20000 in
set_option maxHeartbeats 400000 in
theorem heldDiskW (v : Value) (k : Nat) (d : DiskD) (w : World) (hl : d.1.length ≤ 4194304 ∧ d.2.length ≤ 4194304) (hk : k ≤ 1073741824) (hr : RdD w v (mrkD k d)) :
    Calls Try.prog 29 #[v, .int .i64 k] w fun e w' => e = .returned (.int .i64 ((k + cntD d : Nat) : Int)) ∧ Below w.heap.size w w' := by
  obtain ⟨a, ca, b, cb, rfl, r1, r2⟩ := hr
  obtain ⟨hl1, hl2⟩ := hl
  rw [(mrkD_len k d).1, (mrkD_len k d).2]
  have HR1 : Hid (RdS w a (marksS k d.1.length)) := r1
  have HR2 : Hid (RdF encP 2 w b (marksP (k + d.1.length) d.2.length)) := r2
  have HCN : Hid (k + cntD d = k + d.1.length + 2 * d.2.length) := by show _ = _; unfold cntD; omega
  clear r1 r2
  go_enter Try.func29, Try.ntmps29
  go_wp2_with fail
  refine (heldStrs _ _ d.1.length k _ (by omega) (by omega) (HR1.out.below (below1 _ _) (Nat.le_refl _))).mono ?_
  rintro e w1 ⟨rfl, hb1⟩
  have hX : Var w1 w.heap.size #[.slice a d.1.length ca, .slice b d.2.length cb] 43 := (Var.made w _ _).new hb1
  have hb01 : Below w.heap.size w w1 := (below1 w _).trans (hb1.mono (by simp))
  have hx1 := hX.cell 1
  simp at hx1
  clear hX hb1
  go_wp2_with fail
  refine (heldPuts _ _ d.2.length (k + d.1.length) _ (by omega) (by omega) (HR2.out.below hb01 (Nat.le_refl _))).mono ?_
  rintro e w2 ⟨rfl, hb2⟩
  go_wp2
  go_ret
  exact ⟨by rw [HCN.out]; rfl, hb01.trans (hb2.mono hb01.size)⟩
end Go.Proofs.Ytlidmnehpcodkaa
