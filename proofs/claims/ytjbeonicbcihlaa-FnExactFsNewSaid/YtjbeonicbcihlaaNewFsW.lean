/-
  Own text: new branches, as both programs make them.
-/
import Derived.Test.YtjbeonicbcihlaaAnsW
import Derived.Test.YtjbeonicbcihlaaSShapeW
import Derived.Test.YtjbeonicbcihlaaIShapeW
import Derived.Laws.MakeOwn
import Derived.Laws.ResultCell
import Derived.Deep.DeepCutAuto
import Derived.Deep.RegionHeld3
namespace Go.Proofs.Ytjbeonicbcihlaa
open Go.RowKit

def NewP (n d : Int) : Prop := (2 ≤ n ∧ n ≤ 10) ∧ 1 ≤ d ∧ d ≤ 36
noncomputable def newOk (n d : Int) : Bool := @decide (NewP n d) (Classical.propDecidable _)
noncomputable def newD (n d : Int) : FsD := if newOk n d = true then newF n.toNat d.toNat else zeroF
theorem newOk_yes {n d : Int} (h : NewP n d) : newOk n d = true := by unfold newOk; exact @decide_eq_true _ (Classical.propDecidable _) h
theorem newOk_no {n d : Int} (h : ¬ NewP n d) : newOk n d = false := by unfold newOk; exact @decide_eq_false _ (Classical.propDecidable _) h
theorem newF_ns (n d : Nat) : (newF n d).ns = (List.replicate n zeroN).set 0 ⟨2, 0, 0, 0, []⟩ := rfl
theorem newF_len (n d : Nat) : (newF n d).ns.length = n ∧ (newF n d).ds.length = d := by simp [newF]
theorem newF_mem {n d : Nat} {x : NodeD} (h : x ∈ (newF n d).ns) : x = zeroN ∨ x = ⟨2, 0, 0, 0, []⟩ := by
  rcases List.mem_or_eq_of_mem_set h with h | h
  · left; exact (List.mem_replicate.1 h).2
  · right; exact h
theorem newF_all (n d : Nat) : allB (newF n d).ns = [] := by
  rw [allB, List.flatMap_eq_nil_iff]
  intro x hx
  rcases newF_mem hx with rfl | rfl <;> rfl
theorem newF_shape {n d : Nat} : ShapeP (newF n d) ↔ NewP n d := by
  have hl := newF_len n d
  constructor
  · intro h
    have h1 := h.1
    unfold CountP at h1
    unfold NewP
    omega
  · intro h
    unfold NewP at h
    refine ⟨by unfold CountP; omega, ⟨⟨2, 0, 0, 0, []⟩, ?_, rfl⟩, ?_, by rw [newF_all]; exact List.nodup_nil, ?_, ?_⟩
    · rw [newF_ns, List.getElem?_set_self (by simp; omega)]
    · intro x hx
      rcases newF_mem hx with rfl | rfl
      · exact .inl rfl
      · refine .inr ⟨by simp [NumP, blksFor], fun _ => ⟨rfl, rfl⟩, by simp [BlkP]⟩
    · intro x hx j y hj
      rcases newF_mem hx with rfl | rfl
      · simp [zeroN] at hj
      · simp at hj
    · intro k s hs _
      have : s ∈ List.replicate d (⟨#[]⟩ : ByteArray) := List.mem_of_getElem? hs
      rw [(List.mem_replicate.1 this).2]; rfl
theorem zeroF_sz : szF zeroF ≤ 1048576 := by simp [szF, zeroF, szN, szT]
theorem newF_sz {n d : Nat} (h : n ≤ 100) (h2 : d ≤ 100) : szF (newF n d) ≤ 1048576 := by
  have h1 : ∀ l : List NodeD, (∀ x ∈ l, x.b.length = 0) → szN l = l.length := by
    intro l
    induction l with
    | nil => intro _; rfl
    | cons x l ih =>
      intro h
      have := ih fun y hy => h y (by simp [hy])
      have h0 := h x (by simp)
      simp only [szN, List.map_cons, List.sum_cons, List.length_cons] at this ⊢
      omega
  have h3 : szT (List.replicate d (⟨#[]⟩ : ByteArray)) = d := by
    induction d with
    | zero => rfl
    | succ d ih =>
      have := ih (by omega)
      simp only [szT, List.replicate_succ, List.map_cons, List.sum_cons] at this ⊢
      have h4 : (⟨#[]⟩ : ByteArray).size = 0 := rfl
      omega
  have h4 := h1 (newF n d).ns (fun x hx => by rcases newF_mem hx with rfl | rfl <;> rfl)
  have h5 := (newF_len n d).1
  show szN (newF n d).ns + szT (List.replicate d (⟨#[]⟩ : ByteArray)) ≤ 1048576
  omega
theorem newD_sz (n d : Int) : szF (newD n d) ≤ 1048576 := by
  unfold newD
  split
  · rename_i h
    have hp : NewP n d := Classical.byContradiction fun h' => by rw [newOk_no h'] at h; cases h
    unfold NewP at hp
    exact newF_sz (by omega) (by omega)
  · exact zeroF_sz
theorem zeroF_own (w : World) (lo hi : Nat) : OwnFs w lo hi (.agg #[.slice none 0 0, .slice none 0 0]) zeroF :=
  ⟨_, _, rfl, ⟨[], rfl, ⟨World.ownsRow_nil _ _ _ _, fun x hx => (by simp at hx), List.Pairwise.nil, fun j hj => (by cases hj), fun x hx => (by simp at hx)⟩⟩, World.ownsRow_nil _ _ _ _, fun j hj => (by cases hj)⟩
/-- A row of zero nodes that was made, and a row of empty texts. -/
theorem made_nodes {w : World} {g n : Nat} {lo hi : Nat} (ho : w.ownsRow lo 51 5 (.slice (some ⟨g, 0, none⟩) n n) n ((List.replicate n zeroU).flatMap encU)) (hg : g < hi) : OwnL w lo hi (.slice (some ⟨g, 0, none⟩) n n) (List.replicate n zeroU) := by
  refine ⟨by rw [List.length_replicate]; exact ho, ?_, ?_, fun j hj => by cases hj; exact hg, ?_⟩
  · intro x hx
    rw [(List.mem_replicate.1 hx).2]
    exact World.ownsRow_nil _ _ _ _
  · rw [List.pairwise_replicate]
    right
    intro j hj
    cases hj
  · intro x hx j hj
    rw [(List.mem_replicate.1 hx).2] at hj
    cases hj
theorem res_rowF {P : Program} {fn : Func} {p u : Tmp} {ty : TypeId} (h : fn.results = #[.cell p ty, .tmp u]) (tmps : Array Value) (w : World) (g : Nat) (t : TypeId) (cs : Array Value) (d : TypeDesc)
    (hp : tmps.getD p undef = .pointer (some ⟨g, 0, none⟩)) (hg : Var w g cs t)
    (hu : P.underlying ty = some d) (hd : (match d with | .struct _ | .array _ _ => true | _ => false) = true) (hi : (P.info? ty).map (·.size) = some cs.size) :
    (results fn tmps).run P w = .ok (.tuple #[.agg cs, tmps.getD u undef]) w := by
  rw [results_cell_tmp h, hp]
  simp [asAddr, run_loadVar_row w g t ty cs (0, 0) d hg hu hd hi]
/-- While a branch is made: the answer's variable, the branch's, its two rows. -/
structure NwInv (w W : World) (g1 g2 Q n d : Nat) (M : List NodeU) : Prop where
  res : Var W w.heap.size #[.slice none 0 0, .slice none 0 0] 30
  var : Var W Q #[.slice (some ⟨g1, 0, none⟩) n n, .slice (some ⟨g2, 0, none⟩) d d] 30
  nod : OwnL W (w.heap.size + 1) W.heap.size (.slice (some ⟨g1, 0, none⟩) n n) M
  txt : W.ownsRow (w.heap.size + 1) 9 1 (.slice (some ⟨g2, 0, none⟩) d d) d ((List.replicate d (⟨#[]⟩ : ByteArray)).map Value.string)
  bel : Below w.heap.size w W
  far : w.heap.size < Q
theorem NwInv.new {w W W' : World} {g1 g2 Q n d : Nat} {M : List NodeU} (h : NwInv w W g1 g2 Q n d M) (hb : Below W.heap.size W W') : NwInv w W' g1 g2 Q n d M :=
  ⟨h.res.new hb, h.var.new hb, (h.nod.below hb).hi hb.size, ownsRow_below h.txt hb (Nat.le_refl _), h.bel.trans (hb.mono h.bel.size), h.far⟩
theorem NwInv.kind {w W : World} {g1 g2 Q n d : Nat} (h : NwInv w W g1 g2 Q n d (List.replicate n zeroU)) (hn : 0 < n) : NwInv w (W.setCell ⟨g1, 0, none⟩ (.int .i64 2)) g1 g2 Q n d ((List.replicate n zeroU).set 0 (⟨2, 0, 0, 0, []⟩, .slice none 0 0)) := by
  have hO : Only (fun k => k = g1) W (W.setCell ⟨g1, 0, none⟩ (.int .i64 2)) := Only.setCell (S := fun k => k = g1) (Only.refl _ _) (p := ⟨g1, 0, none⟩) rfl _
  have hg := (h.nod.row.lt g1 rfl).1
  have hs : (W.setCell ⟨g1, 0, none⟩ (.int .i64 2)).heap.size = W.heap.size := by simp [World.setCell]
  have hnq : Q ≠ g1 := by
    intro e
    have hv : W.heap[Q]? = _ := h.var
    rcases h.nod.row.2 with ⟨he, _⟩ | ⟨g, cap, cur, he, _, hgg, _⟩
    · cases he
    · injection he with he _ _
      injection he with he
      injection he with he _ _
      rw [e, he, hgg] at hv
      injection hv with hv
      injection hv with _ ht _
      exact absurd ht (by decide)
  refine ⟨h.res.only hO (by omega), h.var.only hO hnq, ?_, own_only h.txt hO (fun k hk e => own_apart h.txt h.nod.row (by decide) k hk (by rw [e]; rfl)), h.bel.trans (hO.below h.bel.size (fun k e => by omega)), h.far⟩
  have h0 : 0 < (List.replicate n zeroU).length := by simpa using hn
  have hl : n = (List.replicate n zeroU).length := by simp
  have hnod := h.nod
  have e0 : (List.replicate n zeroU)[0] = zeroU := List.getElem_replicate _
  rw [hs]
  have h1 : OwnL W (w.heap.size + 1) W.heap.size (.slice (some ⟨g1, 0, none⟩) (List.replicate n zeroU).length n) (List.replicate n zeroU) := by rw [← hl]; exact hnod
  have h2 := h1.set h0 0 (by omega) (⟨2, 0, 0, 0, []⟩ : NodeD) (.int .i64 2) (by rw [e0]; rfl) (by rw [e0]; rfl)
  rw [e0, ← hl] at h2
  simp only [Nat.zero_mul, Nat.add_zero] at h2
  exact h2
theorem NwInv.own {w W : World} {g1 g2 Q n d : Nat} {M : List NodeU} (h : NwInv w W g1 g2 Q n d M) (hM : M.map (·.1) = (newF n d).ns) : OwnFs W (w.heap.size + 1) W.heap.size (.agg #[.slice (some ⟨g1, 0, none⟩) n n, .slice (some ⟨g2, 0, none⟩) d d]) (newF n d) := by
  refine ⟨_, _, rfl, ⟨M, hM, h.nod⟩, ?_, fun j hj => (h.txt.lt j hj).2⟩
  rw [(newF_len n d).2]
  exact h.txt
theorem kind_map {n d : Nat} : ((List.replicate n zeroU).set 0 ((⟨2, 0, 0, 0, []⟩ : NodeD), Value.slice none 0 0)).map (·.1) = (newF n d).ns := by
  rw [newF_ns, List.map_set, List.map_replicate]; rfl
/-- The branch goes into the answer's variable. -/
theorem NwInv.done {w W : World} {g1 g2 Q n d : Nat} {M : List NodeU} (h : NwInv w W g1 g2 Q n d M) (hM : M.map (·.1) = (newF n d).ns) :
    Var ((W.setCell ⟨w.heap.size, 0, none⟩ (.slice (some ⟨g1, 0, none⟩) n n)).setCell ⟨w.heap.size, 1, none⟩ (.slice (some ⟨g2, 0, none⟩) d d)) w.heap.size #[.slice (some ⟨g1, 0, none⟩) n n, .slice (some ⟨g2, 0, none⟩) d d] 30 ∧
      OwnFs ((W.setCell ⟨w.heap.size, 0, none⟩ (.slice (some ⟨g1, 0, none⟩) n n)).setCell ⟨w.heap.size, 1, none⟩ (.slice (some ⟨g2, 0, none⟩) d d)) w.heap.size ((W.setCell ⟨w.heap.size, 0, none⟩ (.slice (some ⟨g1, 0, none⟩) n n)).setCell ⟨w.heap.size, 1, none⟩ (.slice (some ⟨g2, 0, none⟩) d d)).heap.size (.agg #[.slice (some ⟨g1, 0, none⟩) n n, .slice (some ⟨g2, 0, none⟩) d d]) (newF n d) ∧
      Below w.heap.size w ((W.setCell ⟨w.heap.size, 0, none⟩ (.slice (some ⟨g1, 0, none⟩) n n)).setCell ⟨w.heap.size, 1, none⟩ (.slice (some ⟨g2, 0, none⟩) d d)) := by
  have hO : Only (fun k => k = w.heap.size) W ((W.setCell ⟨w.heap.size, 0, none⟩ (.slice (some ⟨g1, 0, none⟩) n n)).setCell ⟨w.heap.size, 1, none⟩ (.slice (some ⟨g2, 0, none⟩) d d)) := (Only.setCell (S := fun k => k = w.heap.size) (Only.refl _ _) (p := ⟨w.heap.size, 0, none⟩) rfl _).setCell (p := ⟨w.heap.size, 1, none⟩) rfl _
  have hv := (h.res.set 0 (.slice (some ⟨g1, 0, none⟩) n n)).set 1 (.slice (some ⟨g2, 0, none⟩) d d)
  refine ⟨by simpa using hv, ?_, h.bel.trans (hO.below h.bel.size (fun k e => by omega))⟩
  exact (((h.own hM).only hO (fun k h1 _ e => by omega)).base (by omega)).hi (by simp [World.setCell])
theorem World.size_alloc3 (W : World) (o : Obj) : (W.alloc o).heap.size = W.heap.size + 1 := by simp
theorem NwInv.made {w W : World} {n d : Nat} {M1 M2 : Array Value} (hb : Below w.heap.size w W) (hr : Var W w.heap.size #[.slice none 0 0, .slice none 0 0] 30) (h1 : M1 = madeCells #[.int .i64 0, .int .i64 0, .int .i64 0, .int .i64 0, .slice none 0 0] (n * 5)) (h2 : M2 = madeCells #[.string ⟨#[]⟩] d) (hn : n ≤ 1000) (hd : d ≤ 1000) :
    NwInv w (((W.alloc (.cells M1 51)).alloc (.cells M2 9)).alloc (.cells #[.slice (some ⟨W.heap.size, 0, none⟩) n n, .slice (some ⟨(W.heap.size + 1), 0, none⟩) d d] 30)) W.heap.size (W.heap.size + 1) (W.heap.size + 1 + 1) n d (List.replicate n zeroU) ∧
    NwInv w (((W.alloc (.cells M1 51)).alloc (.cells #[.slice (some ⟨W.heap.size, 0, none⟩) n n, .slice (some ⟨(W.heap.size + 1 + 1), 0, none⟩) d d] 30)).alloc (.cells M2 9)) W.heap.size (W.heap.size + 1 + 1) (W.heap.size + 1) n d (List.replicate n zeroU) ∧
    NwInv w (((W.alloc (.cells M2 9)).alloc (.cells M1 51)).alloc (.cells #[.slice (some ⟨(W.heap.size + 1), 0, none⟩) n n, .slice (some ⟨W.heap.size, 0, none⟩) d d] 30)) (W.heap.size + 1) W.heap.size (W.heap.size + 1 + 1) n d (List.replicate n zeroU) ∧
    NwInv w (((W.alloc (.cells M2 9)).alloc (.cells #[.slice (some ⟨(W.heap.size + 1 + 1), 0, none⟩) n n, .slice (some ⟨W.heap.size, 0, none⟩) d d] 30)).alloc (.cells M1 51)) (W.heap.size + 1 + 1) W.heap.size (W.heap.size + 1) n d (List.replicate n zeroU) ∧
    NwInv w (((W.alloc (.cells #[.slice (some ⟨(W.heap.size + 1), 0, none⟩) n n, .slice (some ⟨(W.heap.size + 1 + 1), 0, none⟩) d d] 30)).alloc (.cells M1 51)).alloc (.cells M2 9)) (W.heap.size + 1) (W.heap.size + 1 + 1) W.heap.size n d (List.replicate n zeroU) ∧
    NwInv w (((W.alloc (.cells #[.slice (some ⟨(W.heap.size + 1 + 1), 0, none⟩) n n, .slice (some ⟨(W.heap.size + 1), 0, none⟩) d d] 30)).alloc (.cells M2 9)).alloc (.cells M1 51)) (W.heap.size + 1 + 1) (W.heap.size + 1) W.heap.size n d (List.replicate n zeroU) := by
  have e1 : M1.toList = (List.replicate n zeroU).flatMap encU := by rw [h1]; exact made_flat encU_len zeroU #[.int .i64 0, .int .i64 0, .int .i64 0, .int .i64 0, .slice none 0 0] rfl (by omega) n
  have e2 : M2.toList = (List.replicate d (⟨#[]⟩ : ByteArray)).map Value.string := by rw [h2]; exact made_txt d
  have s1 : M1.size = n * 5 := by rw [h1, size_madeCells]
  have s2 : M2.size = d * 1 := by rw [h2, size_madeCells, Nat.mul_one]
  have hlt := hr.lt
  have o1 : ∀ V : World, w.heap.size + 1 ≤ V.heap.size → (V.alloc (.cells M1 51)).ownsRow (w.heap.size + 1) 51 5 (.slice (some ⟨V.heap.size, 0, none⟩) n n) n ((List.replicate n zeroU).flatMap encU) := fun V hV => ⟨by rw [← e1, Array.length_toList, s1], .inr ⟨V.heap.size, n, M1, rfl, hV, heap_alloc_new V _, Nat.le_refl _, by unfold maxLen; omega, s1, by rw [e1]; exact List.take_of_length_le (by rw [← e1, Array.length_toList, s1]; exact Nat.le_refl _)⟩⟩
  have o2 : ∀ V : World, w.heap.size + 1 ≤ V.heap.size → (V.alloc (.cells M2 9)).ownsRow (w.heap.size + 1) 9 1 (.slice (some ⟨V.heap.size, 0, none⟩) d d) d ((List.replicate d (⟨#[]⟩ : ByteArray)).map Value.string) := fun V hV => ⟨by rw [← e2, Array.length_toList, s2], .inr ⟨V.heap.size, d, M2, rfl, hV, heap_alloc_new V _, Nat.le_refl _, by unfold maxLen; omega, s2, by rw [e2]; exact List.take_of_length_le (by rw [← e2, Array.length_toList, s2]; exact Nat.le_refl _)⟩⟩
  refine ⟨?_, ?_, ?_, ?_, ?_, ?_⟩
  · have p1 := o1 W (by first | omega | (simp; omega) | simp)
    have p2 := o2 (W.alloc (.cells M1 51)) (by first | omega | (simp; omega) | simp)
    simp only [World.size_alloc3] at p1 p2
    exact ⟨((hr.alloc _).alloc _).alloc _, (Var.made3 W _ _ _ _), made_nodes ((p1.alloc _).alloc _) (by first | omega | (simp; omega) | simp), (p2.alloc _), hb.trans ((below3 W _ _ _).mono hb.size), by omega⟩
  · have p1 := o1 W (by first | omega | (simp; omega) | simp)
    have p2 := o2 ((W.alloc (.cells M1 51)).alloc (.cells #[.slice (some ⟨W.heap.size, 0, none⟩) n n, .slice (some ⟨(W.heap.size + 1 + 1), 0, none⟩) d d] 30)) (by first | omega | (simp; omega) | simp)
    simp only [World.size_alloc3] at p1 p2
    exact ⟨((hr.alloc _).alloc _).alloc _, ((Var.made2 W _ _ _).alloc _), made_nodes ((p1.alloc _).alloc _) (by first | omega | (simp; omega) | simp), p2, hb.trans ((below3 W _ _ _).mono hb.size), by omega⟩
  · have p1 := o1 (W.alloc (.cells M2 9)) (by first | omega | (simp; omega) | simp)
    have p2 := o2 W (by first | omega | (simp; omega) | simp)
    simp only [World.size_alloc3] at p1 p2
    exact ⟨((hr.alloc _).alloc _).alloc _, (Var.made3 W _ _ _ _), made_nodes (p1.alloc _) (by first | omega | (simp; omega) | simp), ((p2.alloc _).alloc _), hb.trans ((below3 W _ _ _).mono hb.size), by omega⟩
  · have p1 := o1 ((W.alloc (.cells M2 9)).alloc (.cells #[.slice (some ⟨(W.heap.size + 1 + 1), 0, none⟩) n n, .slice (some ⟨W.heap.size, 0, none⟩) d d] 30)) (by first | omega | (simp; omega) | simp)
    have p2 := o2 W (by first | omega | (simp; omega) | simp)
    simp only [World.size_alloc3] at p1 p2
    exact ⟨((hr.alloc _).alloc _).alloc _, ((Var.made2 W _ _ _).alloc _), made_nodes p1 (by first | omega | (simp; omega) | simp), ((p2.alloc _).alloc _), hb.trans ((below3 W _ _ _).mono hb.size), by omega⟩
  · have p1 := o1 (W.alloc (.cells #[.slice (some ⟨(W.heap.size + 1), 0, none⟩) n n, .slice (some ⟨(W.heap.size + 1 + 1), 0, none⟩) d d] 30)) (by first | omega | (simp; omega) | simp)
    have p2 := o2 ((W.alloc (.cells #[.slice (some ⟨(W.heap.size + 1), 0, none⟩) n n, .slice (some ⟨(W.heap.size + 1 + 1), 0, none⟩) d d] 30)).alloc (.cells M1 51)) (by first | omega | (simp; omega) | simp)
    simp only [World.size_alloc3] at p1 p2
    exact ⟨((hr.alloc _).alloc _).alloc _, (((Var.made W _ _).alloc _).alloc _), made_nodes (p1.alloc _) (by first | omega | (simp; omega) | simp), p2, hb.trans ((below3 W _ _ _).mono hb.size), by omega⟩
  · have p1 := o1 ((W.alloc (.cells #[.slice (some ⟨(W.heap.size + 1 + 1), 0, none⟩) n n, .slice (some ⟨(W.heap.size + 1), 0, none⟩) d d] 30)).alloc (.cells M2 9)) (by first | omega | (simp; omega) | simp)
    have p2 := o2 (W.alloc (.cells #[.slice (some ⟨(W.heap.size + 1 + 1), 0, none⟩) n n, .slice (some ⟨(W.heap.size + 1), 0, none⟩) d d] 30)) (by first | omega | (simp; omega) | simp)
    simp only [World.size_alloc3] at p1 p2
    exact ⟨((hr.alloc _).alloc _).alloc _, (((Var.made W _ _).alloc _).alloc _), made_nodes p1 (by first | omega | (simp; omega) | simp), (p2.alloc _), hb.trans ((below3 W _ _ _).mono hb.size), by omega⟩
theorem and_noI {x lo hi : Int} (h : ¬ (lo ≤ x ∧ x ≤ hi)) : (decide (lo ≤ x) && decide (x ≤ hi)) = false := by
  rw [Bool.and_eq_false_iff]
  by_cases h9 : lo ≤ x
  · right; exact decide_eq_false fun h8 => h ⟨h9, h8⟩
  · left; exact decide_eq_false h9
--NEW

set_option maxRecDepth 20000 in
set_option maxHeartbeats 4000000 in
theorem specFsNew (x y : Int) (w : World) :
    Calls Try.prog 15 #[.int .i64 x, .int .i64 y] w fun e w' => ∃ u, e = .returned (.tuple #[u, .bool (newOk x y)]) ∧ OwnFs w' w.heap.size w'.heap.size u (newD x y) ∧ Below w.heap.size w w' := by
  obtain ⟨i0, hi, hz0, hz1, hz2⟩ := info_parts Try.infoNode
  obtain ⟨i1, gi, gz0, gz1, gz2⟩ := info_parts Try.infoTxt
  have hX : Var (w.alloc (.cells #[.slice none 0 0, .slice none 0 0] 30)) w.heap.size #[.slice none 0 0, .slice none 0 0] 30 := Var.made _ _ _
  have hb1 : Below w.heap.size w (w.alloc (.cells #[.slice none 0 0, .slice none 0 0] 30)) := below1 _ _
  have HZO : Hid (∀ W, OwnFs W w.heap.size W.heap.size (.agg #[.slice none 0 0, .slice none 0 0]) zeroF) := fun W => zeroF_own _ _ _
  have HIN1 : Hid (∀ Q W, (decide (2 ≤ x) && decide (x ≤ 10)) = Q → Calls Try.prog 37 #[.int .i64 x, .int .i64 2, .int .i64 10] W fun e w' => e = .returned (.bool Q) ∧ w' = W) := by
    rintro Q W rfl
    exact inW x 2 10 W
  have HIN2 : Hid (∀ Q W, (decide (1 ≤ y) && decide (y ≤ 36)) = Q → Calls Try.prog 37 #[.int .i64 y, .int .i64 1, .int .i64 36] W fun e w' => e = .returned (.bool Q) ∧ w' = W) := by
    rintro Q W rfl
    exact inW y 1 36 W
  by_cases p1 : 2 ≤ x ∧ x ≤ 10
  rotate_left
  · have HN : Hid (newOk x y = false) := newOk_no fun h => p1 (by unfold NewP at h; omega)
    have HD : Hid (newD x y = zeroF) := by show _ = _; unfold newD; rw [HN.out]; rfl
    have HI3 : Hid (Calls Try.prog 37 #[.int .i64 x, .int .i64 2, .int .i64 10] (w.alloc (.cells #[.slice none 0 0, .slice none 0 0] 30)) fun e w' => e = .returned (.bool false) ∧ w' = (w.alloc (.cells #[.slice none 0 0, .slice none 0 0] 30))) := HIN1.out false _ (and_noI p1)
    clear HIN1 HIN2 p1
    go_enter Try.func15, Try.ntmps15
    go_wp2_with fail
    refine HI3.out.mono ?_
    rintro e w1 ⟨rfl, hw1⟩
    subst w1
    go_wp2
    refine bodyPost_ret (res_rowF rfl _ _ w.heap.size 30 #[.slice none 0 0, .slice none 0 0] _ rfl hX Try.underlying30 rfl Try.sizeFs) rfl ?_
    exact ⟨_, by rw [HN.out]; rfl, by rw [HD.out]; exact HZO.out _, hb1⟩
  have HI3 : Hid (Calls Try.prog 37 #[.int .i64 x, .int .i64 2, .int .i64 10] (w.alloc (.cells #[.slice none 0 0, .slice none 0 0] 30)) fun e w' => e = .returned (.bool true) ∧ w' = (w.alloc (.cells #[.slice none 0 0, .slice none 0 0] 30))) := HIN1.out true _ (by rw [decide_eq_true p1.1, decide_eq_true p1.2]; rfl)
  by_cases p2 : 1 ≤ y ∧ y ≤ 36
  rotate_left
  · have HN : Hid (newOk x y = false) := newOk_no fun h => p2 (by unfold NewP at h; omega)
    have HD : Hid (newD x y = zeroF) := by show _ = _; unfold newD; rw [HN.out]; rfl
    have HI4 : Hid (Calls Try.prog 37 #[.int .i64 y, .int .i64 1, .int .i64 36] (w.alloc (.cells #[.slice none 0 0, .slice none 0 0] 30)) fun e w' => e = .returned (.bool false) ∧ w' = (w.alloc (.cells #[.slice none 0 0, .slice none 0 0] 30))) := HIN2.out false _ (and_noI p2)
    clear HIN1 HIN2 p1 p2
    go_enter Try.func15, Try.ntmps15
    go_wp2_with fail
    refine HI3.out.mono ?_
    rintro e w1 ⟨rfl, hw1⟩
    subst w1
    go_wp2_with fail
    refine HI4.out.mono ?_
    rintro e w1 ⟨rfl, hw1⟩
    subst w1
    go_wp2
    refine bodyPost_ret (res_rowF rfl _ _ w.heap.size 30 #[.slice none 0 0, .slice none 0 0] _ rfl hX Try.underlying30 rfl Try.sizeFs) rfl ?_
    exact ⟨_, by rw [HN.out]; rfl, by rw [HD.out]; exact HZO.out _, hb1⟩
  have HI4 : Hid (Calls Try.prog 37 #[.int .i64 y, .int .i64 1, .int .i64 36] (w.alloc (.cells #[.slice none 0 0, .slice none 0 0] 30)) fun e w' => e = .returned (.bool true) ∧ w' = (w.alloc (.cells #[.slice none 0 0, .slice none 0 0] 30))) := HIN2.out true _ (by rw [decide_eq_true p2.1, decide_eq_true p2.2]; rfl)
  obtain ⟨n, rfl⟩ : ∃ n : Nat, x = (n : Int) := ⟨x.toNat, by omega⟩
  obtain ⟨d, rfl⟩ : ∃ d : Nat, y = (d : Int) := ⟨y.toNat, by omega⟩
  have HSH : Hid (shOk (newF n d) = newOk n d) := by
    refine shOk_of ?_
    rw [newF_shape]
    unfold newOk
    exact @decide_eq_true_iff _ (Classical.propDecidable _)
  have HDN : Hid (newOk n d = true → newD n d = newF n d) := fun h => by unfold newD; rw [if_pos h]; rfl
  have HDZ : Hid (newOk n d = false → newD n d = zeroF) := fun h => by unfold newD; rw [h]; rfl
  have hn10 : n ≤ 10 := by omega
  have hd36 : d ≤ 36 := by omega
  obtain ⟨M1, hM1⟩ : ∃ M, M = madeCells #[.int .i64 0, .int .i64 0, .int .i64 0, .int .i64 0, .slice none 0 0] (n * 5) := ⟨_, rfl⟩
  obtain ⟨M2, hM2⟩ : ∃ M, M = madeCells #[Value.string ⟨#[]⟩] d := ⟨_, rfl⟩
  have hmk1 : ∀ W : World, (Instr.makeSlice 28 (.int .i64 (n : Int)) (.int .i64 (n : Int))).run Try.prog W = .ok (.slice (some ⟨W.heap.size, 0, none⟩) n n) (W.alloc (.cells M1 51)) := fun W => by
    have h := run_makeSlice (P := Try.prog) W 28 51 i0 (.agg #[.int .i64 0, .int .i64 0, .int .i64 0, .int .i64 0, .slice none 0 0]) Try.underlying28 hi hz0 .i64 .i64 (n : Int) (n : Int) (by omega) (by omega) (by rw [hz1]; omega) (by rw [hz2]; omega) (by omega)
    rw [hM1]
    rw [hz1] at h
    simpa [Value.cells] using h
  have hmk2 : ∀ W : World, (Instr.makeSlice 23 (.int .i64 (d : Int)) (.int .i64 (d : Int))).run Try.prog W = .ok (.slice (some ⟨W.heap.size, 0, none⟩) d d) (W.alloc (.cells M2 9)) := fun W => by
    have h := run_makeSlice (P := Try.prog) W 23 9 i1 (.string ⟨#[]⟩) Try.underlying23 gi gz0 .i64 .i64 (d : Int) (d : Int) (by omega) (by omega) (by rw [gz1]; omega) (by rw [gz2]; omega) (by omega)
    rw [hM2]
    rw [gz1] at h
    simpa [Value.cells] using h
  have HMD : Hid (∀ W, Below w.heap.size w W → Var W w.heap.size #[.slice none 0 0, .slice none 0 0] 30 → NwInv w (((W.alloc (.cells M1 51)).alloc (.cells M2 9)).alloc (.cells #[.slice (some ⟨W.heap.size, 0, none⟩) n n, .slice (some ⟨(W.heap.size + 1), 0, none⟩) d d] 30)) W.heap.size (W.heap.size + 1) (W.heap.size + 1 + 1) n d (List.replicate n zeroU) ∧ NwInv w (((W.alloc (.cells M1 51)).alloc (.cells #[.slice (some ⟨W.heap.size, 0, none⟩) n n, .slice (some ⟨(W.heap.size + 1 + 1), 0, none⟩) d d] 30)).alloc (.cells M2 9)) W.heap.size (W.heap.size + 1 + 1) (W.heap.size + 1) n d (List.replicate n zeroU) ∧ NwInv w (((W.alloc (.cells M2 9)).alloc (.cells M1 51)).alloc (.cells #[.slice (some ⟨(W.heap.size + 1), 0, none⟩) n n, .slice (some ⟨W.heap.size, 0, none⟩) d d] 30)) (W.heap.size + 1) W.heap.size (W.heap.size + 1 + 1) n d (List.replicate n zeroU) ∧ NwInv w (((W.alloc (.cells M2 9)).alloc (.cells #[.slice (some ⟨(W.heap.size + 1 + 1), 0, none⟩) n n, .slice (some ⟨W.heap.size, 0, none⟩) d d] 30)).alloc (.cells M1 51)) (W.heap.size + 1 + 1) W.heap.size (W.heap.size + 1) n d (List.replicate n zeroU) ∧ NwInv w (((W.alloc (.cells #[.slice (some ⟨(W.heap.size + 1), 0, none⟩) n n, .slice (some ⟨(W.heap.size + 1 + 1), 0, none⟩) d d] 30)).alloc (.cells M1 51)).alloc (.cells M2 9)) (W.heap.size + 1) (W.heap.size + 1 + 1) W.heap.size n d (List.replicate n zeroU) ∧ NwInv w (((W.alloc (.cells #[.slice (some ⟨(W.heap.size + 1 + 1), 0, none⟩) n n, .slice (some ⟨(W.heap.size + 1), 0, none⟩) d d] 30)).alloc (.cells M2 9)).alloc (.cells M1 51)) (W.heap.size + 1 + 1) (W.heap.size + 1) W.heap.size n d (List.replicate n zeroU)) := fun W h1 h2 => NwInv.made h1 h2 hM1 hM2 (by omega) (by omega)
  clear hM1 hM2 HIN1 HIN2
  go_enter Try.func15, Try.ntmps15
  go_wp2_with fail
  refine HI3.out.mono ?_
  rintro e w1 ⟨rfl, hw1⟩
  subst w1
  go_wp2_with fail
  refine HI4.out.mono ?_
  rintro e w1 ⟨rfl, hw1⟩
  subst w1
  clear HI3 HI4
  generalize (w.alloc (.cells #[.slice none 0 0, .slice none 0 0] 30)) = W1 at *
  have HM := HMD.out W1.drew hb1.drew hX
  have HM1 : Hid (NwInv w (((W1.drew.alloc (.cells M1 51)).alloc (.cells M2 9)).alloc (.cells #[.slice (some ⟨W1.heap.size, 0, none⟩) n n, .slice (some ⟨(W1.heap.size + 1), 0, none⟩) d d] 30)) W1.heap.size (W1.heap.size + 1) (W1.heap.size + 1 + 1) n d (List.replicate n zeroU)) := HM.1
  have HM2 : Hid (NwInv w (((W1.drew.alloc (.cells M1 51)).alloc (.cells #[.slice (some ⟨W1.heap.size, 0, none⟩) n n, .slice (some ⟨(W1.heap.size + 1 + 1), 0, none⟩) d d] 30)).alloc (.cells M2 9)) W1.heap.size (W1.heap.size + 1 + 1) (W1.heap.size + 1) n d (List.replicate n zeroU)) := HM.2.1
  have HM3 : Hid (NwInv w (((W1.drew.alloc (.cells M2 9)).alloc (.cells M1 51)).alloc (.cells #[.slice (some ⟨(W1.heap.size + 1), 0, none⟩) n n, .slice (some ⟨W1.heap.size, 0, none⟩) d d] 30)) (W1.heap.size + 1) W1.heap.size (W1.heap.size + 1 + 1) n d (List.replicate n zeroU)) := HM.2.2.1
  have HM4 : Hid (NwInv w (((W1.drew.alloc (.cells M2 9)).alloc (.cells #[.slice (some ⟨(W1.heap.size + 1 + 1), 0, none⟩) n n, .slice (some ⟨W1.heap.size, 0, none⟩) d d] 30)).alloc (.cells M1 51)) (W1.heap.size + 1 + 1) W1.heap.size (W1.heap.size + 1) n d (List.replicate n zeroU)) := HM.2.2.2.1
  have HM5 : Hid (NwInv w (((W1.drew.alloc (.cells #[.slice (some ⟨(W1.heap.size + 1), 0, none⟩) n n, .slice (some ⟨(W1.heap.size + 1 + 1), 0, none⟩) d d] 30)).alloc (.cells M1 51)).alloc (.cells M2 9)) (W1.heap.size + 1) (W1.heap.size + 1 + 1) W1.heap.size n d (List.replicate n zeroU)) := HM.2.2.2.2.1
  have HM6 : Hid (NwInv w (((W1.drew.alloc (.cells #[.slice (some ⟨(W1.heap.size + 1 + 1), 0, none⟩) n n, .slice (some ⟨(W1.heap.size + 1), 0, none⟩) d d] 30)).alloc (.cells M2 9)).alloc (.cells M1 51)) (W1.heap.size + 1 + 1) (W1.heap.size + 1) W1.heap.size n d (List.replicate n zeroU)) := HM.2.2.2.2.2
  clear HM HMD
  go_upto_region 3 with fail
  go_cut [6] (fun v wx => Hid (∃ g1 g2 Q, v = .pointer (some ⟨Q, 0, none⟩) ∧ NwInv w wx g1 g2 Q n d (List.replicate n zeroU)))
  case first =>
    go_region
    all_goals
      go_wp2
      go_meet
      first
      | exact ⟨_, _, _, rfl, HM1.out⟩
      | exact ⟨_, _, _, rfl, HM2.out⟩
      | exact ⟨_, _, _, rfl, HM3.out⟩
      | exact ⟨_, _, _, rfl, HM4.out⟩
      | exact ⟨_, _, _, rfl, HM5.out⟩
      | exact ⟨_, _, _, rfl, HM6.out⟩
  case rest =>
    obtain ⟨g1, g2, Q, hu6, hI⟩ := hcut.out
    subst hu6
    clear hcut HM1 HM2 HM3 HM4 HM5 HM6 hmk1 hmk2 hX hb1
    have HN : Hid (newOk n d = true) := newOk_yes ⟨p1, p2⟩
    have hn0 : 0 < n := by omega
    have HMAP : Hid (((List.replicate n zeroU).set 0 ((⟨2, 0, 0, 0, []⟩ : NodeD), Value.slice none 0 0)).map (·.1) = (newF n d).ns) := kind_map
    generalize wc = W2 at *
    have hrow := hI.nod.row
    rw [List.length_replicate] at hrow
    have k0 : W2.cell? ⟨g1, 0, none⟩ = some (.int .i64 0) := by
      have h := hrow.cellAt 0 (by omega)
      have hc := (uCells (M := List.replicate n zeroU) (i := 0) (by simpa using hn0)).1
      rw [Nat.zero_mul] at hc
      rw [h, hc]
      simp [zeroU, zeroN]
    have f0 := hrow.frozenAt 0
    clear hrow
    have v0 := hI.var.cell 0
    simp at v0
    have hI2 := hI.kind hn0
    have hn1 : (0 : Int) < (n : Int) := by omega
    clear hI
    go_upto_region 5 with fail
    clear k0 f0 v0
    generalize W2.setCell ⟨g1, 0, none⟩ (.int .i64 2) = W3 at *
    have r0 := hI2.res.cell 0
    have r1 := hI2.res.cell 1
    have q0 := hI2.res.frozen 0
    have q1 := hI2.res.frozen 1
    have v0 := hI2.var.cell 0
    have v1 := hI2.var.cell 1
    simp at r0 r1 v0 v1
    have HDN2 := hI2.done HMAP.out
    have HDN3 : Hid _ := HDN2
    have hfar := hI2.far
    have hne : ¬ w.heap.size = Q := by omega
    clear HDN2 hI2
    go_wp2
    refine bodyPost_ret (res_rowF rfl _ _ w.heap.size 30 #[.slice (some ⟨g1, 0, none⟩) n n, .slice (some ⟨g2, 0, none⟩) d d] _ rfl HDN3.out.1 Try.underlying30 rfl Try.sizeFs) rfl ?_
    exact ⟨_, by rw [HN.out]; rfl, by rw [HDN.out HN.out]; exact HDN3.out.2.1, HDN3.out.2.2⟩

set_option maxRecDepth 20000 in
set_option maxHeartbeats 4000000 in
theorem implFsNew (x y : Int) (w : World) :
    Calls Try.prog 16 #[.int .i64 x, .int .i64 y] w fun e w' => ∃ u, e = .returned (.tuple #[u, .bool (newOk x y)]) ∧ OwnFs w' w.heap.size w'.heap.size u (newD x y) ∧ Below w.heap.size w w' := by
  obtain ⟨i0, hi, hz0, hz1, hz2⟩ := info_parts Try.infoNode
  obtain ⟨i1, gi, gz0, gz1, gz2⟩ := info_parts Try.infoTxt
  have hX : Var (w.alloc (.cells #[.slice none 0 0, .slice none 0 0] 30)) w.heap.size #[.slice none 0 0, .slice none 0 0] 30 := Var.made _ _ _
  have hb1 : Below w.heap.size w (w.alloc (.cells #[.slice none 0 0, .slice none 0 0] 30)) := below1 _ _
  have HZO : Hid (∀ W, OwnFs W w.heap.size W.heap.size (.agg #[.slice none 0 0, .slice none 0 0]) zeroF) := fun W => zeroF_own _ _ _
  have HIN1 : Hid (∀ Q W, (decide (0 ≤ x) && decide (x ≤ 10)) = Q → Calls Try.prog 49 #[.int .i64 x, .int .i64 10] W fun e w' => e = .returned (.bool Q) ∧ w' = W) := by
    rintro Q W rfl
    exact upToW x 10 W
  have HIN2 : Hid (∀ Q W, (decide (0 ≤ y) && decide (y ≤ 36)) = Q → Calls Try.prog 49 #[.int .i64 y, .int .i64 36] W fun e w' => e = .returned (.bool Q) ∧ w' = W) := by
    rintro Q W rfl
    exact upToW y 36 W
  by_cases p1 : 0 ≤ x ∧ x ≤ 10
  rotate_left
  · have HN : Hid (newOk x y = false) := newOk_no fun h => p1 (by unfold NewP at h; omega)
    have HD : Hid (newD x y = zeroF) := by show _ = _; unfold newD; rw [HN.out]; rfl
    have HI3 : Hid (Calls Try.prog 49 #[.int .i64 x, .int .i64 10] (w.alloc (.cells #[.slice none 0 0, .slice none 0 0] 30)) fun e w' => e = .returned (.bool false) ∧ w' = (w.alloc (.cells #[.slice none 0 0, .slice none 0 0] 30))) := HIN1.out false _ (and_noI p1)
    clear HIN1 HIN2 p1
    go_enter Try.func16, Try.ntmps16
    go_wp2_with fail
    refine HI3.out.mono ?_
    rintro e w1 ⟨rfl, hw1⟩
    subst w1
    go_wp2
    refine bodyPost_ret (res_rowF rfl _ _ w.heap.size 30 #[.slice none 0 0, .slice none 0 0] _ rfl hX Try.underlying30 rfl Try.sizeFs) rfl ?_
    exact ⟨_, by rw [HN.out]; rfl, by rw [HD.out]; exact HZO.out _, hb1⟩
  have HI3 : Hid (Calls Try.prog 49 #[.int .i64 x, .int .i64 10] (w.alloc (.cells #[.slice none 0 0, .slice none 0 0] 30)) fun e w' => e = .returned (.bool true) ∧ w' = (w.alloc (.cells #[.slice none 0 0, .slice none 0 0] 30))) := HIN1.out true _ (by rw [decide_eq_true p1.1, decide_eq_true p1.2]; rfl)
  by_cases p2 : 0 ≤ y ∧ y ≤ 36
  rotate_left
  · have HN : Hid (newOk x y = false) := newOk_no fun h => p2 (by unfold NewP at h; omega)
    have HD : Hid (newD x y = zeroF) := by show _ = _; unfold newD; rw [HN.out]; rfl
    have HI4 : Hid (Calls Try.prog 49 #[.int .i64 y, .int .i64 36] (w.alloc (.cells #[.slice none 0 0, .slice none 0 0] 30)) fun e w' => e = .returned (.bool false) ∧ w' = (w.alloc (.cells #[.slice none 0 0, .slice none 0 0] 30))) := HIN2.out false _ (and_noI p2)
    clear HIN1 HIN2 p1 p2
    go_enter Try.func16, Try.ntmps16
    go_wp2_with fail
    refine HI3.out.mono ?_
    rintro e w1 ⟨rfl, hw1⟩
    subst w1
    go_wp2_with fail
    refine HI4.out.mono ?_
    rintro e w1 ⟨rfl, hw1⟩
    subst w1
    go_wp2
    refine bodyPost_ret (res_rowF rfl _ _ w.heap.size 30 #[.slice none 0 0, .slice none 0 0] _ rfl hX Try.underlying30 rfl Try.sizeFs) rfl ?_
    exact ⟨_, by rw [HN.out]; rfl, by rw [HD.out]; exact HZO.out _, hb1⟩
  have HI4 : Hid (Calls Try.prog 49 #[.int .i64 y, .int .i64 36] (w.alloc (.cells #[.slice none 0 0, .slice none 0 0] 30)) fun e w' => e = .returned (.bool true) ∧ w' = (w.alloc (.cells #[.slice none 0 0, .slice none 0 0] 30))) := HIN2.out true _ (by rw [decide_eq_true p2.1, decide_eq_true p2.2]; rfl)
  obtain ⟨n, rfl⟩ : ∃ n : Nat, x = (n : Int) := ⟨x.toNat, by omega⟩
  obtain ⟨d, rfl⟩ : ∃ d : Nat, y = (d : Int) := ⟨y.toNat, by omega⟩
  have HSH : Hid (shOk (newF n d) = newOk n d) := by
    refine shOk_of ?_
    rw [newF_shape]
    unfold newOk
    exact @decide_eq_true_iff _ (Classical.propDecidable _)
  have HDN : Hid (newOk n d = true → newD n d = newF n d) := fun h => by unfold newD; rw [if_pos h]; rfl
  have HDZ : Hid (newOk n d = false → newD n d = zeroF) := fun h => by unfold newD; rw [h]; rfl
  have hn10 : n ≤ 10 := by omega
  have hd36 : d ≤ 36 := by omega
  obtain ⟨M1, hM1⟩ : ∃ M, M = madeCells #[.int .i64 0, .int .i64 0, .int .i64 0, .int .i64 0, .slice none 0 0] (n * 5) := ⟨_, rfl⟩
  obtain ⟨M2, hM2⟩ : ∃ M, M = madeCells #[Value.string ⟨#[]⟩] d := ⟨_, rfl⟩
  have hmk1 : ∀ W : World, (Instr.makeSlice 28 (.int .i64 (n : Int)) (.int .i64 (n : Int))).run Try.prog W = .ok (.slice (some ⟨W.heap.size, 0, none⟩) n n) (W.alloc (.cells M1 51)) := fun W => by
    have h := run_makeSlice (P := Try.prog) W 28 51 i0 (.agg #[.int .i64 0, .int .i64 0, .int .i64 0, .int .i64 0, .slice none 0 0]) Try.underlying28 hi hz0 .i64 .i64 (n : Int) (n : Int) (by omega) (by omega) (by rw [hz1]; omega) (by rw [hz2]; omega) (by omega)
    rw [hM1]
    rw [hz1] at h
    simpa [Value.cells] using h
  have hmk2 : ∀ W : World, (Instr.makeSlice 23 (.int .i64 (d : Int)) (.int .i64 (d : Int))).run Try.prog W = .ok (.slice (some ⟨W.heap.size, 0, none⟩) d d) (W.alloc (.cells M2 9)) := fun W => by
    have h := run_makeSlice (P := Try.prog) W 23 9 i1 (.string ⟨#[]⟩) Try.underlying23 gi gz0 .i64 .i64 (d : Int) (d : Int) (by omega) (by omega) (by rw [gz1]; omega) (by rw [gz2]; omega) (by omega)
    rw [hM2]
    rw [gz1] at h
    simpa [Value.cells] using h
  have HMD : Hid (∀ W, Below w.heap.size w W → Var W w.heap.size #[.slice none 0 0, .slice none 0 0] 30 → NwInv w (((W.alloc (.cells M1 51)).alloc (.cells M2 9)).alloc (.cells #[.slice (some ⟨W.heap.size, 0, none⟩) n n, .slice (some ⟨(W.heap.size + 1), 0, none⟩) d d] 30)) W.heap.size (W.heap.size + 1) (W.heap.size + 1 + 1) n d (List.replicate n zeroU) ∧ NwInv w (((W.alloc (.cells M1 51)).alloc (.cells #[.slice (some ⟨W.heap.size, 0, none⟩) n n, .slice (some ⟨(W.heap.size + 1 + 1), 0, none⟩) d d] 30)).alloc (.cells M2 9)) W.heap.size (W.heap.size + 1 + 1) (W.heap.size + 1) n d (List.replicate n zeroU) ∧ NwInv w (((W.alloc (.cells M2 9)).alloc (.cells M1 51)).alloc (.cells #[.slice (some ⟨(W.heap.size + 1), 0, none⟩) n n, .slice (some ⟨W.heap.size, 0, none⟩) d d] 30)) (W.heap.size + 1) W.heap.size (W.heap.size + 1 + 1) n d (List.replicate n zeroU) ∧ NwInv w (((W.alloc (.cells M2 9)).alloc (.cells #[.slice (some ⟨(W.heap.size + 1 + 1), 0, none⟩) n n, .slice (some ⟨W.heap.size, 0, none⟩) d d] 30)).alloc (.cells M1 51)) (W.heap.size + 1 + 1) W.heap.size (W.heap.size + 1) n d (List.replicate n zeroU) ∧ NwInv w (((W.alloc (.cells #[.slice (some ⟨(W.heap.size + 1), 0, none⟩) n n, .slice (some ⟨(W.heap.size + 1 + 1), 0, none⟩) d d] 30)).alloc (.cells M1 51)).alloc (.cells M2 9)) (W.heap.size + 1) (W.heap.size + 1 + 1) W.heap.size n d (List.replicate n zeroU) ∧ NwInv w (((W.alloc (.cells #[.slice (some ⟨(W.heap.size + 1 + 1), 0, none⟩) n n, .slice (some ⟨(W.heap.size + 1), 0, none⟩) d d] 30)).alloc (.cells M2 9)).alloc (.cells M1 51)) (W.heap.size + 1 + 1) (W.heap.size + 1) W.heap.size n d (List.replicate n zeroU)) := fun W h1 h2 => NwInv.made h1 h2 hM1 hM2 (by omega) (by omega)
  clear hM1 hM2 HIN1 HIN2
  go_enter Try.func16, Try.ntmps16
  go_wp2_with fail
  refine HI3.out.mono ?_
  rintro e w1 ⟨rfl, hw1⟩
  subst w1
  go_wp2_with fail
  refine HI4.out.mono ?_
  rintro e w1 ⟨rfl, hw1⟩
  subst w1
  clear HI3 HI4
  generalize (w.alloc (.cells #[.slice none 0 0, .slice none 0 0] 30)) = W1 at *
  have HM := HMD.out W1.drew hb1.drew hX
  have HM1 : Hid (NwInv w (((W1.drew.alloc (.cells M1 51)).alloc (.cells M2 9)).alloc (.cells #[.slice (some ⟨W1.heap.size, 0, none⟩) n n, .slice (some ⟨(W1.heap.size + 1), 0, none⟩) d d] 30)) W1.heap.size (W1.heap.size + 1) (W1.heap.size + 1 + 1) n d (List.replicate n zeroU)) := HM.1
  have HM2 : Hid (NwInv w (((W1.drew.alloc (.cells M1 51)).alloc (.cells #[.slice (some ⟨W1.heap.size, 0, none⟩) n n, .slice (some ⟨(W1.heap.size + 1 + 1), 0, none⟩) d d] 30)).alloc (.cells M2 9)) W1.heap.size (W1.heap.size + 1 + 1) (W1.heap.size + 1) n d (List.replicate n zeroU)) := HM.2.1
  have HM3 : Hid (NwInv w (((W1.drew.alloc (.cells M2 9)).alloc (.cells M1 51)).alloc (.cells #[.slice (some ⟨(W1.heap.size + 1), 0, none⟩) n n, .slice (some ⟨W1.heap.size, 0, none⟩) d d] 30)) (W1.heap.size + 1) W1.heap.size (W1.heap.size + 1 + 1) n d (List.replicate n zeroU)) := HM.2.2.1
  have HM4 : Hid (NwInv w (((W1.drew.alloc (.cells M2 9)).alloc (.cells #[.slice (some ⟨(W1.heap.size + 1 + 1), 0, none⟩) n n, .slice (some ⟨W1.heap.size, 0, none⟩) d d] 30)).alloc (.cells M1 51)) (W1.heap.size + 1 + 1) W1.heap.size (W1.heap.size + 1) n d (List.replicate n zeroU)) := HM.2.2.2.1
  have HM5 : Hid (NwInv w (((W1.drew.alloc (.cells #[.slice (some ⟨(W1.heap.size + 1), 0, none⟩) n n, .slice (some ⟨(W1.heap.size + 1 + 1), 0, none⟩) d d] 30)).alloc (.cells M1 51)).alloc (.cells M2 9)) (W1.heap.size + 1) (W1.heap.size + 1 + 1) W1.heap.size n d (List.replicate n zeroU)) := HM.2.2.2.2.1
  have HM6 : Hid (NwInv w (((W1.drew.alloc (.cells #[.slice (some ⟨(W1.heap.size + 1 + 1), 0, none⟩) n n, .slice (some ⟨(W1.heap.size + 1), 0, none⟩) d d] 30)).alloc (.cells M2 9)).alloc (.cells M1 51)) (W1.heap.size + 1 + 1) (W1.heap.size + 1) W1.heap.size n d (List.replicate n zeroU)) := HM.2.2.2.2.2
  clear HM HMD
  go_upto_region 3 with fail
  go_cut [6] (fun v wx => Hid (∃ g1 g2 Q, v = .pointer (some ⟨Q, 0, none⟩) ∧ NwInv w wx g1 g2 Q n d (List.replicate n zeroU)))
  case first =>
    go_region
    all_goals
      go_wp2
      go_meet
      first
      | exact ⟨_, _, _, rfl, HM1.out⟩
      | exact ⟨_, _, _, rfl, HM2.out⟩
      | exact ⟨_, _, _, rfl, HM3.out⟩
      | exact ⟨_, _, _, rfl, HM4.out⟩
      | exact ⟨_, _, _, rfl, HM5.out⟩
      | exact ⟨_, _, _, rfl, HM6.out⟩
  case rest =>
    obtain ⟨g1, g2, Q, hu6, hI⟩ := hcut.out
    subst hu6
    clear hcut HM1 HM2 HM3 HM4 HM5 HM6 hmk1 hmk2 hX hb1
    generalize wc = W2 at *
    by_cases hn0 : 0 < n
    · have HMAP : Hid (((List.replicate n zeroU).set 0 ((⟨2, 0, 0, 0, []⟩ : NodeD), Value.slice none 0 0)).map (·.1) = (newF n d).ns) := kind_map
      have hrow := hI.nod.row
      rw [List.length_replicate] at hrow
      have k0 : W2.cell? ⟨g1, 0, none⟩ = some (.int .i64 0) := by
        have h := hrow.cellAt 0 (by omega)
        have hc := (uCells (M := List.replicate n zeroU) (i := 0) (by simpa using hn0)).1
        rw [Nat.zero_mul] at hc
        rw [h, hc]
        simp [zeroU, zeroN]
      have f0 := hrow.frozenAt 0
      clear hrow
      have v0 := hI.var.cell 0
      simp at v0
      have hI2 := hI.kind hn0
      have hn1 : (0 : Int) < (n : Int) := by omega
      clear hI
      have hO2 := (hI2.own HMAP.out).rd
      have y0 := hI2.var.cell 0
      have y1 := hI2.var.cell 1
      simp at y0 y1
      have HSZ : Hid (SmF (newF n d)) := smF_sz (newF_sz (by omega) (by omega))
      have HRD : Hid (RdFs (W2.setCell ⟨g1, 0, none⟩ (.int .i64 2)) (.agg #[.slice (some ⟨g1, 0, none⟩) n n, .slice (some ⟨g2, 0, none⟩) d d]) (newF n d)) := hO2
      have HI2 : Hid (NwInv w (W2.setCell ⟨g1, 0, none⟩ (.int .i64 2)) g1 g2 Q n d ((List.replicate n zeroU).set 0 ((⟨2, 0, 0, 0, []⟩ : NodeD), Value.slice none 0 0))) := hI2
      clear hO2 hI2
      go_upto_region 6 with fail
      clear k0 f0 v0 y0 y1
      generalize W2.setCell ⟨g1, 0, none⟩ (.int .i64 2) = W3 at *
      have y0 := HI2.out.var.cell 0
      have y1 := HI2.out.var.cell 1
      simp at y0 y1
      go_wp2_with fail
      refine (implShapeOk _ (newF n d) _ HSZ.out HRD.out).mono ?_
      rintro e W4 ⟨rfl, hb4⟩
      have hI2 := HI2.out.new hb4
      rw [HSH.out]
      clear y0 y1 HI2 hb4 HRD
      obtain ⟨q, hq⟩ : ∃ q, newOk n d = q := ⟨_, rfl⟩
      have HN : Hid (newOk n d = q) := hq
      rw [hq]
      cases q with
      | true =>
        clear hq
        have r0 := hI2.res.cell 0
        have r1 := hI2.res.cell 1
        have q0 := hI2.res.frozen 0
        have q1 := hI2.res.frozen 1
        have v0 := hI2.var.cell 0
        have v1 := hI2.var.cell 1
        simp at r0 r1 v0 v1
        have HDN2 := hI2.done HMAP.out
        have HDN3 : Hid _ := HDN2
        have hfar := hI2.far
        have hne : ¬ w.heap.size = Q := by omega
        clear HDN2 hI2
        go_wp2
        refine bodyPost_ret (res_rowF rfl _ _ w.heap.size 30 #[.slice (some ⟨g1, 0, none⟩) n n, .slice (some ⟨g2, 0, none⟩) d d] _ rfl HDN3.out.1 Try.underlying30 rfl Try.sizeFs) rfl ?_
        exact ⟨_, by rw [HN.out]; rfl, by rw [HDN.out HN.out]; exact HDN3.out.2.1, HDN3.out.2.2⟩
      | false =>
        have HD : Hid (newD n d = zeroF) := HDZ.out hq
        clear hq
        have r0 := hI2.res.cell 0
        have r1 := hI2.res.cell 1
        have q0 := hI2.res.frozen 0
        have q1 := hI2.res.frozen 1
        simp at r0 r1
        have hR2 := (hI2.res.set 0 (.slice none 0 0)).set 1 (.slice none 0 0)
        have HR2 : Hid (Var ((W4.setCell ⟨w.heap.size, 0, none⟩ (.slice none 0 0)).setCell ⟨w.heap.size, 1, none⟩ (.slice none 0 0)) w.heap.size #[.slice none 0 0, .slice none 0 0] 30) := hR2
        have hb5 := (hI2.bel.setCell (p := ⟨w.heap.size, 0, none⟩) (Nat.le_refl _) (.slice none 0 0)).setCell (p := ⟨w.heap.size, 1, none⟩) (Nat.le_refl _) (.slice none 0 0)
        clear hR2 hI2
        go_wp2
        refine bodyPost_ret (res_rowF rfl _ _ w.heap.size 30 #[.slice none 0 0, .slice none 0 0] _ rfl HR2.out Try.underlying30 rfl Try.sizeFs) rfl ?_
        exact ⟨_, by rw [HN.out]; rfl, by rw [HD.out]; exact HZO.out _, hb5⟩
    · have HN : Hid (newOk n d = false) := newOk_no fun h => by unfold NewP at h; omega
      have hn1 : ¬ (0 : Int) < (n : Int) := by omega
      have HD : Hid (newD n d = zeroF) := HDZ.out HN.out
      have HMAP : Hid ((List.replicate n zeroU).map (·.1) = (newF n d).ns) := by
        obtain rfl : n = 0 := by omega
        rfl
      have hO2 := (hI.own HMAP.out).rd
      have y0 := hI.var.cell 0
      have y1 := hI.var.cell 1
      simp at y0 y1
      have HSZ : Hid (SmF (newF n d)) := smF_sz (newF_sz (by omega) (by omega))
      have HRD : Hid (RdFs W2 (.agg #[.slice (some ⟨g1, 0, none⟩) n n, .slice (some ⟨g2, 0, none⟩) d d]) (newF n d)) := hO2
      clear hO2
      go_wp2_with fail
      refine (implShapeOk _ (newF n d) _ HSZ.out HRD.out).mono ?_
      rintro e W4 ⟨rfl, hb4⟩
      have hI2 := hI.new hb4
      rw [HSH.out, HN.out]
      clear y0 y1 hI hb4 HRD
      have r0 := hI2.res.cell 0
      have r1 := hI2.res.cell 1
      have q0 := hI2.res.frozen 0
      have q1 := hI2.res.frozen 1
      simp at r0 r1
      have hR2 := (hI2.res.set 0 (.slice none 0 0)).set 1 (.slice none 0 0)
      have HR2 : Hid (Var ((W4.setCell ⟨w.heap.size, 0, none⟩ (.slice none 0 0)).setCell ⟨w.heap.size, 1, none⟩ (.slice none 0 0)) w.heap.size #[.slice none 0 0, .slice none 0 0] 30) := hR2
      have hb5 := (hI2.bel.setCell (p := ⟨w.heap.size, 0, none⟩) (Nat.le_refl _) (.slice none 0 0)).setCell (p := ⟨w.heap.size, 1, none⟩) (Nat.le_refl _) (.slice none 0 0)
      clear hR2 hI2
      go_wp2
      refine bodyPost_ret (res_rowF rfl _ _ w.heap.size 30 #[.slice none 0 0, .slice none 0 0] _ rfl HR2.out Try.underlying30 rfl Try.sizeFs) rfl ?_
      exact ⟨_, by rw [HN.out]; rfl, by rw [HD.out]; exact HZO.out _, hb5⟩
end Go.Proofs.Ytjbeonicbcihlaa
