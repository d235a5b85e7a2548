/-
  Own text: whether two branches are the same, as both programs tell it.
-/
import Derived.Test.YtjbeonicbcihlaaTextsW
import Derived.Test.YtjbeonicbcihlaaFsL
import Derived.Test.YtjbeonicbcihlaaSNodeSW
import Derived.Test.YtjbeonicbcihlaaINodeSW
namespace Go.Proofs.Ytjbeonicbcihlaa
open Go.RowKit

theorem ndSame_iff {m n : NodeD} : ndSame m n = true ↔ m = n := by
  unfold ndSame
  constructor
  · intro h
    simp only [Bool.and_eq_true, decide_eq_true_eq] at h
    obtain ⟨⟨⟨⟨h1, h2⟩, h3⟩, h4⟩, h5⟩ := h
    exact NodeD.ext' h1 h2 h3 h4 h5
  · rintro rfl; simp
noncomputable def fsSame (F G : FsD) : Bool := @decide (F = G) (Classical.propDecidable _)
noncomputable def nsSame (l m : List NodeD) : Bool := @decide (l = m) (Classical.propDecidable _)
theorem nsSame_of {l m : List NodeD} {q : Bool} (h : q = true ↔ l = m) : nsSame l m = q := by
  unfold nsSame
  cases q
  · exact @decide_eq_false _ (Classical.propDecidable _) fun h' => by have := h.2 h'; cases this
  · exact @decide_eq_true _ (Classical.propDecidable _) (h.1 rfl)
theorem fsSame_of {F G : FsD} {q : Bool} (h : q = true ↔ F = G) : fsSame F G = q := by
  unfold fsSame
  cases q
  · exact @decide_eq_false _ (Classical.propDecidable _) fun h' => by have := h.2 h'; cases this
  · exact @decide_eq_true _ (Classical.propDecidable _) (h.1 rfl)
theorem fs_ext {F G : FsD} : F = G ↔ F.ns = G.ns ∧ F.ds = G.ds := by
  cases F; cases G; simp


set_option maxRecDepth 20000 in
set_option maxHeartbeats 1000000 in
theorem eqNdF (a c : Option Addr) (ca cc : Nat) (l m : List NodeD) (w : World) (hl : l.length ≤ 1048576) (_ : m.length ≤ 1048576) (hbl : ∀ n ∈ l, n.b.length ≤ 1048576) (hr : RdNs w a l) (hs : RdNs w c m) :
    Calls Try.prog 64 #[.slice a l.length ca, .slice c m.length cc, .func (Fn.func 65) #[] #[]] w fun e w' => e = .returned (.bool (nsSame l m)) ∧ Below w.heap.size w w' := by
  by_cases hne : l.length = m.length
  rotate_left
  · have HF : Hid (nsSame l m = false) := nsSame_of ⟨fun h => absurd h (by decide), fun h => absurd (by rw [h]) hne⟩
    have hne' : ¬ (l.length : Int) = (m.length : Int) := by omega
    have hne2 : ((l.length : Int) == (m.length : Int)) = false := by simpa using hne'
    clear hr hs
    generalize l.length = n at *
    generalize m.length = n' at *
    go_enter Try.func64, Try.ntmps64
    go_wp2
    go_ret
    exact ⟨by rw [HF.out]; rfl, Below.refl _ _⟩
  have HCS : Hid (∀ k (hk : k < l.length), ∃ b off u, a = some ⟨b, off, none⟩ ∧ b < w.heap.size ∧ RdU w u l[k].b ∧ NodeAt w b (off + k * 5) l[k] u) := fun k hk => hr.at k hk
  have HDS : Hid (∀ k (hk : k < l.length), ∃ n b off u, m[k]? = some n ∧ c = some ⟨b, off, none⟩ ∧ b < w.heap.size ∧ RdU w u n.b ∧ NodeAt w b (off + k * 5) n u) := by
    intro k hk
    obtain ⟨b, off, u, h1, h2, h3, h4⟩ := hs.at k (by omega)
    exact ⟨_, b, off, u, List.getElem?_eq_getElem (by omega), h1, h2, h3, h4⟩
  have HBL : Hid (∀ n ∈ l, n.b.length ≤ 1048576) := hbl
  have HNE : Hid (∀ (k : Nat) (x y : NodeD), l[k]? = some x → m[k]? = some y → ndSame x y = false → nsSame l m = false) := by
    intro k x y h1 h2 h3
    refine nsSame_of ⟨fun h => by (cases h), fun h => ?_⟩
    rw [h, h2] at h1
    injection h1 with h1
    rw [h1, ndSame_iff.2 rfl] at h3
    cases h3
  have HAL : Hid ((∀ j : Nat, j < l.length → l[j]? = m[j]?) → nsSame l m = true) := by
    intro h
    refine nsSame_of ⟨fun _ => List.ext_getElem? fun j => ?_, fun _ => rfl⟩
    by_cases hj : j < l.length
    · exact h j hj
    · rw [List.getElem?_eq_none (by omega), List.getElem?_eq_none (by omega)]
  clear hr hs hbl
  rw [← hne]
  clear hne
  go_enter Try.func64, Try.ntmps64
  go_wp2
  go_loopw [7, 8, 9, 17] (fun _ _ _ i wr => ∃ k : Nat, k ≤ l.length ∧ i = .int .i64 k ∧ Hid (∀ j, j < k → l[j]? = m[j]?) ∧ Below w.heap.size w wr) (fun _ _ _ i _ => l.length - (intOf i).toNat)
  case atStart => exact ⟨0, Nat.zero_le _, rfl, fun j h => by omega, Below.refl _ _⟩
  case round =>
    obtain ⟨k, hk, rfl, HA, hbel⟩ := hrel
    by_cases hlt : k < l.length
    · obtain ⟨b, off, u, rfl, hblt, hru, c0, c1, c2, c3, c4⟩ := HCS.out k hlt
      obtain ⟨n', b', off', u', hn', rfl, hblt', hru', c0', c1', c2', c3', c4'⟩ := HDS.out k hlt
      have hb1 : Below wr.heap.size wr (wr.alloc (.cells #[.int .i64 l[k].k, .int .i64 l[k].g, .int .i64 l[k].t, .int .i64 l[k].s, u] 51)) := below1 _ _
      have hbel1 := hbel.trans (hb1.mono hbel.size)
      have d0 := (hbel.cell (p := ⟨b, off + k * 5, none⟩) hblt).trans c0
      have d1 := (hbel.cell (p := ⟨b, off + k * 5 + 1, none⟩) hblt).trans c1
      have d2 := (hbel.cell (p := ⟨b, off + k * 5 + 2, none⟩) hblt).trans c2
      have d3 := (hbel.cell (p := ⟨b, off + k * 5 + 3, none⟩) hblt).trans c3
      have d4 := (hbel.cell (p := ⟨b, off + k * 5 + 4, none⟩) hblt).trans c4
      have e0 := (hbel1.cell (p := ⟨b', off' + k * 5, none⟩) hblt').trans c0'
      have e1 := (hbel1.cell (p := ⟨b', off' + k * 5 + 1, none⟩) hblt').trans c1'
      have e2 := (hbel1.cell (p := ⟨b', off' + k * 5 + 2, none⟩) hblt').trans c2'
      have e3 := (hbel1.cell (p := ⟨b', off' + k * 5 + 3, none⟩) hblt').trans c3'
      have e4 := (hbel1.cell (p := ⟨b', off' + k * 5 + 4, none⟩) hblt').trans c4'
      have HX : Hid (l[k]? = some l[k]) := List.getElem?_eq_getElem hlt
      have HY : Hid (m[k]? = some n') := hn'
      have HLK : Hid (l[k].b.length ≤ 4194304) := by have := HBL.out _ (List.getElem_mem hlt); show _ ≤ _; omega
      have HRU : Hid (∀ W, Below w.heap.size w W → RdN W (aggN l[k] u) l[k]) := fun W h => (hru.below h (Nat.le_refl _)).node
      have HRV : Hid (∀ W, Below w.heap.size w W → RdN W (aggN n' u') n') := fun W h => (hru'.below h (Nat.le_refl _)).node
      obtain ⟨ua, uc, rfl, _⟩ := hru
      obtain ⟨ua', uc', rfl, _⟩ := hru'
      clear c0 c1 c2 c3 c4 c0' c1' c2' c3' c4' hn'
      generalize l[k] = n at *
      have hV1 : Var (wr.alloc (.cells #[.int .i64 n.k, .int .i64 n.g, .int .i64 n.t, .int .i64 n.s, .slice ua n.b.length uc] 51)) wr.heap.size #[.int .i64 n.k, .int .i64 n.g, .int .i64 n.t, .int .i64 n.s, .slice ua n.b.length uc] 51 := Var.made _ _ _
      have hbel2 : Below w.heap.size w ((wr.alloc (.cells #[.int .i64 n.k, .int .i64 n.g, .int .i64 n.t, .int .i64 n.s, .slice ua n.b.length uc] 51)).alloc (.cells #[.int .i64 n'.k, .int .i64 n'.g, .int .i64 n'.t, .int .i64 n'.s, .slice ua' n'.b.length uc'] 51)) := hbel1.trans ((below1 _ _).mono hbel1.size)
      go_wp2_with fail
      refine (implNodeSame (aggN n (.slice ua n.b.length uc)) (aggN n' (.slice ua' n'.b.length uc')) n n' _ HLK.out (HRU.out _ hbel2) (HRV.out _ hbel2)).mono ?_
      rintro e w1 ⟨rfl, hb3⟩
      have hbel3 : Below w.heap.size w w1 := hbel2.trans (hb3.mono hbel2.size)
      clear d0 d1 d2 d3 d4 e0 e1 e2 e3 e4 hbel hbel1 hbel2 hb1 hV1 hb3
      obtain ⟨q, hq⟩ : ∃ q, ndSame n n' = q := ⟨_, rfl⟩
      rw [hq]
      cases q with
      | false =>
        have HF : Hid (nsSame l m = false) := HNE.out k n n' HX.out HY.out hq
        clear hq
        go_wp2
        go_ret
        exact ⟨by rw [HF.out]; rfl, hbel3⟩
      | true =>
        have HA2 : Hid (∀ j, j < k + 1 → l[j]? = m[j]?) := by
          intro j hj
          by_cases e : j = k
          · rw [e, HX.out, HY.out, ndSame_iff.1 hq]
          · exact HA.out j (by omega)
        clear hq
        go_wp2
        go_roundw
        case rel => exact ⟨k + 1, by omega, by go_num, HA2, hbel3⟩
        case measure => simp [intOf]; omega
    · obtain rfl : k = l.length := by omega
      have HT : Hid (nsSame l m = true) := HAL.out HA.out
      go_wp2
      go_ret
      exact ⟨by rw [HT.out]; rfl, hbel⟩

set_option maxRecDepth 20000 in
set_option maxHeartbeats 1000000 in
theorem implFsSame (v u : Value) (F G : FsD) (w : World) (hs0 : SmF F) (hs1 : SmF G) (hr : RdFs w v F) (hs : RdFs w u G) :
    Calls Try.prog 29 #[v, u] w fun e w' => e = .returned (.bool (fsSame F G)) ∧ Below w.heap.size w w' := by
  obtain ⟨a, ca, b, cb, rfl, _, r1, r2⟩ := hr
  obtain ⟨a', ca', b', cb', rfl, _, r1', r2'⟩ := hs
  have HR : Hid (∀ W, Below w.heap.size w W → RdNs W a F.ns ∧ RdS W b F.ds ∧ RdNs W a' G.ns ∧ RdS W b' G.ds) := fun W h => ⟨r1.below h (Nat.le_refl _), r2.below h (Nat.le_refl _), r1'.below h (Nat.le_refl _), r2'.below h (Nat.le_refl _)⟩
  have HS0 : Hid (SmF F) := hs0
  have HS1 : Hid (SmF G) := hs1
  have HZ : Hid (∀ q1 q2, nsSame F.ns G.ns = q1 → decide (F.ds = G.ds) = q2 → fsSame F G = (q1 && q2)) := by
    rintro _ _ rfl rfl
    refine fsSame_of ?_
    rw [Bool.and_eq_true, decide_eq_true_iff, fs_ext]
    exact and_congr (@decide_eq_true_iff _ (Classical.propDecidable _)) Iff.rfl
  clear r1 r2 r1' r2' hs0 hs1
  have hb2 : Below w.heap.size w ((w.alloc (.cells #[.slice a F.ns.length ca, .slice b F.ds.length cb] 30)).alloc (.cells #[.slice a' G.ns.length ca', .slice b' G.ds.length cb'] 30)) := below2 _ _ _
  go_enter Try.func29, Try.ntmps29
  go_wp2_with fail
  refine (eqNdF _ _ _ _ F.ns G.ns _ HS0.out.1 HS1.out.1 HS0.out.2.1 (HR.out _ hb2).1 (HR.out _ hb2).2.2.1).mono ?_
  rintro e w1 ⟨rfl, hb1⟩
  have hX : Var w1 w.heap.size #[.slice a F.ns.length ca, .slice b F.ds.length cb] 30 := ((Var.made w _ _).alloc _).new hb1
  have hY : Var w1 (w.heap.size + 1) #[.slice a' G.ns.length ca', .slice b' G.ds.length cb'] 30 := (Var.made2 w _ _ _).new hb1
  have hb01 : Below w.heap.size w w1 := hb2.trans (hb1.mono (by simp; omega))
  have hx1 := hX.cell 1
  have hy1 := hY.cell 1
  clear hX hY hb1
  simp at hx1 hy1
  obtain ⟨q1, hq1⟩ : ∃ q, nsSame F.ns G.ns = q := ⟨_, rfl⟩
  obtain ⟨q2, hq2⟩ : ∃ q, decide (F.ds = G.ds) = q := ⟨_, rfl⟩
  have HE : Hid (fsSame F G = (q1 && q2)) := HZ.out q1 q2 hq1 hq2
  have HEQ : Hid (Calls Try.prog 66 #[.slice b F.ds.length cb, .slice b' G.ds.length cb'] w1 fun e w' => e = .returned (.bool q2) ∧ Below w1.heap.size w1 w') := by
    rw [← hq2]
    exact equalT _ _ _ _ F.ds G.ds _ (by have := HS0.out.2.2.1; omega) (HR.out _ hb01).2.1 (HR.out _ hb01).2.2.2
  rw [hq1]
  clear hq1 hq2 HZ
  cases q1 with
  | false =>
    go_wp2
    go_ret
    exact ⟨by rw [HE.out]; rfl, hb01⟩
  | true =>
    go_wp2_with fail
    refine HEQ.out.mono ?_
    rintro e w2 ⟨rfl, hb3⟩
    go_wp2
    go_ret
    exact ⟨by rw [HE.out]; rfl, hb01.trans (hb3.mono hb01.size)⟩

set_option maxRecDepth 20000 in
set_option maxHeartbeats 2000000 in
theorem specFsSame (v u : Value) (F G : FsD) (w : World) (hs0 : SmF F) (hs1 : SmF G) (hr : RdFs w v F) (hs : RdFs w u G) :
    Calls Try.prog 28 #[v, u] w fun e w' => e = .returned (.bool (fsSame F G)) ∧ Below w.heap.size w w' := by
  obtain ⟨a, ca, b, cb, rfl, _, r1, r2⟩ := hr
  obtain ⟨a', ca', b', cb', rfl, _, r1', r2'⟩ := hs
  have HRS : Hid (∀ W, Below w.heap.size w W → RdS W b F.ds ∧ RdS W b' G.ds) := fun W h => ⟨r2.below h (Nat.le_refl _), r2'.below h (Nat.le_refl _)⟩
  have HCS : Hid (∀ k (hk : k < F.ns.length), ∃ b off u, a = some ⟨b, off, none⟩ ∧ b < w.heap.size ∧ RdU w u F.ns[k].b ∧ NodeAt w b (off + k * 5) F.ns[k] u) := fun k hk => r1.at k hk
  have HDS : Hid (F.ns.length = G.ns.length → ∀ k (hk : k < F.ns.length), ∃ n b off u, G.ns[k]? = some n ∧ a' = some ⟨b, off, none⟩ ∧ b < w.heap.size ∧ RdU w u n.b ∧ NodeAt w b (off + k * 5) n u) := by
    intro hne k hk
    obtain ⟨b, off, u, h1, h2, h3, h4⟩ := r1'.at k (by omega)
    exact ⟨_, b, off, u, List.getElem?_eq_getElem (by omega), h1, h2, h3, h4⟩
  have HBL : Hid (∀ n ∈ F.ns, n.b.length ≤ 1048576) := hs0.2.1
  have HS0 : Hid (SmF F) := hs0
  have hl1 := hs0.1
  have hl2 := hs1.1
  have HNO : Hid (¬ (F.ns = G.ns ∧ F.ds = G.ds) → fsSame F G = false) := fun h => fsSame_of ⟨fun h' => by (cases h'), fun h' => absurd (fs_ext.1 h') h⟩
  have HYE : Hid (F.ns = G.ns → F.ds = G.ds → fsSame F G = true) := fun h1 h2 => fsSame_of ⟨fun _ => fs_ext.2 ⟨h1, h2⟩, fun _ => rfl⟩
  clear r1 r2 r1' r2' hs0 hs1
  have hb2 : Below w.heap.size w ((w.alloc (.cells #[.slice a F.ns.length ca, .slice b F.ds.length cb] 30)).alloc (.cells #[.slice a' G.ns.length ca', .slice b' G.ds.length cb'] 30)) := below2 _ _ _
  by_cases hne : F.ns.length = G.ns.length
  rotate_left
  · have HF : Hid (fsSame F G = false) := HNO.out fun h => hne (by rw [h.1])
    have hne' : ¬ (F.ns.length : Int) = (G.ns.length : Int) := by omega
    have hne2 : ((F.ns.length : Int) == (G.ns.length : Int)) = false := by simpa using hne'
    clear HDS HCS HNO HYE
    go_enter Try.func28, Try.ntmps28
    go_wp2
    go_ret
    exact ⟨by rw [HF.out]; rfl, hb2⟩
  have HDS2 := HDS.out hne
  have HDS3 : Hid (∀ k (hk : k < F.ns.length), ∃ n b off u, G.ns[k]? = some n ∧ a' = some ⟨b, off, none⟩ ∧ b < w.heap.size ∧ RdU w u n.b ∧ NodeAt w b (off + k * 5) n u) := HDS2
  have HLN : Hid (F.ns.length = G.ns.length) := hne
  rw [← hne] at hb2 ⊢
  clear HDS HDS2 hne hl2
  obtain ⟨q2, hq2⟩ : ∃ q, decide (F.ds = G.ds) = q := ⟨_, rfl⟩
  have HEQ : Hid (Calls Try.prog 62 #[.slice b F.ds.length cb, .slice b' G.ds.length cb'] ((w.alloc (.cells #[.slice a F.ns.length ca, .slice b F.ds.length cb] 30)).alloc (.cells #[.slice a' F.ns.length ca', .slice b' G.ds.length cb'] 30)) fun e w' => e = .returned (.bool q2) ∧ Below ((w.alloc (.cells #[.slice a F.ns.length ca, .slice b F.ds.length cb] 30)).alloc (.cells #[.slice a' F.ns.length ca', .slice b' G.ds.length cb'] 30)).heap.size ((w.alloc (.cells #[.slice a F.ns.length ca, .slice b F.ds.length cb] 30)).alloc (.cells #[.slice a' F.ns.length ca', .slice b' G.ds.length cb'] 30)) w') := by
    rw [← hq2]
    exact textsT _ _ _ _ F.ds G.ds _ (by have := HS0.out.2.2.1; omega) (HRS.out _ hb2).1 (HRS.out _ hb2).2
  go_enter Try.func28, Try.ntmps28
  go_wp2_with fail
  refine HEQ.out.mono ?_
  rintro e w1 ⟨rfl, hb1⟩
  have hX : Var w1 w.heap.size #[.slice a F.ns.length ca, .slice b F.ds.length cb] 30 := ((Var.made w _ _).alloc _).new hb1
  have hY : Var w1 (w.heap.size + 1) #[.slice a' F.ns.length ca', .slice b' G.ds.length cb'] 30 := (Var.made2 w _ _ _).new hb1
  have hb01 : Below w.heap.size w w1 := hb2.trans (hb1.mono (by simp; omega))
  clear hb1 hb2 HEQ
  cases q2 with
  | false =>
    have HF : Hid (fsSame F G = false) := HNO.out fun h => by have := of_decide_eq_false hq2; exact this h.2
    clear hq2
    go_wp2
    go_ret
    exact ⟨by rw [HF.out]; rfl, hb01⟩
  | true =>
    have hde : F.ds = G.ds := of_decide_eq_true hq2
    have HDE : Hid (F.ds = G.ds) := hde
    clear hde
    clear hq2
    have HX : Hid (Var w1 w.heap.size #[.slice a F.ns.length ca, .slice b F.ds.length cb] 30) := hX
    have HY : Hid (Var w1 (w.heap.size + 1) #[.slice a' F.ns.length ca', .slice b' G.ds.length cb'] 30) := hY
    clear hX hY
    go_wp2
    go_loopw [5] (fun i wr => ∃ k : Nat, k ≤ F.ns.length ∧ i = .int .i64 k ∧ Hid (∀ j, j < k → F.ns[j]? = G.ns[j]?) ∧ Hid (Var wr w.heap.size #[.slice a F.ns.length ca, .slice b F.ds.length cb] 30) ∧ Hid (Var wr (w.heap.size + 1) #[.slice a' F.ns.length ca', .slice b' G.ds.length cb'] 30) ∧ Below w.heap.size w wr) (fun i _ => F.ns.length - (intOf i).toNat)
    case atStart => exact ⟨0, Nat.zero_le _, rfl, fun j h => by omega, HX, HY, hb01⟩
    case round =>
      clear HX HY hb01
      obtain ⟨k, hk, rfl, HA, HX, HY, hbel⟩ := hrel
      have hx0 := HX.out.cell 0
      have hy0 := HY.out.cell 0
      simp at hx0 hy0
      by_cases hlt : k < F.ns.length
      · obtain ⟨b1, off, u, rfl, hblt, hru, c0, c1, c2, c3, c4⟩ := HCS.out k hlt
        obtain ⟨n', b1', off', u', hn', rfl, hblt', hru', c0', c1', c2', c3', c4'⟩ := HDS3.out k hlt
        have d0 := (hbel.cell (p := ⟨b1, off + k * 5, none⟩) hblt).trans c0
        have d1 := (hbel.cell (p := ⟨b1, off + k * 5 + 1, none⟩) hblt).trans c1
        have d2 := (hbel.cell (p := ⟨b1, off + k * 5 + 2, none⟩) hblt).trans c2
        have d3 := (hbel.cell (p := ⟨b1, off + k * 5 + 3, none⟩) hblt).trans c3
        have d4 := (hbel.cell (p := ⟨b1, off + k * 5 + 4, none⟩) hblt).trans c4
        have e0 := (hbel.cell (p := ⟨b1', off' + k * 5, none⟩) hblt').trans c0'
        have e1 := (hbel.cell (p := ⟨b1', off' + k * 5 + 1, none⟩) hblt').trans c1'
        have e2 := (hbel.cell (p := ⟨b1', off' + k * 5 + 2, none⟩) hblt').trans c2'
        have e3 := (hbel.cell (p := ⟨b1', off' + k * 5 + 3, none⟩) hblt').trans c3'
        have e4 := (hbel.cell (p := ⟨b1', off' + k * 5 + 4, none⟩) hblt').trans c4'
        have HXK : Hid (F.ns[k]? = some F.ns[k]) := List.getElem?_eq_getElem hlt
        have HYK : Hid (G.ns[k]? = some n') := hn'
        obtain ⟨q, hq⟩ : ∃ q, ndSame F.ns[k] n' = q := ⟨_, rfl⟩
        have HE : Hid (Calls Try.prog 63 #[.agg #[.int .i64 F.ns[k].k, .int .i64 F.ns[k].g, .int .i64 F.ns[k].t, .int .i64 F.ns[k].s, u], .agg #[.int .i64 n'.k, .int .i64 n'.g, .int .i64 n'.t, .int .i64 n'.s, u']] wr.drew fun e w' => e = .returned (.bool q) ∧ Below wr.drew.heap.size wr.drew w') := by
          rw [← hq]
          exact specNodeSame _ _ F.ns[k] n' _ (by have := HBL.out _ (List.getElem_mem hlt); omega) (hru.below hbel.drew (Nat.le_refl _)).node (hru'.below hbel.drew (Nat.le_refl _)).node
        clear c0 c1 c2 c3 c4 c0' c1' c2' c3' c4' hru hru' hn'
        generalize F.ns[k] = n at *
        have i0 : (0 : Int) ≤ (k : Int) := by omega
        have i1 : (k : Int) < (F.ns.length : Int) := by omega
        cases q with
        | false =>
          have HF : Hid (fsSame F G = false) := HNO.out fun h => by
            have h1 := HXK.out
            rw [h.1, HYK.out] at h1
            injection h1 with h1
            rw [h1, ndSame_iff.2 rfl] at hq
            cases hq
          clear hq
          go_wp2
          go_region_with (go_at_call 63; refine HE.out.mono ?_; rintro e w2 ⟨rfl, hb2⟩)
          all_goals
            have hb3 : Below w.heap.size w w2 := hbel.drew.trans (hb2.mono hbel.size)
            go_wp2
            go_ret
            exact ⟨by rw [HF.out]; rfl, hb3⟩
        | true =>
          have HA2 : Hid (∀ j, j < k + 1 → F.ns[j]? = G.ns[j]?) := by
            intro j hj
            by_cases e : j = k
            · rw [e, HXK.out, HYK.out, ndSame_iff.1 hq]
            · exact HA.out j (by omega)
          clear hq
          go_wp2
          go_region_with (go_at_call 63; refine HE.out.mono ?_; rintro e w2 ⟨rfl, hb2⟩)
          all_goals
            have hb2' : Below wr.heap.size wr w2 := ⟨hb2.os, hb2.tape, hb2.output, hb2.size, hb2.block⟩
            have hb3 : Below w.heap.size w w2 := hbel.trans (hb2'.mono hbel.size)
            have HX2 : Hid (Var w2 w.heap.size #[.slice (some ⟨b1, off, none⟩) F.ns.length ca, .slice b F.ds.length cb] 30) := HX.out.new hb2'
            have HY2 : Hid (Var w2 (w.heap.size + 1) #[.slice (some ⟨b1', off', none⟩) F.ns.length ca', .slice b' G.ds.length cb'] 30) := HY.out.new hb2'
            clear hb2 hb2' HX HY hbel
            go_wp2
            go_roundw
            case rel => exact ⟨k + 1, by omega, by go_num, HA2, HX2, HY2, hb3⟩
            case measure => simp [intOf]; omega
      · obtain rfl : k = F.ns.length := by omega
        have HT : Hid (fsSame F G = true) := HYE.out (List.ext_getElem? fun j => by
          by_cases hj : j < F.ns.length
          · exact HA.out j hj
          · rw [List.getElem?_eq_none (by omega), List.getElem?_eq_none (by have := HLN.out; omega)]) HDE.out
        go_wp2
        go_ret
        exact ⟨by rw [HT.out]; rfl, hbel⟩
end Go.Proofs.Ytjbeonicbcihlaa
