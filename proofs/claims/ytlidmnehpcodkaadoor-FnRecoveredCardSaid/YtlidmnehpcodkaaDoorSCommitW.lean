/-
  Own text: a commit's events, as the other program lists them.
-/
import Derived.Test.YtlidmnehpcodkaaDoorEvBase
import Derived.Test.YtlidmnehpcodkaaDoorBunS
import Derived.Deep.RegionHeld3
namespace Go.Proofs.YtlidmnehpcodkaaDoor
open Go.RowKit

/-- What is known between two appends: the row of events so far, the flush that is kept in a variable. -/
structure CInv (w W : World) (F : Nat) (v : Value) (E : List EvD) : Prop where
  own : W.ownsRow w.heap.size 85 3 v E.length (E.flatMap encE)
  flag : Var W F #[.int .i64 1, .int .i64 0, .string ⟨#[]⟩] 85
  apart : ¬ v.ownBlock = some F
  below : Below w.heap.size w W
theorem CInv.new {w W W' : World} {F : Nat} {v : Value} {E : List EvD} (h : CInv w W F v E) (hb : Below W.heap.size W W') : CInv w W' F v E :=
  ⟨ownsRow_below h.own hb (Nat.le_refl _), h.flag.new hb, h.apart, h.below.trans (hb.mono h.below.size)⟩
theorem CInv.cells {w W : World} {F : Nat} {v : Value} {E : List EvD} (h : CInv w W F v E) : W.cell? ⟨F, 0, none⟩ = some (.int .i64 1) ∧ W.cell? ⟨F, 1, none⟩ = some (.int .i64 0) ∧ W.cell? ⟨F, 2, none⟩ = some (.string ⟨#[]⟩) := ⟨h.flag.cell 0, h.flag.cell 1, h.flag.cell 2⟩
def Fst0 (E : List EvD) : Prop := ∃ x y E', E = (0, x, y) :: E'
theorem Fst0.app {E : List EvD} (h : Fst0 E) (m : List EvD) : Fst0 (E ++ m) := by
  obtain ⟨x, y, E', rfl⟩ := h
  exact ⟨x, y, E' ++ m, rfl⟩
theorem fst0_A (l : List PutD) {k : Nat} (h : 0 < k) : Fst0 (evA l k) := by
  obtain ⟨k, rfl⟩ : ∃ j, k = j + 1 := ⟨k - 1, by omega⟩
  exact ⟨_, _, _, by unfold evA; rw [List.range_succ_eq_map, List.map_cons]⟩
theorem CInv.more {w W W' : World} {F : Nat} {v v' : Value} {E m : List EvD} (h : CInv w W F v E) (ho : W'.ownsRow w.heap.size 85 3 v' (E.length + m.length) (E.flatMap encE ++ m.flatMap encE)) (hg : W.grownBy W' v.ownBlock) (hf : Fst0 (E ++ m)) : CInv w W' F v' (E ++ m) := by
  have ho' : W'.ownsRow w.heap.size 85 3 v' (E ++ m).length ((E ++ m).flatMap encE) := by rw [List.flatMap_append, List.length_append]; exact ho
  have hV : Var W' F #[.int .i64 1, .int .i64 0, .string ⟨#[]⟩] 85 := h.flag.only (Only.of_grown hg) h.apart
  refine ⟨ho', hV, ?_, h.below.grown hg h.below.size (fun j hj => (h.own.lt j hj).1)⟩
  intro hk
  obtain ⟨x, y, E', he⟩ := hf
  rw [he] at ho'
  rcases ho'.2 with ⟨rfl, _⟩ | ⟨g, cap, cur, rfl, _, hgg, _, _, _, ht⟩
  · cases hk
  · cases hk
    have hV' : W'.heap[g]? = some (.cells #[.int .i64 1, .int .i64 0, .string ⟨#[]⟩] 85 (0, 0)) := hV
    rw [hgg] at hV'
    cases hV'
    rw [show ((0, x, y) :: E').length * 3 = (E'.length * 3 + 2) + 1 by simp only [List.length_cons]; omega, List.flatMap_cons] at ht
    have h0 := congrArg (fun q : List Value => q.head?) ht
    simp [encE] at h0

set_option maxRecDepth 20000 in
set_option maxHeartbeats 4000000 in
theorem specCommit (a : Option Addr) (cap : Nat) (l : List PutD) (n : Int) (w : World) (hl : l.length ≤ 4194304) (hr : RdF encP 2 w a l) :
    Calls Tryd.prog 17 #[.int .i64 n, .slice a l.length cap] w fun e w' => ∃ v, e = .returned v ∧ w'.ownsRow w.heap.size 85 3 v (commitE n l).length ((commitE n l).flatMap encE) ∧ Below w.heap.size w w' := by
  obtain ⟨i0, hi, hz0, hz1, hz2⟩ := info_parts Tryd.infoEv
  have HTX : Hid (∀ Q, jtx n l = Q → Calls Tryd.prog 28 #[.int .i64 n, .slice a l.length cap] (w.alloc (.cells #[] 85)) fun e w' => e = .returned (.bool Q) ∧ Below (w.heap.size + 1) (w.alloc (.cells #[] 85)) w') := by
    rintro Q rfl
    have h := specTxOk a cap l n (w.alloc (.cells #[] 85)) hl (hr.below (below1 _ _) (Nat.le_refl _))
    rwa [show (w.alloc (.cells #[] 85)).heap.size = w.heap.size + 1 by simp] at h
  have HHT : Hid (∀ W, Below w.heap.size w W → Calls Tryd.prog 59 #[.slice a l.length cap] W fun e w' => e = .returned (.string (headText l)) ∧ Below W.heap.size W w') := fun W h => specHeadText a cap l W hl (hr.below h (Nat.le_refl _))
  have HCS : Hid (∀ k (hk : k < l.length), ∃ b off, a = some ⟨b, off, none⟩ ∧ b < w.heap.size ∧ w.cell? ⟨b, off + k * 2, none⟩ = some (.int .i64 l[k].1) ∧ w.cell? ⟨b, off + k * 2 + 1, none⟩ = some (.string l[k].2)) := by
    intro k hk
    obtain ⟨b, off, h1, h2, h3⟩ := hr.at k hk
    exact ⟨b, off, h1, h2, h3 0 (by omega), h3 1 (by omega)⟩
  have hm0 : (w.alloc (.cells #[] 85)).ownsRow w.heap.size 85 3 (.slice (some ⟨w.heap.size, 0, none⟩) 0 0) 0 [] := World.ownsRow_made w #[] 0 (Nat.le_refl _) (Nat.zero_le _) rfl
  have HM0 : Hid ((w.alloc (.cells #[] 85)).ownsRow w.heap.size 85 3 (.slice (some ⟨w.heap.size, 0, none⟩) 0 0) 0 []) := hm0
  clear hr hm0
  cases hq : jtx n l with
  | false =>
    have HF : Hid (commitE n l = []) := by show _ = _; unfold commitE; rw [hq]; rfl
    have HT := HTX.out false hq
    have HT2 : Hid (Calls Tryd.prog 28 #[.int .i64 n, .slice a l.length cap] (w.alloc (.cells #[] 85)) fun e w' => e = .returned (.bool false) ∧ Below (w.heap.size + 1) (w.alloc (.cells #[] 85)) w') := HT
    clear HT HTX hq
    go_enter Tryd.func17, Tryd.ntmps17
    go_wp2_with fail
    refine HT2.out.mono ?_
    rintro e w1 ⟨rfl, hb1⟩
    have ho1 := ownsRow_below HM0.out hb1 (by simp)
    have hb2 : Below w.heap.size w w1 := (below1 w _).trans (hb1.mono (by omega))
    go_wp2
    go_ret
    exact ⟨_, rfl, by rw [HF.out]; exact ho1, hb2⟩
  | true =>
    have ht := jtx_iff.1 hq
    have hlen : (l.length : Int) ≤ n := ht.len
    have hn1 := ht.1
    have hn2 := ht.2.1
    have hpos : 0 < l.length := List.length_pos_iff.2 ht.2.2.1
    have HAT : Hid (∀ k (hk : k < l.length), 0 ≤ l[k].1 ∧ l[k].1 ≤ n - 1) := fun k hk => ⟨(ht.at _ (List.getElem_mem hk)).1, (ht.at _ (List.getElem_mem hk)).2.1⟩
    have HF : Hid (commitE n l = evA l l.length ++ evM l ++ evB n l l.length ++ evZ) := commit_parts hq
    have HT := HTX.out true hq
    have HT2 : Hid (Calls Tryd.prog 28 #[.int .i64 n, .slice a l.length cap] (w.alloc (.cells #[] 85)) fun e w' => e = .returned (.bool true) ∧ Below (w.heap.size + 1) (w.alloc (.cells #[] 85)) w') := HT
    clear HT HTX hq ht
    go_enter Tryd.func17, Tryd.ntmps17
    go_wp2_with fail
    refine HT2.out.mono ?_
    rintro e w1 ⟨rfl, hb1⟩
    have hs1 : w.heap.size + 1 ≤ w1.heap.size := by have := hb1.size; simpa using this
    have HI1 : Hid (CInv w (w1.alloc (.cells #[.int .i64 1, .int .i64 0, .string ⟨#[]⟩] 85)) w1.heap.size (.slice (some ⟨w.heap.size, 0, none⟩) 0 0) (evA l 0)) :=
      ⟨(ownsRow_below HM0.out hb1 (by simp)).alloc _, Var.made w1 _ _, by intro h; have : w.heap.size = w1.heap.size := by simpa [Value.ownBlock] using h
                                                                          omega, ((below1 w _).trans (hb1.mono (by omega))).alloc (by omega) _⟩
    clear HM0 hb1
    generalize hF : w1.heap.size = F at *
    go_wp2
    go_loopw [5, 7] (fun v i wr => ∃ k : Nat, k ≤ l.length ∧ i = .int .i64 k ∧ Hid (CInv w wr F v (evA l k))) (fun _ i _ => l.length - (intOf i).toNat)
    case atStart => exact ⟨0, Nat.zero_le _, rfl, HI1⟩
    case round =>
      obtain ⟨k, hk, rfl, HI⟩ := hrel
      clear HI1
      by_cases hlt : k < l.length
      · obtain ⟨x, off, rfl, hblt, hc0, hc1⟩ := HCS.out k hlt
        have hd1 : wr.cell? ⟨x, off + k * 2 + 1, none⟩ = some (.string l[k].2) := (HI.out.below.cell hblt).trans hc1
        have HNX : Hid (evA l (k + 1) = evA l k ++ [((0 : Int), (1 : Int) + (k : Int), l[k].2)]) := evA_succ l k hlt
        have HF0 : Hid (Fst0 (evA l (k + 1))) := fst0_A l (by omega)
        have HEL : Hid ((evA l k).length = k) := evA_len l k
        clear hc0 hc1
        generalize l[k].2 = ys at *
        generalize evA l k = E0 at *
        go_wp2_with fail
        refine (specEvent _ ys _).mono ?_
        rintro e w3 ⟨rfl, hb3⟩
        have hI3 := (HI.out.new hb3).new (below1 w3 (.cells #[.int .i64 0, .int .i64 (1 + (k : Int)), .string ys] 85))
        have HS3 : Hid (Src Tryd.prog 3 40 (.slice (some ⟨w3.heap.size, 0, none⟩) 1 1) 1 ([((0 : Int), (1 : Int) + (k : Int), ys)].flatMap encE) (w3.alloc (.cells #[.int .i64 0, .int .i64 (1 + (k : Int)), .string ys] 85))) := src_evs [((0 : Int), (1 : Int) + (k : Int), ys)] (Var.made w3 _ _) rfl
        have HI3 : Hid (CInv w (w3.alloc (.cells #[.int .i64 0, .int .i64 (1 + (k : Int)), .string ys] 85)) F u5 E0) := hI3
        have ho3 := hI3.own
        have hsz3 := hI3.below.size
        clear hI3 hb3 HI
        go_wp2_with (at_builtin; refine wpList_append_own_src _ rfl (.tmp 22) (.tmp 31) 40 40 rfl w.heap.size 85 i0 (.agg #[.int .i64 0, .int .i64 0, .string ⟨#[]⟩]) 3 32 Tryd.underlying40 hi hz0 hz1 hz2 rfl _ _ _ rfl ho3 _ 1 ([((0 : Int), (1 : Int) + (k : Int), ys)].flatMap encE) rfl HS3.out (by have := HEL.out; unfold maxLen; omega) (by have := HEL.out; omega) hsz3 ?_)
        intro v5 w5 ho5 hg5
        have HI5 : Hid (CInv w w5 F v5 (evA l (k + 1))) := by
          show CInv _ _ _ _ _
          rw [HNX.out]
          exact HI3.out.more (m := [((0 : Int), (1 : Int) + (k : Int), ys)]) (by simpa using ho5) hg5 (by rw [← HNX.out]; exact HF0.out)
        clear ho5 hg5 ho3 hsz3 HI3 HS3 HNX HF0
        go_wp2
        go_roundw
        case rel => exact ⟨k + 1, by omega, by go_num, HI5⟩
        case measure => simp [intOf]; omega
      · obtain rfl : k = l.length := by omega
        have HF1 : Hid (Fst0 (evA l l.length)) := fst0_A l hpos
        have HEL : Hid ((evA l l.length).length = l.length) := evA_len l l.length
        have HEM : Hid (evM l = [(1, 0, ⟨#[]⟩), (0, 0, headText l), (1, 0, ⟨#[]⟩)]) := rfl
        obtain ⟨y0, y1, y2⟩ := HI.out.cells
        have HH0 : Hid (Calls Tryd.prog 59 #[.slice a l.length cap] wr.drew fun e w' => e = .returned (.string (headText l)) ∧ Below wr.heap.size wr w') := by
          refine (HHT.out wr.drew HI.out.below.drew).mono ?_
          rintro e w' ⟨rfl, h⟩
          exact ⟨rfl, (Below.refl _ _).drew.trans h⟩
        generalize headText l = H0 at *
        generalize evA l l.length = E0 at *
        clear HHT
        go_wp2
        go_region_held3 (fun W => W.cell? ⟨F, 0, none⟩ = some (.int .i64 1) ∧ W.cell? ⟨F, 1, none⟩ = some (.int .i64 0) ∧ W.cell? ⟨F, 2, none⟩ = some (.string ⟨#[]⟩)) (go_keep) (first
          | (refine step_own_src (w4.alloc (.cells #[.int .i64 1, .int .i64 0, .string ⟨#[]⟩, .int .i64 0, .int .i64 0, .string H0, .int .i64 1, .int .i64 0, .string ⟨#[]⟩] 85)) rfl (.tmp 33) (.tmp 39) 40 40 rfl w.heap.size 85 i0 (.agg #[.int .i64 0, .int .i64 0, .string ⟨#[]⟩]) 3 32 Tryd.underlying40 hi hz0 hz1 hz2 rfl u5 E0.length (E0.flatMap encE) (.slice (some ⟨w4.heap.size, 0, none⟩) 3 3) 3 ([((1 : Int), (0 : Int), (⟨#[]⟩ : ByteArray)), (0, 0, H0), (1, 0, ⟨#[]⟩)].flatMap encE) (by have := HEL.out; unfold maxLen; omega) (by have := HEL.out; omega) (by simp [Act.eval]) (by simp [Act.eval]) HI4.out.own HS4.out HI4.out.below.size ?_
             intro v5 w5 ho5 hg5
             have HI5 : Hid (CInv w w5 F v5 (E0 ++ [((1 : Int), (0 : Int), (⟨#[]⟩ : ByteArray)), (0, 0, H0), (1, 0, ⟨#[]⟩)])) := HI4.out.more ho5 hg5 (HF1.out.app _)
             obtain ⟨s0, s1, s2⟩ := HI5.out.cells
             clear ho5 hg5 HI4 HS4 q0 q1 q2)
          | (go_at_call 59
             refine HH0.out.mono ?_
             rintro e w3 ⟨rfl, hb3⟩
             have HI3 : Hid (CInv w w3 F u5 E0) := HI.out.new hb3
             obtain ⟨z0, z1, z2⟩ := HI3.out.cells
             clear hb3)
          | (go_at_call 58
             refine (specEvent 0 H0 w3).mono ?_
             rintro e w4 ⟨rfl, hb4⟩
             have hI4 := (HI3.out.new hb4)
             obtain ⟨p0, p1, p2⟩ := hI4.cells
             have HI4 : Hid (CInv w (w4.alloc (.cells #[.int .i64 1, .int .i64 0, .string ⟨#[]⟩, .int .i64 0, .int .i64 0, .string H0, .int .i64 1, .int .i64 0, .string ⟨#[]⟩] 85)) F u5 E0) := hI4.new (below1 w4 _)
             have HS4 : Hid (Src Tryd.prog 3 40 (.slice (some ⟨w4.heap.size, 0, none⟩) 3 3) 3 ([((1 : Int), (0 : Int), (⟨#[]⟩ : ByteArray)), (0, 0, H0), (1, 0, ⟨#[]⟩)].flatMap encE) (w4.alloc (.cells #[.int .i64 1, .int .i64 0, .string ⟨#[]⟩, .int .i64 0, .int .i64 0, .string H0, .int .i64 1, .int .i64 0, .string ⟨#[]⟩] 85))) := src_evs [((1 : Int), (0 : Int), (⟨#[]⟩ : ByteArray)), (0, 0, H0), (1, 0, ⟨#[]⟩)] (Var.made w4 _ _) rfl
             obtain ⟨q0, q1, q2⟩ := HI4.out.cells
             clear hb4 hI4))
        have HFM : Hid (Fst0 (E0 ++ [((1 : Int), (0 : Int), (⟨#[]⟩ : ByteArray)), (0, 0, H0), (1, 0, ⟨#[]⟩)])) := HF1.out.app _
        have HLM : Hid ((E0 ++ [((1 : Int), (0 : Int), (⟨#[]⟩ : ByteArray)), (0, 0, H0), (1, 0, ⟨#[]⟩)]).length = l.length + 3) := by show _ = _; rw [List.length_append, HEL.out]; rfl
        have HF2 : Hid (commitE n l = E0 ++ [((1 : Int), (0 : Int), (⟨#[]⟩ : ByteArray)), (0, 0, H0), (1, 0, ⟨#[]⟩)] ++ evB n l l.length ++ evZ) := by show _ = _; rw [HF.out, HEM.out]
        clear s0 s1 s2 p0 p1 p2 z0 z1 z2 y0 y1 y2 HI HI3 HH0 HF HEM HEL HF1
        generalize E0 ++ [((1 : Int), (0 : Int), (⟨#[]⟩ : ByteArray)), (0, 0, H0), (1, 0, ⟨#[]⟩)] = M0 at *
        have HI6 : Hid (CInv w w5 F v5 (M0 ++ evB n l 0)) := by
          show CInv _ _ _ _ _
          rw [show evB n l 0 = [] from rfl, List.append_nil]
          exact HI5.out
        clear HI5
        go_wp2
        go_loopw [5, 8] (fun v i wr => ∃ k : Nat, k ≤ l.length ∧ i = .int .i64 k ∧ Hid (CInv w wr F v (M0 ++ evB n l k))) (fun _ i _ => l.length - (intOf i).toNat)
        case atStart => exact ⟨0, Nat.zero_le _, rfl, HI6⟩
        case round =>
          obtain ⟨k, hk, rfl, HI⟩ := hrel
          clear HI6
          by_cases hlt2 : k < l.length
          · obtain ⟨x, off, rfl, hblt, hc0, hc1⟩ := HCS.out k hlt2
            have HD : Hid (∀ W, Below w.heap.size w W → W.cell? ⟨x, off + k * 2, none⟩ = some (.int .i64 l[k].1) ∧ W.cell? ⟨x, off + k * 2 + 1, none⟩ = some (.string l[k].2)) := fun W h => ⟨(h.cell hblt).trans hc0, (h.cell hblt).trans hc1⟩
            obtain ⟨hy0, hy1⟩ := HAT.out k hlt2
            have HNX : Hid (M0 ++ evB n l (k + 1) = M0 ++ evB n l k ++ [((0 : Int), n + 1 + l[k].1, l[k].2)]) := by show _ = _; rw [evB_succ n l k hlt2, List.append_assoc]
            have HLK : Hid ((M0 ++ evB n l k).length = l.length + 3 + k) := by show _ = _; rw [List.length_append, HLM.out, evB_len n l k hk]
            have HFK : Hid (Fst0 (M0 ++ evB n l k)) := HFM.out.app _
            obtain ⟨y0, y1⟩ := HD.out wr HI.out.below
            have hi0 : (0 : Int) ≤ (k : Int) := by omega
            have hi1 : (k : Int) < (l.length : Int) := by omega
            clear hc0 hc1
            generalize l[k].1 = y at *
            generalize l[k].2 = ys at *
            generalize M0 ++ evB n l k = E2 at *
            have hw1 : IntKind.i64.wrap (n + 1) = n + 1 := by rw [IntKind.wrap_i64]; omega
            have hw2 : IntKind.i64.wrap (n + 1 + y) = n + 1 + y := by rw [IntKind.wrap_i64]; omega
            go_wp2
            go_region_held3 (fun W => W.cell? ⟨x, off + k * 2, none⟩ = some (.int .i64 y) ∧ W.cell? ⟨x, off + k * 2 + 1, none⟩ = some (.string ys)) (go_keep) (first
              | (refine step_own_src (w6.alloc (.cells #[.int .i64 0, .int .i64 (n + 1 + y), .string ys] 85)) rfl (.tmp 47) (.tmp 62) 40 40 rfl w.heap.size 85 i0 (.agg #[.int .i64 0, .int .i64 0, .string ⟨#[]⟩]) 3 32 Tryd.underlying40 hi hz0 hz1 hz2 rfl u5 E2.length (E2.flatMap encE) (.slice (some ⟨w6.heap.size, 0, none⟩) 1 1) 1 ([((0 : Int), n + 1 + y, ys)].flatMap encE) (by have := HLK.out; unfold maxLen; omega) (by have := HLK.out; omega) (by simp [Act.eval]) (by simp [Act.eval]) HI6.out.own HS6.out HI6.out.below.size ?_
                 intro v7 w7 ho7 hg7
                 have HI7 : Hid (CInv w w7 F v7 (E2 ++ [((0 : Int), n + 1 + y, ys)])) := HI6.out.more ho7 hg7 (HFK.out.app _)
                 obtain ⟨s0, s1⟩ := HD.out w7 HI7.out.below
                 clear ho7 hg7 HI6 HS6)
              | (go_at_call 58
                 refine (specEvent (n + 1 + y) ys wr.drew).mono ?_
                 rintro e w6 ⟨rfl, hb6⟩
                 have hI6 := (HI.out.new ((Below.refl _ wr).drew.trans hb6))
                 obtain ⟨p0, p1⟩ := HD.out w6 hI6.below
                 have HI6 : Hid (CInv w (w6.alloc (.cells #[.int .i64 0, .int .i64 (n + 1 + y), .string ys] 85)) F u5 E2) := hI6.new (below1 w6 _)
                 have HS6 : Hid (Src Tryd.prog 3 40 (.slice (some ⟨w6.heap.size, 0, none⟩) 1 1) 1 ([((0 : Int), n + 1 + y, ys)].flatMap encE) (w6.alloc (.cells #[.int .i64 0, .int .i64 (n + 1 + y), .string ys] 85))) := src_evs [((0 : Int), n + 1 + y, ys)] (Var.made w6 _ _) rfl
                 obtain ⟨q0, q1⟩ := HD.out _ HI6.out.below
                 clear hb6 hI6))
            have HI8 : Hid (CInv w w7 F v7 (M0 ++ evB n l (k + 1))) := by show CInv _ _ _ _ _; rw [HNX.out]; exact HI7.out
            clear HI7 HNX s0 s1 p0 p1 q0 q1 y0 y1
            go_wp2
            go_roundw
            case rel => exact ⟨k + 1, by omega, by go_num, HI8⟩
            case measure => simp [intOf]; omega
          · obtain rfl : k = l.length := by omega
            have HLK : Hid ((M0 ++ evB n l l.length).length = l.length + 3 + l.length) := by show _ = _; rw [List.length_append, HLM.out, evB_len n l l.length (Nat.le_refl _)]
            have HFK : Hid (Fst0 (M0 ++ evB n l l.length)) := HFM.out.app _
            obtain ⟨y0, y1, y2⟩ := HI.out.cells
            generalize M0 ++ evB n l l.length = E2 at *
            go_wp2
            go_region_held3 (fun W => W.cell? ⟨F, 0, none⟩ = some (.int .i64 1) ∧ W.cell? ⟨F, 1, none⟩ = some (.int .i64 0) ∧ W.cell? ⟨F, 2, none⟩ = some (.string ⟨#[]⟩)) (go_keep) (first
              | (refine step_own_src (w6.alloc (.cells #[.int .i64 1, .int .i64 0, .string ⟨#[]⟩, .int .i64 0, .int .i64 0, .string ⟨#[]⟩, .int .i64 1, .int .i64 0, .string ⟨#[]⟩] 85)) rfl (.tmp 64) (.tmp 68) 40 40 rfl w.heap.size 85 i0 (.agg #[.int .i64 0, .int .i64 0, .string ⟨#[]⟩]) 3 32 Tryd.underlying40 hi hz0 hz1 hz2 rfl u5 E2.length (E2.flatMap encE) (.slice (some ⟨w6.heap.size, 0, none⟩) 3 3) 3 (evZ.flatMap encE) (by have := HLK.out; unfold maxLen; omega) (by have := HLK.out; omega) (by simp [Act.eval]) (by simp [Act.eval]) HI6.out.own HS6.out HI6.out.below.size ?_
                 intro v7 w7 ho7 hg7
                 have HI7 : Hid (CInv w w7 F v7 (E2 ++ evZ)) := HI6.out.more (m := evZ) ho7 hg7 (HFK.out.app _)
                 obtain ⟨s0, s1, s2⟩ := HI7.out.cells
                 clear ho7 hg7 HI6 HS6)
              | (go_at_call 58
                 refine (specEvent 0 ⟨#[]⟩ wr.drew).mono ?_
                 rintro e w6 ⟨rfl, hb6⟩
                 have hI6 := (HI.out.new ((Below.refl _ wr).drew.trans hb6))
                 obtain ⟨p0, p1, p2⟩ := hI6.cells
                 have HI6 : Hid (CInv w (w6.alloc (.cells #[.int .i64 1, .int .i64 0, .string ⟨#[]⟩, .int .i64 0, .int .i64 0, .string ⟨#[]⟩, .int .i64 1, .int .i64 0, .string ⟨#[]⟩] 85)) F u5 E2) := hI6.new (below1 w6 _)
                 have HS6 : Hid (Src Tryd.prog 3 40 (.slice (some ⟨w6.heap.size, 0, none⟩) 3 3) 3 (evZ.flatMap encE) (w6.alloc (.cells #[.int .i64 1, .int .i64 0, .string ⟨#[]⟩, .int .i64 0, .int .i64 0, .string ⟨#[]⟩, .int .i64 1, .int .i64 0, .string ⟨#[]⟩] 85))) := src_evs evZ (Var.made w6 _ _) rfl
                 obtain ⟨q0, q1, q2⟩ := HI6.out.cells
                 clear hb6 hI6))
            have hI7 := HI7.out
            rw [← HF2.out] at hI7
            go_wp2
            go_ret
            exact ⟨_, rfl, hI7.own, hI7.below⟩
end Go.Proofs.YtlidmnehpcodkaaDoor
