/-
  Own text: the names of a path: a new row of its names, the program's and the other one's.
-/
import Derived.Test.YtmnngfaelanbcaaSPathW
import Derived.Test.YtmnngfaelanbcaaAppSrc
namespace Go.Proofs.Ytmnngfaelanbcaa
open Go.RowKit

/-- The names of a path, as texts. -/
def nmT (s : ByteArray) : List ByteArray := (nms (bt s)).map tx
theorem nmT_len (s : ByteArray) : (nmT s).length = (nms (bt s)).length := by simp [nmT]
theorem nmT_le (s : ByteArray) : (nmT s).length ≤ 4 := by rw [nmT_len]; exact (nms_all (bt s)).1
theorem nmT_bt (s : ByteArray) : (nmT s).map bt = nms (bt s) := by
  unfold nmT
  rw [List.map_map, show bt ∘ tx = id from funext bt_tx, List.map_id]
theorem nmT_none {s : ByteArray} (h : nms (bt s) = []) : nmT s = [] := by simp [nmT, h]
theorem map_tx {l : List ByteArray} {q : List (List UInt8)} (h : l.map bt = q) : l = q.map tx := by
  rw [← h, List.map_map, show tx ∘ bt = id from funext tx_bt, List.map_id]

theorem own_cap {w : World} {base : Nat} {e : TypeId} {a : Option Addr} {m cap n : Nat} {xs : List Value} (h : w.ownsRow base e 1 (.slice a m cap) n xs) : n ≤ cap := by
  rcases h.2 with ⟨_, h0⟩ | ⟨g, cap', cur, hv, _, _, hn, _⟩
  · omega
  · cases hv; exact hn

theorem src_rdS {w : World} {a : Option Addr} {l : List ByteArray} (cap : Nat) (h : RdS w a l) : Src Try.prog 1 39 (.slice a l.length cap) l.length (l.map Value.string) w := by
  cases a with
  | none =>
    rcases h with rfl | ⟨b, off, h, _⟩
    · exact Src.ofNil w Try.underlying39 cap
    · cases h
  | some x =>
    refine Src.ofSlice w Try.underlying39 x l.length cap _ (by simp) ?_ ?_
    · intro j u hj
      rcases h with rfl | ⟨b, off, h, hlt, hc⟩
      · simp at hj
      · cases h
        rw [List.getElem?_map] at hj
        obtain ⟨y, hy, rfl⟩ := Option.map_eq_some_iff.1 hj
        obtain ⟨hj', rfl⟩ := List.getElem?_eq_some_iff.1 hy
        have := hc j hj'
        rw [Go.WideShapes.add_plain]
        exact this
    · intro u hu
      obtain ⟨y, _, rfl⟩ := List.mem_map.1 hu
      rfl

set_option maxRecDepth 20000 in
set_option maxHeartbeats 400000 in
theorem copyS (a : Option Addr) (cap : Nat) (l : List ByteArray) (w : World) (hl : l.length ≤ 4194305) (hr : RdS w a l) :
    Calls Try.prog 54 #[.slice a l.length cap] w fun e w' => ∃ v, e = .returned v ∧ w'.ownsRow w.heap.size 9 1 v l.length (l.map Value.string) ∧ Below w.heap.size w w' := by
  obtain ⟨i0, hi, hz0, hz1, hz2⟩ := info_parts Try.infoStr
  have ho0 : (w.alloc (.cells #[] 9)).ownsRow w.heap.size 9 1 (.slice (some ⟨w.heap.size, 0, none⟩) 0 0) 0 [] := World.ownsRow_made w #[] 0 (Nat.le_refl _) (Nat.zero_le _) rfl
  have hb0 : Below w.heap.size w (w.alloc (.cells #[] 9)) := (Below.refl _ _).alloc (Nat.le_refl _) _
  have HR : Hid (RdS (w.alloc (.cells #[] 9)) a l) := hr.below hb0 (Nat.le_refl _)
  clear hr
  go_enter Try.func54, Try.ntmps54
  go_wp2_with (at_builtin; refine wpList_append_own_src _ rfl _ _ 39 39 rfl w.heap.size 9 i0 (.string ⟨#[]⟩) 1 16 Try.underlying39 hi hz0 hz1 hz2 rfl _ _ _ rfl ho0 _ l.length (l.map Value.string) rfl (src_rdS cap HR.out) (by unfold maxLen; omega) (by omega) hb0.size ?_)
  intro v' w2 ho2 hg2
  have hb2 : Below w.heap.size w w2 := hb0.grown hg2 hb0.size (fun k hk => (ho0.lt k hk).1)
  clear hg2
  go_wp2
  go_ret
  exact ⟨_, rfl, by simpa using ho2, hb2⟩

theorem tail_path {s : ByteArray} (h : ptOk (bt s) = true) (hr : ¬ bt s = [47]) : parts (s.extract 1 s.size) 47 = nmT s ∧ (parts s 47).length = (nmT s).length + 1 ∧ (parts s 47).tail = nmT s ∧ 1 ≤ s.size ∧ 1 ≤ (nmT s).length := by
  obtain ⟨hc, hj, h1, _, _⟩ := pt_names h hr
  have h1' : 1 ≤ (nmT s).length := by rw [nmT_len]; exact h1
  have hp : parts s 47 = tx [] :: nmT s := by rw [parts_tx, hc]; rfl
  refine ⟨?_, by rw [hp]; simp, by rw [hp]; rfl, ?_, h1'⟩
  · rw [parts_tx, bt_extract, List.take_of_length_le (by rw [bt_len]; exact Nat.le_refl _)]
    show _ = (nms (bt s)).map tx
    congr 1
    cases hb : bt s with
    | nil => rw [hb] at hc h1; simp [cutL] at hc; rw [hc] at h1; simp at h1
    | cons b t =>
      by_cases h47 : b = 47
      · rw [hb, h47, cutL_slash] at hc
        simp at hc
        rw [h47]
        simp [hc]
      · obtain ⟨x, r, e⟩ := cutL_cons t
        rw [hb, cutL_step h47 e] at hc
        simp at hc
  · rw [← bt_len]; exact (pt_len h).1

set_option maxRecDepth 20000 in
set_option maxHeartbeats 400000 in
theorem implNames (s : ByteArray) (w : World) (hs : s.size ≤ 4194304) :
    Calls Try.prog 52 #[.string s] w fun e w' => ∃ v, e = .returned v ∧ w'.ownsRow w.heap.size 9 1 v (nmT s).length ((nmT s).map Value.string) ∧ Below w.heap.size w w' := by
  by_cases hr : bt s = [47]
  · have hst : (s.toList == [47]) = true := lit_same hr
    have HN : Hid (nmT s = []) := nmT_none (by rw [hr]; exact nms_root)
    go_enter Try.func52, Try.ntmps52
    go_wp2
    go_ret
    exact ⟨_, rfl, by rw [HN.out]; exact World.ownsRow_nil _ _ _ _, Below.refl _ _⟩
  have hst : (s.toList == [47]) = false := lit_other hr
  cases hp : ptOk (bt s) with
  | false =>
    have HN : Hid (nmT s = []) := nmT_none (nms_not hp)
    go_enter Try.func52, Try.ntmps52
    go_wp2_with (go_at_call 51; refine (implPath _ _ hs).mono ?_; rintro e w1 ⟨rfl, hb1⟩; rw [hp])
    go_ret
    exact ⟨_, rfl, by rw [HN.out]; exact World.ownsRow_nil _ _ _ _, hb1⟩
  | true =>
    obtain ⟨ht, _, _, h1, _⟩ := tail_path hp hr
    have HT : Hid (parts (s.extract 1 s.size) 47 = nmT s) := ht
    have hsz : (s.extract 1 s.size).size ≤ 4194304 := by have := extract_size_le s 1 s.size (Nat.le_refl _); omega
    clear ht hr
    have hsl : ∀ W, (Instr.slice 9 (.string s) (some (.int .i64 1)) none none).run Try.prog W = .ok (.string (s.extract 1 s.size)) W := fun W => by
      rw [run_slice_string_from_if (P := Try.prog) W 9 s .i64 1 Try.underlying9, if_pos (by omega)]
      simp
    generalize s.extract 1 s.size = q at *
    go_enter Try.func52, Try.ntmps52
    go_wp2_with (go_at_call 51; refine (implPath _ _ hs).mono ?_; rintro e w1 ⟨rfl, hb1⟩; rw [hp])
    go_wp2_with fail
    refine (implParts q 47 _ hsz).mono ?_
    rintro e w2 ⟨v2, rfl, ho2, hb2⟩
    rw [HT.out] at ho2
    go_wp2
    go_ret
    exact ⟨_, rfl, ownsRow_base ho2 hb1.size, hb1.trans (hb2.mono hb1.size)⟩

set_option maxRecDepth 20000 in
set_option maxHeartbeats 400000 in
theorem specNames (s : ByteArray) (w : World) (hs : s.size ≤ 4194304) :
    Calls Try.prog 43 #[.string s] w fun e w' => ∃ v, e = .returned v ∧ w'.ownsRow w.heap.size 9 1 v (nmT s).length ((nmT s).map Value.string) ∧ Below w.heap.size w w' := by
  cases hp : ptOk (bt s) with
  | false =>
    have HN : Hid (nmT s = []) := nmT_none (nms_not hp)
    go_enter Try.func43, Try.ntmps43
    go_wp2_with (go_at_call 24; refine (specPath _ _ hs).mono ?_; rintro e w1 ⟨rfl, hb1⟩; rw [hp])
    go_ret
    exact ⟨_, rfl, by rw [HN.out]; exact World.ownsRow_made w1 #[] 0 hb1.size (Nat.zero_le _) rfl, hb1.alloc hb1.size _⟩
  | true =>
    by_cases hr : bt s = [47]
    · have hst : (s.toList == [47]) = true := lit_same hr
      have HN : Hid (nmT s = []) := nmT_none (by rw [hr]; exact nms_root)
      go_enter Try.func43, Try.ntmps43
      go_wp2_with (go_at_call 24; refine (specPath _ _ hs).mono ?_; rintro e w1 ⟨rfl, hb1⟩; rw [hp])
      go_ret
      exact ⟨_, rfl, by rw [HN.out]; exact World.ownsRow_made w1 #[] 0 hb1.size (Nat.zero_le _) rfl, hb1.alloc hb1.size _⟩
    · have hst : (s.toList == [47]) = false := lit_other hr
      obtain ⟨_, hlen, htl, _, hl1⟩ := tail_path hp hr
      have hle := nmT_le s
      have HTL : Hid ((parts s 47).tail = nmT s) := htl
      clear htl hr
      go_enter Try.func43, Try.ntmps43
      go_wp2_with (go_at_call 24; refine (specPath _ _ hs).mono ?_; rintro e w1 ⟨rfl, hb1⟩; rw [hp])
      go_wp2_with fail
      refine (specParts s 47 _ hs).mono ?_
      rintro e w2 ⟨v2, rfl, ho2, hb2⟩
      obtain ⟨a, cap, rfl, _, hr2⟩ := own_rdS ho2
      have hcap : ¬ cap = 1 := by have := own_cap ho2; omega
      clear ho2
      generalize hn : nmT s = l at *
      have HNM : Hid (nmT s = l) := hn
      clear hn
      generalize hL : parts s 47 = L at *
      have hb12 : Below w.heap.size w w2 := hb1.trans (hb2.mono hb1.size)
      rcases hr2 with rfl | ⟨b, off, rfl, hlt, hc⟩
      · simp at hlen
      · have HRT : Hid (RdS w2 (some ⟨b, off + 1, none⟩) l) := by
          refine .inr ⟨b, off + 1, rfl, hlt, fun i hi => ?_⟩
          have := hc (i + 1) (by omega)
          rw [show off + 1 + i = off + (i + 1) by omega, this]
          congr 2
          have e2 := HTL.out
          subst e2
          simp
        clear hc hL HTL hb1 hb2
        go_wp2_with fail
        refine (copyS _ _ l _ (by omega) HRT.out).mono ?_
        rintro e w3 ⟨v3, rfl, ho3, hb3⟩
        go_wp2
        go_ret
        exact ⟨v3, rfl, by rw [HNM.out]; exact ownsRow_base ho3 hb12.size, hb12.trans (hb3.mono hb12.size)⟩
end Go.Proofs.Ytmnngfaelanbcaa
