/-
  Own text: a path and one name more, the program's and the other one's.
-/
import Derived.Test.YtkligbeneiidaaaAboveW
namespace Go.Proofs.Ytkligbeneiidaaa
open Go.RowKit

def jn (p n : List UInt8) : List UInt8 := if ptOk p = true then ptOf (nms p ++ [n]) else []
theorem jn_not {p n : List UInt8} (h : ptOk p = false) : jn p n = [] := by simp [jn, h]
theorem jn_ok {s nm : ByteArray} (h : ptOk (bt s) = true) : jn (bt s) (bt nm) = ptOf ((nmT s ++ [nm]).map bt) := by
  rw [jn, if_pos h, List.map_append, nmT_bt]; rfl
theorem nmT_join (s nm : ByteArray) : szL (nmT s ++ [nm]) ≤ 29 + nm.size := by
  unfold szL
  rw [List.map_append, joinL_app, nmT_bt, List.length_append]
  have := join_len (nms_all (bt s)).2
  have h4 := (nms_all (bt s)).1
  have h1 : (joinL (List.map bt [nm])).length = 1 + nm.size := by simp [joinL, bt_len]; omega
  omega

set_option maxRecDepth 20000 in
set_option maxHeartbeats 400000 in
theorem implJoin (s nm : ByteArray) (w : World) (hs : s.size ≤ 4194304) :
    Calls Try.prog 21 #[.string s, .string nm] w fun e w' => e = .returned (.string (tx (jn (bt s) (bt nm)))) ∧ Below w.heap.size w w' := by
  cases hp : ptOk (bt s) with
  | false =>
    have HF : Hid (jn (bt s) (bt nm) = []) := jn_not hp
    go_enter Try.func21, Try.ntmps21
    go_wp2_with (go_at_call 18; refine (implPath _ _ hs).mono ?_; rintro e w1 ⟨rfl, hb1⟩; rw [hp])
    go_ret
    exact ⟨by rw [HF.out]; rfl, hb1⟩
  | true =>
    obtain ⟨i0, hi, hz0, hz1, hz2⟩ := info_parts Try.infoStr
    have HE : Hid (jn (bt s) (bt nm) = ptOf ((nmT s ++ [nm]).map bt)) := jn_ok hp
    have hle := nmT_le s
    have hsz := nmT_join s nm
    go_enter Try.func21, Try.ntmps21
    go_wp2_with (go_at_call 18; refine (implPath _ _ hs).mono ?_; rintro e w1 ⟨rfl, hb1⟩; rw [hp])
    go_wp2_with fail
    refine (implNames _ _ hs).mono ?_
    rintro e w2 ⟨v2, rfl, ho2, hb2⟩
    have ho2' := ownsRow_base ho2 hb1.size
    have hb12 : Below w.heap.size w w2 := hb1.trans (hb2.mono hb1.size)
    clear ho2 hb1 hb2
    go_wp2_with (at_builtin; refine wpList_append_own _ rfl _ _ 29 rfl w.heap.size 9 i0 (.string ⟨#[]⟩) 1 16 Try.underlying29 hi hz0 hz1 hz2 rfl (by decide) _ _ _ rfl (ho2'.alloc _) ⟨w2.heap.size, 0, none⟩ 1 1 [.string nm] rfl rfl ?c1 ?c2 ?c3 ?c4 ?c5 ?_)
    case c1 =>
      intro j u hj
      match j, hj with
      | 0, hj => simp at hj; subst hj; simp [Addr.add]
    case c2 => intro u hu; simp at hu; subst hu; rfl
    case c3 => unfold maxLen; omega
    case c4 => omega
    case c5 => have := hb12.size; simp; omega
    intro v' w3 hown' hgrow _
    have hb13 : Below w.heap.size w w3 := below_append hb12 hb12.size ho2' hgrow
    have ho3 : w3.ownsRow w.heap.size 9 1 v' (nmT s ++ [nm]).length ((nmT s ++ [nm]).map Value.string) := by simpa using hown'
    clear hgrow ho2' hown' hb12
    obtain ⟨a, cap, rfl, _, hr3⟩ := own_rdS ho3
    clear ho3
    have hlen : (nmT s ++ [nm]).length ≤ 5 := by simp; omega
    generalize nmT s ++ [nm] = l at *
    go_wp2_with fail
    refine (implPathOf _ _ l _ (by omega) (by exact hr3)).mono ?_
    rintro e w4 ⟨rfl, hb4⟩
    go_wp2
    go_ret
    exact ⟨by rw [HE.out]; rfl, hb13.trans (hb4.mono hb13.size)⟩

set_option maxRecDepth 20000 in
set_option maxHeartbeats 400000 in
theorem specJoin (s nm : ByteArray) (w : World) (hs : s.size ≤ 4194304) (hn : nm.size ≤ 2097152) :
    Calls Try.prog 39 #[.string s, .string nm] w fun e w' => e = .returned (.string (tx (jn (bt s) (bt nm)))) ∧ Below w.heap.size w w' := by
  cases hp : ptOk (bt s) with
  | false =>
    have HF : Hid (jn (bt s) (bt nm) = []) := jn_not hp
    go_enter Try.func39, Try.ntmps39
    go_wp2_with (go_at_call 27; refine (specPath _ _ hs).mono ?_; rintro e w1 ⟨rfl, hb1⟩; rw [hp])
    go_ret
    exact ⟨by rw [HF.out]; rfl, hb1⟩
  | true =>
    obtain ⟨i0, hi, hz0, hz1, hz2⟩ := info_parts Try.infoStr
    have HE : Hid (jn (bt s) (bt nm) = ptOf ((nmT s ++ [nm]).map bt)) := jn_ok hp
    have hle := nmT_le s
    have hsz := nmT_join s nm
    go_enter Try.func39, Try.ntmps39
    go_wp2_with (go_at_call 27; refine (specPath _ _ hs).mono ?_; rintro e w1 ⟨rfl, hb1⟩; rw [hp])
    go_wp2_with fail
    refine (specNames _ _ hs).mono ?_
    rintro e w2 ⟨v2, rfl, ho2, hb2⟩
    have ho2' := ownsRow_base ho2 hb1.size
    have hb12 : Below w.heap.size w w2 := hb1.trans (hb2.mono hb1.size)
    clear ho2 hb1 hb2
    go_wp2_with (at_builtin; refine wpList_append_own _ rfl _ _ 29 rfl w.heap.size 9 i0 (.string ⟨#[]⟩) 1 16 Try.underlying29 hi hz0 hz1 hz2 rfl (by decide) _ _ _ rfl (ho2'.alloc _) ⟨w2.heap.size, 0, none⟩ 1 1 [.string nm] rfl rfl ?c1 ?c2 ?c3 ?c4 ?c5 ?_)
    case c1 =>
      intro j u hj
      match j, hj with
      | 0, hj => simp at hj; subst hj; simp [Addr.add]
    case c2 => intro u hu; simp at hu; subst hu; rfl
    case c3 => unfold maxLen; omega
    case c4 => omega
    case c5 => have := hb12.size; simp; omega
    intro v' w3 hown' hgrow _
    have hb13 : Below w.heap.size w w3 := below_append hb12 hb12.size ho2' hgrow
    have ho3 : w3.ownsRow w.heap.size 9 1 v' (nmT s ++ [nm]).length ((nmT s ++ [nm]).map Value.string) := by simpa using hown'
    clear hgrow ho2' hown' hb12
    obtain ⟨a, cap, rfl, _, hr3⟩ := own_rdS ho3
    clear ho3
    have hlen : (nmT s ++ [nm]).length ≤ 5 := by simp; omega
    generalize nmT s ++ [nm] = l at *
    go_wp2_with fail
    refine (specPathOf _ _ l _ (by omega) (by omega) (by exact hr3)).mono ?_
    rintro e w4 ⟨rfl, hb4⟩
    go_wp2
    go_ret
    exact ⟨by rw [HE.out]; rfl, hb13.trans (hb4.mono hb13.size)⟩
end Go.Proofs.Ytkligbeneiidaaa
