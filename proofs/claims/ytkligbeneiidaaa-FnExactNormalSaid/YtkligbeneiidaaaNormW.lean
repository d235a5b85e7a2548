/-
  Own text: the normal form of a path, as the program makes it.
-/
import Derived.Test.YtkligbeneiidaaaWithinW
namespace Go.Proofs.Ytkligbeneiidaaa
open Go.RowKit

/-- Is there a normal form? -/
def nok (p : List UInt8) : Bool := decide (¬ normL p = [])
theorem nok_no {p : List UInt8} (h : normL p = []) : nok p = false := by simp [nok, h]
theorem nok_yes {p : List UInt8} (h : ¬ normL p = []) : nok p = true := by simp [nok, h]
theorem head_hasPrefix (s : ByteArray) : Lib.hasPrefix s.data.toList [47] = decide ((bt s).head? = some 47) := by
  show Lib.hasPrefix (bt s) [47] = _
  cases h : bt s with
  | nil => simp [Lib.hasPrefix]
  | cons b t =>
    by_cases hb : b = 47
    · subst hb; simp [Lib.hasPrefix]
    · have hb' : ¬ (47 : UInt8) = b := fun e => hb e.symm
      simp [Lib.hasPrefix, List.isPrefixOf, hb, hb']
theorem norm_long {s : ByteArray} (h : 60 < s.size) : normL (bt s) = [] := by
  unfold normL; rw [if_neg (by rw [bt_len]; omega)]
theorem norm_head {s : ByteArray} (h : ¬ (bt s).head? = some 47) : normL (bt s) = [] := by
  unfold normL; rw [if_neg (fun e => h e.2)]
theorem norm_some {s : ByteArray} {l : List (List UInt8)} (h : s.size ≤ 60) (hh : (bt s).head? = some 47) (hn : nrm [] (cutL (bt s)) = some l) : normL (bt s) = ptOf l := by
  unfold normL; rw [if_pos ⟨by rw [bt_len]; exact h, hh⟩, hn]
theorem norm_none {s : ByteArray} (hn : nrm [] (cutL (bt s)) = none) : normL (bt s) = [] := by
  unfold normL; rw [hn]; split <;> rfl
theorem nrm_dot {st t : List (List UInt8)} {x : List UInt8} (h : x = [] ∨ x = [46]) : nrm st (x :: t) = nrm st t := by rw [nrm, if_pos h]
theorem nrm_two {st t : List (List UInt8)} : nrm st ([46, 46] :: t) = nrm st.dropLast t := by rw [nrm, if_neg (by simp), if_pos rfl]
theorem nrm_name {st t : List (List UInt8)} {x : List UInt8} (h1 : ¬ (x = [] ∨ x = [46])) (h2 : ¬ x = [46, 46]) (h : nmOk x = true) : nrm st (x :: t) = nrm (st ++ [x]) t := by rw [nrm, if_neg h1, if_neg h2, if_pos h]
theorem nrm_bad {st t : List (List UInt8)} {x : List UInt8} (h1 : ¬ (x = [] ∨ x = [46])) (h2 : ¬ x = [46, 46]) (h : nmOk x = false) : nrm st (x :: t) = none := by rw [nrm, if_neg h1, if_neg h2, if_neg (by simp [h])]
theorem drop_map {L : List ByteArray} {k : Nat} (h : k < L.length) : (L.drop k).map bt = bt L[k] :: (L.drop (k + 1)).map bt := by
  rw [List.drop_eq_getElem_cons h]; rfl
theorem own_pop {w : World} {base : Nat} {e : TypeId} {a : Option Addr} {n cap : Nat} {l : List ByteArray} (h : w.ownsRow base e 1 (.slice a n cap) n (l.map Value.string)) : w.ownsRow base e 1 (.slice a (n - 1) cap) (n - 1) (l.dropLast.map Value.string) := by
  have hl : l.length = n := by have := h.1; simpa using this
  refine ⟨by simp; omega, ?_⟩
  rcases h.2 with ⟨hv, h0⟩ | ⟨g, c, cur, hv, hb, hg, hn, hc, hs, ht⟩
  · cases hv
    exact .inl ⟨rfl, rfl⟩
  · cases hv
    refine .inr ⟨g, cap, cur, rfl, hb, hg, by omega, hc, hs, ?_⟩
    have h2 : (cur.toList.take (n * 1)).take ((n - 1) * 1) = (l.map Value.string).take ((n - 1) * 1) := by rw [ht]
    rw [List.take_take, Nat.min_eq_left (by omega)] at h2
    rw [h2, List.map_dropLast, List.dropLast_eq_take]
    simp [hl]

set_option maxRecDepth 20000 in
set_option maxHeartbeats 1000000 in
theorem implNormal (s : ByteArray) (w : World) (hs : s.size ≤ 4194304) :
    Calls Try.prog 16 #[.string s] w fun e w' => e = .returned (.tuple #[.string (tx (normL (bt s))), .bool (nok (bt s))]) ∧ Below w.heap.size w w' := by
  by_cases h60 : 60 < s.size
  · have HF : Hid (normL (bt s) = []) := norm_long h60
    have h60' : (60 : Int) < (s.size : Int) := by omega
    go_enter Try.func16, Try.ntmps16
    go_wp2
    go_ret2
    exact ⟨by rw [nok_no HF.out, HF.out]; rfl, Below.refl _ _⟩
  have h60' : ¬ (60 : Int) < (s.size : Int) := by omega
  by_cases hh : ¬ (bt s).head? = some 47
  · have HF : Hid (normL (bt s) = []) := norm_head hh
    have HP : Hid (Lib.hasPrefix s.data.toList [47] = false) := by show _ = _; rw [head_hasPrefix]; simpa using hh
    go_enter Try.func16, Try.ntmps16
    go_wp2_with (go_at_call 44; refine (Try.strings_HasPrefix _ _ _).mono ?_; rintro e w1 ⟨rfl, hw1⟩; subst w1; rw [HP.out])
    go_ret2
    exact ⟨by rw [nok_no HF.out, HF.out]; rfl, Below.refl _ _⟩
  have hh : (bt s).head? = some 47 := Classical.not_not.1 hh
  have HP : Hid (Lib.hasPrefix s.data.toList [47] = true) := by show _ = _; rw [head_hasPrefix]; simpa using hh
  obtain ⟨i0, hi, hz0, hz1, hz2⟩ := info_parts Try.infoStr
  have HSM : Hid (∀ l, nrm [] (cutL (bt s)) = some l → normL (bt s) = ptOf l) := fun l h => norm_some (by omega) hh h
  have HNN : Hid (nrm [] (cutL (bt s)) = none → normL (bt s) = []) := norm_none
  have HCT : Hid ((parts s 47).map bt = cutL (bt s)) := parts_cut s
  have hlen : (parts s 47).length ≤ 61 := by have := (pst_le s 47 (s.size + 1)).2; unfold parts; omega
  clear hh
  go_enter Try.func16, Try.ntmps16
  go_wp2_with (go_at_call 44; refine (Try.strings_HasPrefix _ _ _).mono ?_; rintro e w1 ⟨rfl, hw1⟩; subst w1; rw [HP.out])
  go_wp2_with fail
  refine (implParts s 47 _ hs).mono ?_
  rintro e w1 ⟨v1, rfl, ho1, hb1⟩
  obtain ⟨a, cap, rfl, _, hr1⟩ := own_rdS ho1
  have HC : Hid (∀ k (hk : k < (parts s 47).length), ∃ b off, a = some ⟨b, off, none⟩ ∧ b < w1.heap.size ∧ w1.cell? ⟨b, off + k, none⟩ = some (.string (parts s 47)[k])) := fun k hk => hr1.cellS k hk
  clear ho1 hr1
  generalize parts s 47 = L at *
  go_wp2
  go_loopw [4, 19] (fun v i wr => ∃ (k : Nat) (st : List ByteArray), k ≤ L.length ∧ st.length ≤ k ∧ i = .int .i64 k ∧ wr.ownsRow w1.heap.size 9 1 v st.length (st.map Value.string) ∧ Below w1.heap.size w1 wr ∧ Hid (nrm [] (cutL (bt s)) = nrm (st.map bt) ((L.drop k).map bt))) (fun _ i _ => L.length - (intOf i).toNat)
  case atStart => exact ⟨0, [], Nat.zero_le _, Nat.le_refl _, rfl, World.ownsRow_nil _ _ _ _, Below.refl _ _, by show _ = _; rw [← HCT.out]; simp⟩
  case round =>
    obtain ⟨k, st, hk, hst, rfl, hown, hbel, HA⟩ := hrel
    by_cases hlt : k < L.length
    · obtain ⟨b, off, rfl, hblt, hck⟩ := HC.out k hlt
      have hcr : wr.cell? ⟨b, off + k, none⟩ = some (.string L[k]) := (hbel.cell hblt).trans hck
      have HA' : Hid (nrm [] (cutL (bt s)) = nrm (st.map bt) (bt L[k] :: (L.drop (k + 1)).map bt)) := by show _ = _; rw [HA.out, drop_map hlt]
      generalize L[k] = y at *
      clear hck HA
      by_cases hd : bt y = [] ∨ bt y = [46]
      · have HN : Hid (nrm [] (cutL (bt s)) = nrm (st.map bt) ((L.drop (k + 1)).map bt)) := by show _ = _; rw [HA'.out, nrm_dot hd]
        by_cases he : bt y = []
        · have hy0 := lit_same he
          go_wp2
          go_roundw
          case rel => exact ⟨k + 1, st, by omega, by omega, by go_num, hown, hbel, HN⟩
          case measure => simp [intOf]; omega
        · have hy0 := lit_other he
          have hy1 : (y.toList == [46]) = true := lit_same (by rcases hd with h | h; exact absurd h he; exact h)
          go_wp2
          go_roundw
          case rel => exact ⟨k + 1, st, by omega, by omega, by go_num, hown, hbel, HN⟩
          case measure => simp [intOf]; omega
      · have hy0 : (y.toList == []) = false := lit_other (fun h => hd (Or.inl h))
        have hy1 : (y.toList == [46]) = false := lit_other (fun h => hd (Or.inr h))
        by_cases h2 : bt y = [46, 46]
        · have hy2 := lit_same h2
          have HN : Hid (nrm [] (cutL (bt s)) = nrm (st.dropLast.map bt) ((L.drop (k + 1)).map bt)) := by show _ = _; rw [HA'.out, h2, nrm_two, List.map_dropLast]
          obtain ⟨a2, c2, rfl, _, _⟩ := own_rdS hown
          have hcap := own_cap hown
          have hpop := own_pop hown
          clear hown HA'
          have HDL : Hid (st.dropLast.length = st.length - 1) := List.length_dropLast
          generalize st.dropLast = d at *
          generalize st.length = n at *
          by_cases hn : n = 0
          · subst hn
            go_wp2
            go_roundw
            case rel => exact ⟨k + 1, d, by omega, by have := HDL.out; omega, by go_num, by rw [HDL.out]; exact hpop, hbel, HN⟩
            case measure => simp [intOf]; omega
          · have h1 : (1 : Int) ≤ (n : Int) := by omega
            have hmx : max ((n : Int) - 1) 0 = (n : Int) - 1 := by omega
            go_wp2
            go_roundw
            case rel => exact ⟨k + 1, d, by omega, by have := HDL.out; omega, by go_num, by rw [HDL.out]; exact hpop, hbel, HN⟩
            case measure => simp [intOf]; omega
        · have hy2 := lit_other h2
          cases hy : nmOk (bt y) with
          | false =>
            have HF : Hid (normL (bt s) = []) := HNN.out (by rw [HA'.out, nrm_bad hd h2 hy])
            go_wp2_with (go_at_call 29; refine (implName _ _).mono ?_; rintro e w2 ⟨rfl, hb2⟩; rw [hy])
            go_ret2
            have hb12 : Below w.heap.size w w2 := hb1.trans ((hbel.trans (hb2.mono hbel.size)).mono hb1.size)
            exact ⟨by rw [nok_no HF.out, HF.out]; rfl, hb12⟩
          | true =>
            have HN : Hid (nrm [] (cutL (bt s)) = nrm ((st ++ [y]).map bt) ((L.drop (k + 1)).map bt)) := by show _ = _; rw [HA'.out, nrm_name hd h2 hy, List.map_append]; rfl
            clear HA' hd h2
            go_wp2_with fail
            refine (implName _ _).mono ?_
            rintro e w2 ⟨rfl, hb2⟩
            rw [hy]
            have ho2 := ownsRow_below hown hb2 (Nat.le_refl _)
            have hbel2 : Below w1.heap.size w1 w2 := hbel.trans (hb2.mono hbel.size)
            clear hown hbel hb2
            go_wp2_with (at_builtin; refine wpList_append_own _ rfl _ _ 29 rfl w1.heap.size 9 i0 (.string ⟨#[]⟩) 1 16 Try.underlying29 hi hz0 hz1 hz2 rfl (by decide) _ _ _ rfl (ho2.alloc _) ⟨w2.heap.size, 0, none⟩ 1 1 [.string y] rfl rfl ?c1 ?c2 ?c3 ?c4 ?c5 ?_)
            case c1 =>
              intro j u hj
              match j, hj with
              | 0, hj => simp at hj; subst hj; simp [Addr.add]
            case c2 => intro u hu; simp at hu; subst hu; rfl
            case c3 => unfold maxLen; omega
            case c4 => omega
            case c5 => have := hbel2.size; simp; omega
            intro v' w3 hown' hgrow _
            have hbel3 : Below w1.heap.size w1 w3 := below_append hbel2 hbel2.size ho2 hgrow
            have ho3 : w3.ownsRow w1.heap.size 9 1 v' (st ++ [y]).length ((st ++ [y]).map Value.string) := by simpa using hown'
            have hl3 : (st ++ [y]).length ≤ k + 1 := by simp; omega
            clear hgrow ho2 hown' hbel2
            generalize st ++ [y] = st2 at *
            go_wp2
            go_roundw
            case rel => exact ⟨k + 1, st2, by omega, hl3, by go_num, ho3, hbel3, HN⟩
            case measure => simp [intOf]; omega
    · obtain rfl : k = L.length := by omega
      have HE : Hid (normL (bt s) = ptOf (st.map bt)) := HSM.out _ (by rw [HA.out]; simp [nrm])
      obtain ⟨a2, c2, rfl, _, hr2⟩ := own_rdS hown
      have hb0r : Below w.heap.size w wr := hb1.trans (hbel.mono hb1.size)
      clear hown HA HNN HSM HC
      go_wp2_with fail
      refine (implPathOf _ _ st _ (by omega) hr2).mono ?_
      rintro e w2 ⟨rfl, hb2⟩
      have hb02 := hb0r.trans (hb2.mono hb0r.size)
      rw [← HE.out]
      by_cases hz : normL (bt s) = []
      · have hzl : ((tx (normL (bt s))).toList == []) = true := lit_same (by rw [bt_tx]; exact hz)
        have HZ : Hid (nok (bt s) = false) := nok_no hz
        clear hz
        generalize hx : tx (normL (bt s)) = z at *
        have HX : Hid (tx (normL (bt s)) = z) := hx
        clear hx
        go_wp2
        go_ret2
        exact ⟨by rw [HZ.out, HX.out]; rfl, hb02⟩
      · have hzl : ((tx (normL (bt s))).toList == []) = false := lit_other (by rw [bt_tx]; exact hz)
        have HZ : Hid (nok (bt s) = true) := nok_yes hz
        clear hz
        generalize hx : tx (normL (bt s)) = z at *
        have HX : Hid (tx (normL (bt s)) = z) := hx
        clear hx
        go_wp2
        go_ret2
        exact ⟨by rw [HZ.out, HX.out]; rfl, hb02⟩
end Go.Proofs.Ytkligbeneiidaaa
