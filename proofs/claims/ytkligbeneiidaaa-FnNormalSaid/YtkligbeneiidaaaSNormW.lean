/-
  Own text: the normal form of a path, the other way: its rows are made anew at each name.
-/
import Derived.Test.YtkligbeneiidaaaNormW
import Derived.Deep.RegionLaw
namespace Go.Proofs.Ytkligbeneiidaaa
open Go.RowKit

section
variable {P : Program} (w : World)
/-- append onto a row of the call's own, from whatever source, as one step of a region that draws. -/
theorem step_append_own_src {ops : Array Oper} {o : Oper} {a : Act} {K : Act → World → Prop} {Q : Exit → Act → World → Prop} {E : Prop} (hgd : o.guard = none) (s x : Operand) (t tx : TypeId)
    (ho : o.op = .call { callee := .builtin .append, args := #[s, x], argTypes := #[t, tx] })
    (base : Nat) (e : TypeId) (i : TypeInfo) (z : Value) (size bytes : Nat) (ht : P.underlying t = some (.slice e)) (hi : P.info? e = some i) (hz : i.zero = some z)
    (hsize : i.size = size) (hby : i.bytes = bytes) (hzs : z.cells.size = size)
    (v : Value) (n : Nat) (xs : List Value) (xv : Value) (m : Nat) (news : List Value) (h63 : n + m ≤ maxLen) (hbytes : (n + m) * bytes ≤ 140737488355328)
    (hs : a.eval s = v) (hx : a.eval x = xv) (hown : w.ownsRow base e size v n xs) (hsrc : Src P size tx xv m news w) (hbase : base ≤ w.heap.size)
    (h : ∀ v' w', w'.ownsRow base e size v' (n + m) (xs ++ news) → w.grownBy w' v.ownBlock → K (a.put o.dst v') w') :
    if Region.wanted o (yielded ops a.tmps) = true then Oper.wp P o a w K Q else E := by
  have hw : Region.wanted o (yielded ops a.tmps) = true := by simp [Region.wanted, hgd]
  rw [if_pos hw]
  obtain ⟨v', w', hr, h2, h3⟩ := run_append_own_src (P := P) w base t tx o.type e i z size bytes ht hi hz hsize hby hzs v n xs hown xv m news hsrc h63 hbytes hbase
  unfold Oper.wp execOp
  simp only [ho, resolve, invoke, builtin, Sem.run_bind, Sem.run_pure, Result.andThen_ok, List.map_toArray, List.map_cons, List.map_nil, hs, hx, hr]
  exact h v' w' h2 h3
end

theorem alloc_cell (w : World) (y : ByteArray) : (w.alloc (.cells #[.string y] 9)).cell? ⟨w.heap.size, 0, none⟩ = some (.string y) := by simp

theorem src_one {w : World} {b : Nat} {y : ByteArray} (h : w.cell? ⟨b, 0, none⟩ = some (.string y)) : Src Try.prog 1 29 (.slice (some ⟨b, 0, none⟩) 1 1) 1 [.string y] w := by
  refine Src.ofSlice w Try.underlying29 ⟨b, 0, none⟩ 1 1 [.string y] rfl ?_ ?_
  · intro j u hj
    match j, hj with
    | 0, hj => simp at hj; subst hj; simpa [Addr.add] using h
  · intro u hu
    simp at hu
    subst hu
    rfl

set_option maxRecDepth 20000 in
set_option maxHeartbeats 1000000 in
theorem specNormal (s : ByteArray) (w : World) (hs : s.size ≤ 4194304) :
    Calls Try.prog 17 #[.string s] w fun e w' => e = .returned (.tuple #[.string (tx (normL (bt s))), .bool (nok (bt s))]) ∧ Below w.heap.size w w' := by
  by_cases h60 : 60 < s.size
  · have HF : Hid (normL (bt s) = []) := norm_long h60
    have h60' : (60 : Int) < (s.size : Int) := by omega
    have h1 : ¬ (s.size : Int) < 1 := by omega
    go_enter Try.func17, Try.ntmps17
    go_wp2
    go_ret2
    exact ⟨by rw [nok_no HF.out, HF.out]; rfl, Below.refl _ _⟩
  have h60' : ¬ (60 : Int) < (s.size : Int) := by omega
  by_cases h0 : s.size = 0
  · have HF : Hid (normL (bt s) = []) := norm_head (by
      have : bt s = [] := List.eq_nil_of_length_eq_zero (by rw [bt_len]; exact h0)
      rw [this]; simp)
    have h1 : (s.size : Int) < 1 := by omega
    go_enter Try.func17, Try.ntmps17
    go_wp2
    go_ret2
    exact ⟨by rw [nok_no HF.out, HF.out]; rfl, Below.refl _ _⟩
  have h1 : ¬ (s.size : Int) < 1 := by omega
  have h00 : 0 < s.size := by omega
  have hhd : (bt s).head? = some (s[0]'h00) := by
    rw [List.head?_eq_getElem?, List.getElem?_eq_getElem (by rw [bt_len]; exact h00), bt_get s 0 h00]
  by_cases h47 : ¬ ((s[0]'h00).toNat : Int) = 47
  · have HF : Hid (normL (bt s) = []) := norm_head (by
      rw [hhd]
      intro e
      apply h47
      rw [Option.some.inj e]; rfl)
    clear hhd
    go_enter Try.func17, Try.ntmps17
    go_wp2
    go_ret2
    exact ⟨by rw [nok_no HF.out, HF.out]; rfl, Below.refl _ _⟩
  have h47 : ((s[0]'h00).toNat : Int) = 47 := Classical.not_not.1 h47
  have hh : (bt s).head? = some 47 := by
    rw [hhd]
    congr 1
    apply UInt8.toNat_inj.1
    rw [show (47 : UInt8).toNat = 47 from rfl]
    omega
  clear hhd
  obtain ⟨i0, hi, hz0, hz1, hz2⟩ := info_parts Try.infoStr
  have HSM : Hid (∀ l, nrm [] (cutL (bt s)) = some l → normL (bt s) = ptOf l) := fun l h => norm_some (by omega) hh h
  have HNN : Hid (nrm [] (cutL (bt s)) = none → normL (bt s) = []) := norm_none
  have HALL : Hid (∀ l, nrm [] (cutL (bt s)) = some l → l.all nmOk = true) := fun l h => nrm_all _ [] l rfl h
  have HCT : Hid ((parts s 47).map bt = cutL (bt s)) := parts_cut s
  have hlen : (parts s 47).length ≤ 61 := by have := (pst_le s 47 (s.size + 1)).2; unfold parts; omega
  clear hh
  go_enter Try.func17, Try.ntmps17
  go_wp2_with fail
  refine (specParts s 47 _ hs).mono ?_
  rintro e w1 ⟨v1, rfl, ho1, hb1⟩
  obtain ⟨a, cap, rfl, _, hr1⟩ := own_rdS ho1
  have HC : Hid (∀ k (hk : k < (parts s 47).length), ∃ b off, a = some ⟨b, off, none⟩ ∧ b < w1.heap.size ∧ w1.cell? ⟨b, off + k, none⟩ = some (.string (parts s 47)[k])) := fun k hk => hr1.cellS k hk
  clear ho1 hr1
  generalize parts s 47 = L at *
  have ho0 : (w1.alloc (.cells #[] 9)).ownsRow w1.heap.size 9 1 (.slice (some ⟨w1.heap.size, 0, none⟩) 0 0) 0 [] := World.ownsRow_made w1 #[] 0 (Nat.le_refl _) (Nat.zero_le _) rfl
  have hb0 : Below w1.heap.size w1 (w1.alloc (.cells #[] 9)) := (Below.refl _ _).alloc (Nat.le_refl _) _
  go_wp2
  go_loopw [5, 6] (fun v i wr => ∃ (k : Nat) (st : List ByteArray), k ≤ L.length ∧ st.length ≤ k ∧ i = .int .i64 k ∧ wr.ownsRow w1.heap.size 9 1 v st.length (st.map Value.string) ∧ Below w1.heap.size w1 wr ∧ Hid (nrm [] (cutL (bt s)) = nrm (st.map bt) ((L.drop k).map bt))) (fun _ i _ => L.length - (intOf i).toNat)
  case atStart => exact ⟨0, [], Nat.zero_le _, Nat.le_refl _, rfl, ho0, hb0, by show _ = _; rw [← HCT.out]; simp⟩
  case round =>
    clear ho0 hb0
    obtain ⟨k, st, hk, hst, rfl, hown, hbel, HA⟩ := hrel
    by_cases hlt : k < L.length
    · obtain ⟨b, off, rfl, hblt, hck⟩ := HC.out k hlt
      have hcr : wr.cell? ⟨b, off + k, none⟩ = some (.string L[k]) := (hbel.cell hblt).trans hck
      have HA' : Hid (nrm [] (cutL (bt s)) = nrm (st.map bt) (bt L[k] :: (L.drop (k + 1)).map bt)) := by show _ = _; rw [HA.out, drop_map hlt]
      generalize L[k] = y at *
      clear hck HA
      by_cases hd : bt y = [] ∨ bt y = [46]
      · have HN : Hid (nrm [] (cutL (bt s)) = nrm (st.map bt) ((L.drop (k + 1)).map bt)) := by show _ = _; rw [HA'.out, nrm_dot hd]
        by_cases he : bt y = []
        · have hy0 := lit_same he
          go_wp2
          go_roundw
          case rel => exact ⟨k + 1, st, by omega, by omega, by go_num, hown, hbel, HN⟩
          case measure => simp [intOf]; omega
        · have hy0 := lit_other he
          have hy1 : (y.toList == [46]) = true := lit_same (by rcases hd with h | h; exact absurd h he; exact h)
          go_wp2
          go_roundw
          case rel => exact ⟨k + 1, st, by omega, by omega, by go_num, hown, hbel, HN⟩
          case measure => simp [intOf]; omega
      · have hy0 : (y.toList == []) = false := lit_other (fun h => hd (Or.inl h))
        have hy1 : (y.toList == [46]) = false := lit_other (fun h => hd (Or.inr h))
        by_cases h2 : bt y = [46, 46]
        · have hy2 := lit_same h2
          have HN : Hid (nrm [] (cutL (bt s)) = nrm (st.dropLast.map bt) ((L.drop (k + 1)).map bt)) := by show _ = _; rw [HA'.out, h2, nrm_two, List.map_dropLast]
          obtain ⟨a2, c2, rfl, _, _⟩ := own_rdS hown
          have hcap := own_cap hown
          have hpop := own_pop hown
          have HO : Hid (wr.ownsRow w1.heap.size 9 1 (.slice a2 st.length c2) st.length (st.map Value.string)) := hown
          clear hown HA'
          by_cases hn : st.length = 0
          · have hn' : ¬ (0 : Int) < (st.length : Int) := by omega
            have HN2 : Hid (nrm [] (cutL (bt s)) = nrm (st.map bt) ((L.drop (k + 1)).map bt)) := by
              have := HN.out
              rw [List.eq_nil_of_length_eq_zero hn] at this ⊢
              exact this
            go_wp2
            go_roundw
            case rel => exact ⟨k + 1, st, by omega, by omega, by go_num, HO.out, hbel, HN2⟩
            case measure => simp [intOf]; omega
          · have HDL : Hid (st.dropLast.length = st.length - 1) := List.length_dropLast
            clear HO
            generalize st.dropLast = d at *
            generalize st.length = n at *
            have h1 : (1 : Int) ≤ (n : Int) := by omega
            have h0n : (0 : Int) < (n : Int) := by omega
            go_wp2
            go_roundw
            case rel => exact ⟨k + 1, d, by omega, by have := HDL.out; omega, by go_num, by rw [HDL.out]; exact hpop, hbel, HN⟩
            case measure => simp [intOf]; omega
        · have hy2 := lit_other h2
          cases hy : nmOk (bt y) with
          | false =>
            have HF : Hid (normL (bt s) = []) := HNN.out (by rw [HA'.out, nrm_bad hd h2 hy])
            go_wp2_with (go_at_call 28; refine (specName _ _).mono ?_; rintro e w2 ⟨rfl, hw2⟩; subst w2; rw [hy])
            go_ret2
            have hb12 : Below w.heap.size w wr := hb1.trans (hbel.mono hb1.size)
            exact ⟨by rw [nok_no HF.out, HF.out]; rfl, hb12⟩
          | true =>
            have HN : Hid (nrm [] (cutL (bt s)) = nrm ((st ++ [y]).map bt) ((L.drop (k + 1)).map bt)) := by show _ = _; rw [HA'.out, nrm_name hd h2 hy, List.map_append]; rfl
            clear HA' hd h2
            obtain ⟨a2, c2, rfl, _, hr2⟩ := own_rdS hown
            have HR2 : Hid (RdS wr a2 st) := hr2
            clear hown hr2
            go_wp2_with fail
            refine (specName _ _).mono ?_
            rintro e w2 ⟨rfl, hw2⟩
            subst w2
            rw [hy]
            go_wp2_with fail
            have hblr : b < wr.heap.size := by have := hbel.size; omega
            have hbdr : Below w1.heap.size w1 wr.drew := hbel.drew
            have hbal : Below w1.heap.size w1 (wr.drew.alloc (.cells #[.string y] 9)) := hbdr.alloc hbdr.size _
            have hw1r := hbdr.size
            have hw1a := hbal.size
            have HRd : Hid (RdS wr.drew a2 st) := HR2.out.below ((Below.refl wr.heap.size wr).drew) (Nat.le_refl _)
            have HRa : Hid (RdS (wr.drew.alloc (.cells #[.string y] 9)) a2 st) := HRd.out.below ((Below.refl _ _).alloc (Nat.le_refl _) _) (Nat.le_refl _)
            have hst2 : st.length ≤ 4194305 := by omega
            go_region_law (first
              | (go_simp
                 go_at_call 47
                 refine (copyS a2 c2 st wr.drew hst2 HRd.out).mono ?_
                 rintro e w2 ⟨v2, rfl, ho2, hb2⟩
                 have hoB := ownsRow_base ho2 hw1r
                 have hb12 : Below w1.heap.size w1 w2 := hbdr.trans (hb2.mono hw1r)
                 have hc2 : w2.cell? ⟨b, off + k, none⟩ = some (.string y) := (hb2.cell (by exact hblr)).trans hcr
                 clear ho2)
              | (go_simp
                 go_at_call 47
                 refine (copyS a2 c2 st (wr.drew.alloc (.cells #[.string y] 9)) hst2 HRa.out).mono ?_
                 rintro e w2 ⟨v2, rfl, ho2, hb2⟩
                 have hoB := ownsRow_base ho2 hw1a
                 have hb12 : Below w1.heap.size w1 w2 := hbal.trans (hb2.mono hw1a)
                 have hsA : w2.cell? ⟨wr.drew.heap.size, 0, none⟩ = some (.string y) := (hb2.cell (by exact Nat.lt_of_lt_of_eq (Nat.lt_succ_self _) (by simp))).trans (alloc_cell _ _)
                 clear ho2)
              | (refine step_append_own_src _ rfl (.tmp 64) (.tmp 69) 29 29 rfl w1.heap.size 9 i0 (.string ⟨#[]⟩) 1 16 Try.underlying29 hi hz0 hz1 hz2 rfl v2 st.length (st.map Value.string) (.slice (some ⟨wr.drew.heap.size, 0, none⟩) 1 1) 1 [.string y] ?_ ?_ ?_ ?_ hoB ?_ ?_ ?_
                 · unfold maxLen; omega
                 · omega
                 · simp [Act.eval]
                 · simp [Act.eval]
                 · exact src_one hsA
                 · exact hb12.size
                 intro v3 w3 ho3 hg3
                 have hoF := ho3
                 have hbF : Below w1.heap.size w1 w3 := hb12.grown hg3 hb12.size (fun k hk => (hoB.lt k hk).1)
                 clear ho3 hg3)
              | (refine step_append_own_src _ rfl (.tmp 64) (.tmp 69) 29 29 rfl w1.heap.size 9 i0 (.string ⟨#[]⟩) 1 16 Try.underlying29 hi hz0 hz1 hz2 rfl v2 st.length (st.map Value.string) (.slice (some ⟨w2.heap.size, 0, none⟩) 1 1) 1 [.string y] ?_ ?_ ?_ ?_ (hoB.alloc _) ?_ ?_ ?_
                 · unfold maxLen; omega
                 · omega
                 · simp [Act.eval]
                 · simp [Act.eval]
                 · exact src_one (by simp)
                 · have hq := hb12.size; simp; omega
                 intro v3 w3 ho3 hg3
                 have hoF := ho3
                 have hbF : Below w1.heap.size w1 w3 := below_append hb12 hb12.size hoB hg3
                 clear ho3 hg3))
            all_goals
              have ho4 : w3.ownsRow w1.heap.size 9 1 v3 (st ++ [y]).length ((st ++ [y]).map Value.string) := by simpa using hoF
              have hl3 : (st ++ [y]).length ≤ k + 1 := by simp; omega
              clear hoF hoB
              generalize st ++ [y] = st2 at *
              go_wp2
              go_roundw
              case rel => exact ⟨k + 1, st2, by omega, hl3, by go_num, ho4, hbF, HN⟩
              case measure => simp [intOf]; omega
    · obtain rfl : k = L.length := by omega
      have HE : Hid (normL (bt s) = ptOf (st.map bt)) := HSM.out _ (by rw [HA.out]; simp [nrm])
      have hsz : szL st ≤ 7 * st.length := by
        have := join_len (HALL.out (st.map bt) (by rw [HA.out]; simp [nrm]))
        unfold szL
        simpa using this
      obtain ⟨a2, c2, rfl, _, hr2⟩ := own_rdS hown
      have hb0r : Below w.heap.size w wr := hb1.trans (hbel.mono hb1.size)
      clear hown HA HNN HSM HC
      go_wp2_with fail
      refine (specPathOf _ _ st _ (by omega) (by omega) hr2).mono ?_
      rintro e w2 ⟨rfl, hb2⟩
      have hb02 := hb0r.trans (hb2.mono hb0r.size)
      rw [← HE.out]
      by_cases hz : normL (bt s) = []
      · have hzl : ((tx (normL (bt s))).toList == []) = true := lit_same (by rw [bt_tx]; exact hz)
        have HZ : Hid (nok (bt s) = false) := nok_no hz
        clear hz
        generalize hx : tx (normL (bt s)) = z at *
        have HX : Hid (tx (normL (bt s)) = z) := hx
        clear hx
        go_wp2
        go_ret2
        exact ⟨by rw [HZ.out, HX.out]; rfl, hb02⟩
      · have hzl : ((tx (normL (bt s))).toList == []) = false := lit_other (by rw [bt_tx]; exact hz)
        have HZ : Hid (nok (bt s) = true) := nok_yes hz
        clear hz
        generalize hx : tx (normL (bt s)) = z at *
        have HX : Hid (tx (normL (bt s)) = z) := hx
        clear hx
        go_wp2
        go_ret2
        exact ⟨by rw [HZ.out, HX.out]; rfl, hb02⟩
end Go.Proofs.Ytkligbeneiidaaa
