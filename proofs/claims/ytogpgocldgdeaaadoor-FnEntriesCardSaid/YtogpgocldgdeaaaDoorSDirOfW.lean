/-
  Own text: a directory is read from its text, by the other program.
-/
import Derived.Test.YtogpgocldgdeaaaDoorReadE
import Derived.Test.YtogpgocldgdeaaaDoorSpecTextW
import Derived.Test.YtogpgocldgdeaaaDoorSAddB
import Derived.Test.YtogpgocldgdeaaaDoorAppAt
namespace Go.Proofs.YtogpgocldgdeaaaDoor
open Go.RowKit

theorem ownEmpty (w : World) (lo : Nat) (h : lo ≤ w.heap.size) : OwnEn (w.alloc (.cells #[] 32)) lo (w.heap.size + 1) (.slice (some ⟨w.heap.size, 0, none⟩) 0 0) [] := by
  have h1 : (w.alloc (.cells #[] 32)).ownsRow w.heap.size 32 2 (.slice (some ⟨w.heap.size, 0, none⟩) 0 0) 0 [] := World.ownsRow_made w #[] 0 (Nat.le_refl _) (Nat.zero_le _) rfl
  refine ⟨ownsRow_base h1 h, fun j hj => ?_⟩
  have := (h1.lt j hj).2
  simpa using this

set_option maxRecDepth 20000 in
set_option maxHeartbeats 4000000 in
theorem specDirOf (s : ByteArray) (w : World) (hs : s.size ≤ 1048576) :
    Calls Tryd.prog 14 #[.string s] w fun e w' => ∃ v, e = .returned (.tuple #[v, .bool (dirOk s)]) ∧ OwnEn w' w.heap.size w'.heap.size v (dirL s) ∧ Below w.heap.size w w' := by
  obtain ⟨i0, hi, hz0, hz1, hz2⟩ := info_parts Tryd.infoEnt
  have ho0 : (w.alloc (.cells #[] 32)).ownsRow w.heap.size 32 2 (.slice (some ⟨w.heap.size, 0, none⟩) 0 0) 0 [] := World.ownsRow_made w #[] 0 (Nat.le_refl _) (Nat.zero_le _) rfl
  obtain ⟨cap, W, hcv, hrd, hbW, hlW, hc1, hc2⟩ := bytes_rowE s (w.alloc (.cells #[] 32)) hs
  have hbl := bytesOf_len s
  have hu := bytesOf_u8 s
  have HNO : Hid ((∀ es, ¬ ReadsE (bytesOf s) 0 es) → dirL s = [] ∧ dirOk s = false) := dir_no
  have HYE : Hid (∀ es, ReadsE (bytesOf s) 0 es → enOk es = true → dirL s = es ∧ dirOk s = true) := fun _ h1 h2 => dir_yes h1 h2
  have HBA : Hid (∀ es, ReadsE (bytesOf s) 0 es → enOk es = false → dirL s = [] ∧ dirOk s = false) := fun _ h1 h2 => dir_bad h1 h2
  have hl : (bytesOf s).length ≤ 1048576 := by omega
  have HAC0 : Hid (Acc (bytesOf s) [] 0) := Acc.start _
  clear hbl
  generalize bytesOf s = b at *
  have hbw : Below w.heap.size w W := (below1 w _).trans (hbW.mono (by simp))
  have HO0 : Hid (W.ownsRow w.heap.size 32 2 (.slice (some ⟨w.heap.size, 0, none⟩) 0 0) ([] : List EntD).length (([] : List EntD).flatMap encN)) := ownsRow_below ho0 hbW (Nat.le_refl _)
  generalize hg : (w.alloc (.cells #[] 32)).heap.size = g at *
  have hgW : g < W.heap.size := hlW
  have HRD : Hid (∀ W', Only (fun k => k ≠ g) W W' → Rd .u8 W' (some ⟨g, 0, none⟩) b) := fun W' h => by
    rcases hrd with h0 | ⟨x, off, he, h1, hc⟩
    · exact .inl h0
    · injection he with he
      injection he with e1 e2 _
      subst e1 e2
      exact .inr ⟨_, _, rfl, Nat.lt_of_lt_of_le h1 h.size, fun i hi => (h.cell (by exact h1) (fun hh => hh rfl)).trans (hc i hi)⟩
  have hgw : w.heap.size ≠ g := by rw [← hg]; simp
  have HGT : Hid (∀ W' (p : Nat), Only (fun k => k ≠ g) W W' → p ≤ 1048581 → Calls Tryd.prog 36 #[.slice (some ⟨g, 0, none⟩) b.length cap, .int .i64 (p : Int)] W' fun e w' => ((∃ s fin, GoodT b (p : Int) s fin ∧ e = .returned (.tuple #[.string s, .int .i64 (fin : Nat), .bool true])) ∨ ((∀ s fin, ¬ GoodT b (p : Int) s fin) ∧ e = .returned (.tuple #[.string ⟨#[]⟩, .int .i64 0, .bool false]))) ∧ w' = W') :=
    fun W' p h hp => specGetText _ cap b (p : Int) W' (by omega) hu hc1 (HRD.out W' h) (by omega)
  have HGN : Hid (∀ W' (p : Nat), Only (fun k => k ≠ g) W W' → p ≤ 1048581 → Calls Tryd.prog 37 #[.slice (some ⟨g, 0, none⟩) b.length cap, .int .i64 (p : Int)] W' fun e w' => ((∃ n next, Good b (p : Int) n next ∧ e = .returned (.tuple #[.int .i64 (n : Nat), .int .i64 (next : Nat), .bool true])) ∨ ((∀ n next, ¬ Good b (p : Int) n next) ∧ e = .returned (.tuple #[.int .i64 0, .int .i64 0, .bool false]))) ∧ w' = W') :=
    fun W' p h hp => specGetNum _ cap b (p : Int) W' (by omega) hu (HRD.out W' h) (by omega)
  have HEO : Hid (∀ W' v es, W'.ownsRow w.heap.size 32 2 v (List.length es) (es.flatMap encN) → SmE es → Calls Tryd.prog 26 #[v] W' fun e w' => e = .returned (.bool (enOk es)) ∧ Below W'.heap.size W' w') := fun W' v es h1 h2 => by
    obtain ⟨a2, c2, rfl, _, hr2⟩ := own_rdF encN_len h1 rfl
    exact specEntriesOk a2 c2 es W' h2 hr2
  have HBW : Hid (Below w.heap.size w W) := hbw
  have HLV0 : Hid (∀ k, (Value.slice (some ⟨w.heap.size, 0, none⟩) 0 0).ownBlock = some k → k ≠ g) := fun k hk => by simp [Value.ownBlock] at hk; omega
  clear hrd hbW hlW hc1 hc2 ho0 hu hbw hg
  go_enter Tryd.func14, Tryd.ntmps14
  go_wp2
  clear hcv
  go_loopw [4, 6] (fun v i wr => ∃ (p : Nat) (v' : Value) (acc : List EntD), v' = v ∧ i = .int .i64 p ∧ Hid (Acc b acc p) ∧ Hid (wr.ownsRow w.heap.size 32 2 v' acc.length (acc.flatMap encN)) ∧ Hid (Only (fun k => k ≠ g) W wr) ∧ Below w.heap.size w wr ∧ Hid (∀ k, v'.ownBlock = some k → k ≠ g) ∧ p ≤ b.length) (fun _ i _ => b.length - (intOf i).toNat)
  case atStart => exact ⟨0, _, [], rfl, rfl, HAC0, HO0, Only.refl _ _, HBW.out, HLV0.out, Nat.zero_le _⟩
  case round =>
    clear HAC0 HO0 HLV0
    obtain ⟨p, v', acc, rfl, rfl, HA, HO, HON, hB, HLV, hpb⟩ := hrel
    by_cases hlt : p < b.length
    · go_wp2_with fail
      refine (HGT.out _ p HON.out (by omega)).mono ?_
      rintro e w1 ⟨⟨t, q, hT, rfl⟩ | ⟨hno, rfl⟩, hw1⟩
      rotate_left
      · subst hw1
        obtain ⟨hD, hK⟩ := HNO.out (HA.out.noText hlt hno)
        have HD : Hid (dirL s = []) := hD
        have HK : Hid (dirOk s = false) := hK
        have hB2 := hB
        clear hno hD hK
        go_wp2
        go_returns
        refine ⟨_, by rw [HK.out]; rfl, ?_, hB2.alloc hB2.size _⟩
        rw [HD.out]
        have := ownEmpty w1 w.heap.size hB2.size
        simpa using this
      · subst hw1
        have hTn := goodT_next hT
        have HT : Hid (GoodT b p t q) := hT
        clear hT
        go_wp2_with fail
        refine (HGN.out _ q HON.out (by omega)).mono ?_
        rintro e w2 ⟨⟨n, r, hN, rfl⟩ | ⟨hno, rfl⟩, hw2⟩
        rotate_left
        · subst hw2
          obtain ⟨hD, hK⟩ := HNO.out (HA.out.noNum hlt HT.out hno)
          have HD : Hid (dirL s = []) := hD
          have HK : Hid (dirOk s = false) := hK
          have hB2 := hB
          clear hno hD hK
          go_wp2
          go_returns
          refine ⟨_, by rw [HK.out]; rfl, ?_, hB2.alloc hB2.size _⟩
          rw [HD.out]
          have := ownEmpty w2 w.heap.size hB2.size
          simpa using this
        · subst hw2
          have hNn := good_nextE hN
          have HA2 : Hid (Acc b (acc ++ [(t, (n : Int))]) r) := HA.out.step hlt HT.out hN
          have hal := HA.out.siz
          have hal2 := szEn_len acc
          have HO1 : Hid ((w2.alloc (.cells #[.string t, .int .i64 (n : Int)] 32)).ownsRow w.heap.size 32 2 v' acc.length (acc.flatMap encN)) := ownsRow_below HO.out (below1 _ _) (Nat.le_refl _)
          have HS1 : Hid (Src Tryd.prog 2 24 (.slice (some ⟨w2.heap.size, 0, none⟩) 1 1) 1 [.string t, .int .i64 (n : Int)] (w2.alloc (.cells #[.string t, .int .i64 (n : Int)] 32))) := srcEnOne w2 t n
          have hB1 : Below w.heap.size w (w2.alloc (.cells #[.string t, .int .i64 (n : Int)] 32)) := hB.alloc hB.size _
          have HON1 : Hid (Only (fun k => k ≠ g) W (w2.alloc (.cells #[.string t, .int .i64 (n : Int)] 32))) := HON.out.trans (Only.of_new (below1 w2 _))
          have hnl : (acc ++ [(t, (n : Int))]).length = acc.length + 1 := by simp
          have hfl : (acc ++ [(t, (n : Int))]).flatMap encN = acc.flatMap encN ++ [.string t, .int .i64 (n : Int)] := by rw [List.flatMap_append]; simp [encN]
          have hgz : g ≠ (w2.alloc (.cells #[.string t, .int .i64 (n : Int)] 32)).heap.size := by have := HON1.out.size; omega
          obtain ⟨av, cv, rfl⟩ : ∃ av cv, v' = .slice av acc.length cv := by
            rcases HO.out.2 with ⟨rfl, h0⟩ | ⟨g, cap, cur, rfl, _⟩
            · exact ⟨none, 0, by rw [h0]⟩
            · exact ⟨_, _, rfl⟩
          have HM : Hid ((acc ++ [(t, (n : Int))]).length = acc.length + 1 ∧ (acc ++ [(t, (n : Int))]).flatMap encN = acc.flatMap encN ++ [.string t, .int .i64 (n : Int)]) := ⟨hnl, hfl⟩
          generalize acc ++ [(t, (n : Int))] = acc2 at *
          generalize acc.length = al at *
          generalize acc.flatMap encN = X at *
          clear hN HT HO hB HA HON hnl hfl
          go_wp2_with (at_builtin; refine wpList_append_own_srcAt _ rfl (.tmp 40) (.tmp 44) 24 24 rfl w.heap.size 32 i0 _ 2 24 Tryd.underlying24 hi hz0 hz1 hz2 rfl _ _ _ rfl HO1.out _ 1 [.string t, .int .i64 (n : Int)] rfl HS1.out (by unfold maxLen; omega) (by omega) hB1.size ?_)
          intro v5 w5 ho5 hg5 hbl5
          have hB5 : Below w.heap.size w w5 := hB1.grown hg5 hB1.size (fun q hq => (HO1.out.lt q hq).1)
          have HON5 : Hid (Only (fun k => k ≠ g) W w5) := HON1.out.trans ((Only.of_grown hg5).mono fun k _ hk => HLV.out k hk)
          have HLV5 : Hid (∀ k, v5.ownBlock = some k → k ≠ g) := fun k hk => by
            rcases hbl5 with h | h
            · exact HLV.out k (by rw [← h]; exact hk)
            · rw [hk] at h
              injection h with h
              rw [h]
              exact fun hh => hgz (by simpa using hh.symm)
          have HO5 : Hid (w5.ownsRow w.heap.size 32 2 v5 acc2.length (acc2.flatMap encN)) := by
            show World.ownsRow _ _ _ _ _ _ _
            rw [HM.out.1, HM.out.2]
            exact ho5
          clear ho5 hg5 hbl5 HO1 HS1 hB1 HON1 HLV hgz
          go_wp2
          go_roundw
          case rel => exact ⟨r, _, acc2, rfl, by go_num, HA2, HO5, HON5, hB5, HLV5, by omega⟩
          case measure => simp [intOf]; omega
    · have hRE := HA.out.done hlt
      have hSM := HA.out.sm hl
      have hY := HYE.out acc hRE
      have hN := HBA.out acc hRE
      have HEOc := HEO.out wr v' acc HO.out hSM
      cases hq : enOk acc with
      | true =>
        obtain ⟨hD, hK⟩ := hY hq
        have HD : Hid (dirL s = acc) := hD
        have HK : Hid (dirOk s = true) := hK
        rw [hq] at HEOc
        have HE2 : Hid (Calls Tryd.prog 26 #[v'] wr fun e w' => e = .returned (.bool true) ∧ Below wr.heap.size wr w') := HEOc
        clear hD hK hY hN hRE hSM HEOc hq HNO HYE HBA HGT HGN HRD HEO HA
        go_wp2_with fail
        refine HE2.out.mono ?_
        rintro e w1 ⟨rfl, hb1⟩
        have hB2 := hB.trans (hb1.mono hB.size)
        have ho2 := ownsRow_below HO.out hb1 (Nat.le_refl _)
        go_wp2
        go_returns
        exact ⟨_, by rw [HK.out]; rfl, by rw [HD.out]; exact OwnEn.of ho2, hB2⟩
      | false =>
        obtain ⟨hD, hK⟩ := hN hq
        have HD : Hid (dirL s = []) := hD
        have HK : Hid (dirOk s = false) := hK
        rw [hq] at HEOc
        have HE2 : Hid (Calls Tryd.prog 26 #[v'] wr fun e w' => e = .returned (.bool false) ∧ Below wr.heap.size wr w') := HEOc
        clear hD hK hY hN hRE hSM HEOc hq HNO HYE HBA HGT HGN HRD HEO HA
        go_wp2_with fail
        refine HE2.out.mono ?_
        rintro e w1 ⟨rfl, hb1⟩
        have hB2 := hB.trans (hb1.mono hB.size)
        go_wp2
        go_returns
        refine ⟨_, by rw [HK.out]; rfl, ?_, hB2.alloc hB2.size _⟩
        rw [HD.out]
        have := ownEmpty w1 w.heap.size hB2.size
        simpa using this
end Go.Proofs.YtogpgocldgdeaaaDoor
