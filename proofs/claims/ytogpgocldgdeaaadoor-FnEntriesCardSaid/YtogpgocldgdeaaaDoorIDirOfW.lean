/-
  Own text: a directory is read from its text, by the program.
-/
import Derived.Test.YtogpgocldgdeaaaDoorSDirOfW
import Derived.Test.YtogpgocldgdeaaaDoorGetTextW
import Derived.Test.YtogpgocldgdeaaaDoorErrAtW
import Derived.Test.YtogpgocldgdeaaaDoorBunQ
namespace Go.Proofs.YtogpgocldgdeaaaDoor
open Go.RowKit

theorem ownNilE (w : World) (lo hi : Nat) : OwnEn w lo hi (.slice none 0 0) [] := ⟨World.ownsRow_nil _ _ _ _, fun j hj => by cases hj⟩
theorem catchDir (u : TypeId) (pv : Value) (older : List PanicEntry) (w : World) :
    CallsD Tryd.prog 32 #[] (.panicking ({ v := .iface u pv, recovered := false } :: older)) w fun e u' w' =>
      e = .returned (.tuple #[]) ∧ u' = .panicking ({ v := .iface u pv, recovered := true } :: older) ∧ w' = w := by
  refine callsD_of_wpS Tryd.func32 rfl fun c₀ cs hu => ?_
  apply wpS_region
  simp [wpOpsS, go_sem, recoverD, hu, Tryd.ntmps32, bodyPostS, results, Tryd.results32]
theorem idleDir (w : World) :
    CallsD Tryd.prog 32 #[] .returning w fun e u' w' => e = .returned (.tuple #[]) ∧ u' = .returning ∧ w' = w := by
  refine callsD_of_wpS Tryd.func32 rfl fun c₀ cs hu => ?_
  apply wpS_region
  simp [wpOpsS, go_sem, recoverD, hu, Tryd.ntmps32]
  cases c₀
  simp_all [bodyPostS, results, Tryd.results32]

theorem numAnyE (x : Option Addr) (cap : Nat) (l : List Int) (p : Nat) (a : Addr) (w : World) (hx : Came w x cap l) (he : ErrAt a w) :
    Calls Tryd.prog 53 #[.slice x l.length cap, .int .i64 p] w fun e w' => ((∃ n next, Good l p n next ∧ e = .returned (.tuple #[.int .i64 (n : Nat), .int .i64 (next : Nat)])) ∨ ((∀ n next, ¬ Good l p n next) ∧ e = thePanic a)) ∧ Below w.heap.size w w' := by
  by_cases hp : p < l.length
  · obtain ⟨b, off, rfl, hb, hc⟩ : ∃ b off, x = some ⟨b, off, none⟩ ∧ b < w.heap.size ∧ ∀ i, i < l.length → w.cell? ⟨b, off + i, none⟩ = some (.int .u8 (l.getD i 0)) := by
      rcases hx.hrd with h | h
      · subst h; simp at hp
      · exact h
    exact atIn b off cap l p a w hx.hsmall hx.hu8 hx.hcap hx.hmax hp hb hc he.lt he.cell
  · refine (atOut x cap l.length (p : Int) a w (.inr (by omega)) he.cell).mono ?_
    rintro e w' ⟨rfl, rfl⟩
    refine ⟨.inr ⟨?_, rfl⟩, Below.refl _ _⟩
    rintro n next ⟨p', k, hp', ⟨_, h2, _, _⟩, _⟩
    omega
theorem textAnyE (x : Option Addr) (cap : Nat) (l : List Int) (p : Nat) (a : Addr) (w : World) (hx : Came w x cap l) (he : ErrAt a w) (hp : p < l.length) :
    Calls Tryd.prog 52 #[.slice x l.length cap, .int .i64 p] w fun e w' => ((∃ s fin, GoodT l p s fin ∧ e = .returned (.tuple #[.string s, .int .i64 (fin : Nat)])) ∨ ((∀ s fin, ¬ GoodT l p s fin) ∧ e = thePanic a)) ∧ Below w.heap.size w w' := by
  obtain ⟨b, off, rfl, hb, hc⟩ : ∃ b off, x = some ⟨b, off, none⟩ ∧ b < w.heap.size ∧ ∀ i, i < l.length → w.cell? ⟨b, off + i, none⟩ = some (.int .u8 (l.getD i 0)) := by
    rcases hx.hrd with h | h
    · subst h; simp at hp
    · exact h
  exact textIn b off cap l p a w hx.hsmall hx.hu8 hx.hcap hx.hmax hp hb hc he.lt he.cell

set_option maxRecDepth 20000 in
set_option maxHeartbeats 4000000 in
theorem implEntriesIn (x : Option Addr) (cap : Nat) (b : List Int) (a : Addr) (w : World) (hx : Came w x cap b) (he : ErrAt a w) (hl : b.length ≤ 1048576) :
    Calls Tryd.prog 33 #[.slice x b.length cap] w fun e w' => ((∃ v es, e = .returned v ∧ ReadsE b 0 es ∧ SmE es ∧ w'.ownsRow w.heap.size 32 2 v es.length (es.flatMap encN)) ∨ ((∀ es, ¬ ReadsE b 0 es) ∧ e = thePanic a)) ∧ Below w.heap.size w w' := by
  obtain ⟨i0, hi, hz0, hz1, hz2⟩ := info_parts Tryd.infoEnt
  have HAC0 : Hid (Acc b [] 0) := Acc.start _
  have HO0 : Hid (w.ownsRow w.heap.size 32 2 (.slice none 0 0) ([] : List EntD).length (([] : List EntD).flatMap encN)) := World.ownsRow_nil _ _ _ _
  have HGT : Hid (∀ W' (p : Nat), Below w.heap.size w W' → p < b.length → Calls Tryd.prog 52 #[.slice x b.length cap, .int .i64 (p : Int)] W' fun e w' => ((∃ s fin, GoodT b (p : Int) s fin ∧ e = .returned (.tuple #[.string s, .int .i64 (fin : Nat)])) ∨ ((∀ s fin, ¬ GoodT b (p : Int) s fin) ∧ e = thePanic a)) ∧ Below W'.heap.size W' w') :=
    fun W' p h hp => textAnyE x cap b p a W' ⟨hx.hsmall, hx.hu8, hx.hcap, hx.hmax, hx.hrd.below h (Nat.le_refl _)⟩ (he.below h) hp
  have HGN : Hid (∀ W' (p : Nat), Below w.heap.size w W' → Calls Tryd.prog 53 #[.slice x b.length cap, .int .i64 (p : Int)] W' fun e w' => ((∃ n next, Good b (p : Int) n next ∧ e = .returned (.tuple #[.int .i64 (n : Nat), .int .i64 (next : Nat)])) ∨ ((∀ n next, ¬ Good b (p : Int) n next) ∧ e = thePanic a)) ∧ Below W'.heap.size W' w') :=
    fun W' p h => numAnyE x cap b p a W' ⟨hx.hsmall, hx.hu8, hx.hcap, hx.hmax, hx.hrd.below h (Nat.le_refl _)⟩ (he.below h)
  clear hx he
  go_enter Tryd.func33, Tryd.ntmps33
  go_wp2
  go_loopw [3, 4] (fun v i wr => ∃ (p : Nat) (v' : Value) (acc : List EntD), v' = v ∧ i = .int .i64 p ∧ Hid (Acc b acc p) ∧ Hid (wr.ownsRow w.heap.size 32 2 v' acc.length (acc.flatMap encN)) ∧ Below w.heap.size w wr ∧ p ≤ b.length) (fun _ i _ => b.length - (intOf i).toNat)
  case atStart => exact ⟨0, _, [], rfl, rfl, HAC0, HO0, Below.refl _ _, Nat.zero_le _⟩
  case round =>
    clear HAC0 HO0
    obtain ⟨p, v', acc, rfl, rfl, HA, HO, hB, hpb⟩ := hrel
    by_cases hlt : p < b.length
    · have hBa : Below w.heap.size w (wr.alloc (.cells #[.string ⟨#[]⟩, .int .i64 0] 32)) := hB.alloc hB.size _
      have HVa : Hid (Var (wr.alloc (.cells #[.string ⟨#[]⟩, .int .i64 0] 32)) wr.heap.size #[.string ⟨#[]⟩, .int .i64 0] 32) := Var.made _ _ _
      go_wp2_with fail
      refine (HGT.out _ p hBa hlt).mono ?_
      rintro e w1 ⟨⟨t, q, hT, rfl⟩ | ⟨hno, rfl⟩, hb1⟩
      rotate_left
      · have HP : Hid (∀ es, ¬ ReadsE b 0 es) := HA.out.noText hlt hno
        have hB2 := hBa.trans (hb1.mono hBa.size)
        clear hno HA HO HVa
        unfold thePanic
        go_wp2
        exact ⟨rfl, .inr ⟨HP.out, rfl⟩, hB2⟩
      · have hTn := goodT_next hT
        have HT : Hid (GoodT b p t q) := hT
        have hB1 := hBa.trans (hb1.mono hBa.size)
        have HV1 : Hid (Var w1 wr.heap.size #[.string ⟨#[]⟩, .int .i64 0] 32) := HVa.out.new hb1
        have HO1 : Hid (w1.ownsRow w.heap.size 32 2 v' acc.length (acc.flatMap encN)) := ownsRow_below (ownsRow_below HO.out (below1 wr _) (Nat.le_refl _)) hb1 (Nat.le_refl _)
        have HAP : Hid (∀ j, v'.ownBlock = some j → j ≠ wr.heap.size) := fun j hj => by have := (HO.out.lt j hj).2; omega
        have hwr := hB.size
        have f0 := HV1.out.frozen 0
        have c0 := HV1.out.cell 0
        simp at c0
        have HV2 : Hid (Var (w1.setCell ⟨wr.heap.size, 0, none⟩ (.string t)) wr.heap.size #[.string t, .int .i64 0] 32) := by
          have := HV1.out.set 0 (.string t)
          show Var _ _ _ _
          simpa using this
        have hB2 : Below w.heap.size w (w1.setCell ⟨wr.heap.size, 0, none⟩ (.string t)) := hB1.setCell (by exact hwr) _
        have HO2 : Hid ((w1.setCell ⟨wr.heap.size, 0, none⟩ (.string t)).ownsRow w.heap.size 32 2 v' acc.length (acc.flatMap encN)) := own_only HO1.out (Only.setCell (S := fun j => j = wr.heap.size) (Only.refl _ _) (p := ⟨wr.heap.size, 0, none⟩) rfl _) (fun k hk hh => HAP.out k hk hh)
        clear hT HO HVa hBa hb1 hB1 HV1 HO1
        go_wp2_with fail
        clear f0 c0
        generalize w1.setCell ⟨wr.heap.size, 0, none⟩ (.string t) = w2 at *
        refine (HGN.out _ q hB2).mono ?_
        rintro e w3 ⟨⟨n, r, hN, rfl⟩ | ⟨hno, rfl⟩, hb3⟩
        rotate_left
        · have HP : Hid (∀ es, ¬ ReadsE b 0 es) := HA.out.noNum hlt HT.out hno
          have hB3 := hB2.trans (hb3.mono hB2.size)
          clear hno HA HO2 HV2 HT
          unfold thePanic
          go_wp2
          exact ⟨rfl, .inr ⟨HP.out, rfl⟩, hB3⟩
        · have hNn := good_nextE hN
          have HA2 : Hid (Acc b (acc ++ [(t, (n : Int))]) r) := HA.out.step hlt HT.out hN
          have hal := HA.out.siz
          have hal2 := szEn_len acc
          have hB3 := hB2.trans (hb3.mono hB2.size)
          have HV3 : Hid (Var w3 wr.heap.size #[.string t, .int .i64 0] 32) := HV2.out.new hb3
          have HO3 : Hid (w3.ownsRow w.heap.size 32 2 v' acc.length (acc.flatMap encN)) := ownsRow_below HO2.out hb3 (Nat.le_refl _)
          have f1 := HV3.out.frozen 1
          have c1 := HV3.out.cell 1
          simp at c1
          have HV4 : Hid (Var (w3.setCell ⟨wr.heap.size, 1, none⟩ (.int .i64 (n : Int))) wr.heap.size #[.string t, .int .i64 (n : Int)] 32) := by
            have := HV3.out.set 1 (.int .i64 (n : Int))
            show Var _ _ _ _
            simpa using this
          have hB4 : Below w.heap.size w (w3.setCell ⟨wr.heap.size, 1, none⟩ (.int .i64 (n : Int))) := hB3.setCell (by exact hwr) _
          have HO4 : Hid ((w3.setCell ⟨wr.heap.size, 1, none⟩ (.int .i64 (n : Int))).ownsRow w.heap.size 32 2 v' acc.length (acc.flatMap encN)) := own_only HO3.out (Only.setCell (S := fun j => j = wr.heap.size) (Only.refl _ _) (p := ⟨wr.heap.size, 1, none⟩) rfl _) (fun k hk hh => HAP.out k hk hh)
          have hnl : (acc ++ [(t, (n : Int))]).length = acc.length + 1 := by simp
          have hfl : (acc ++ [(t, (n : Int))]).flatMap encN = acc.flatMap encN ++ [.string t, .int .i64 (n : Int)] := by rw [List.flatMap_append]; simp [encN]
          have HM : Hid ((acc ++ [(t, (n : Int))]).length = acc.length + 1 ∧ (acc ++ [(t, (n : Int))]).flatMap encN = acc.flatMap encN ++ [.string t, .int .i64 (n : Int)]) := ⟨hnl, hfl⟩
          obtain ⟨av, cv, rfl⟩ : ∃ av cv, v' = .slice av acc.length cv := by
            rcases HO3.out.2 with ⟨rfl, h0⟩ | ⟨g, cap, cur, rfl, _⟩
            · exact ⟨none, 0, by rw [h0]⟩
            · exact ⟨_, _, rfl⟩
          generalize acc ++ [(t, (n : Int))] = acc2 at *
          generalize acc.length = al at *
          generalize acc.flatMap encN = X at *
          clear hN HT HO2 HO3 hB2 hB3 hb3 HV2 HV3 HA hnl hfl hB HAP
          go_upto_region 7 with fail
          clear f1 c1
          generalize w3.setCell ⟨wr.heap.size, 1, none⟩ (.int .i64 (n : Int)) = w4 at *
          have d0 := HV4.out.cell 0
          have d1 := HV4.out.cell 1
          simp at d0 d1
          have HO5 : Hid ((w4.alloc (.cells #[.string t, .int .i64 (n : Int)] 32)).ownsRow w.heap.size 32 2 (.slice av al cv) al X) := ownsRow_below HO4.out (below1 _ _) (Nat.le_refl _)
          have HS5 : Hid (Src Tryd.prog 2 24 (.slice (some ⟨w4.heap.size, 0, none⟩) 1 1) 1 [.string t, .int .i64 (n : Int)] (w4.alloc (.cells #[.string t, .int .i64 (n : Int)] 32))) := srcEnOne w4 t n
          have hB5 : Below w.heap.size w (w4.alloc (.cells #[.string t, .int .i64 (n : Int)] 32)) := hB4.alloc hB4.size _
          clear HO4 HV4 hB4
          go_wp2_with (at_builtin; refine wpList_append_own_src _ rfl (.tmp 24) (.tmp 26) 24 24 rfl w.heap.size 32 i0 _ 2 24 Tryd.underlying24 hi hz0 hz1 hz2 rfl _ _ _ rfl HO5.out _ 1 [.string t, .int .i64 (n : Int)] rfl HS5.out (by unfold maxLen; omega) (by omega) hB5.size ?_)
          intro v6 w6 ho6 hg6
          have hB6 : Below w.heap.size w w6 := hB5.grown hg6 hB5.size (fun q hq => (HO5.out.lt q hq).1)
          have HO6 : Hid (w6.ownsRow w.heap.size 32 2 v6 acc2.length (acc2.flatMap encN)) := by
            show World.ownsRow _ _ _ _ _ _ _
            rw [HM.out.1, HM.out.2]
            exact ho6
          clear ho6 hg6 HO5 HS5 hB5 d0 d1
          go_wp2
          go_roundw
          case rel => exact ⟨r, _, acc2, rfl, by go_num, HA2, HO6, hB6, by omega⟩
          case measure => simp [intOf]; omega
    · have HRE : Hid (ReadsE b 0 acc) := HA.out.done hlt
      have HSM : Hid (SmE acc) := HA.out.sm hl
      clear HA
      go_wp2
      go_ret
      exact ⟨.inl ⟨_, acc, rfl, HRE.out, HSM.out, HO.out⟩, hB⟩

set_option maxRecDepth 20000 in
set_option maxHeartbeats 4000000 in
theorem implDirOf (s : ByteArray) (a : Addr) (w : World) (hs : s.size ≤ 1048576) (he : ErrAt a w) :
    Calls Tryd.prog 12 #[.string s] w fun e w' => ∃ v, e = .returned (.tuple #[v, .bool (dirOk s)]) ∧ OwnEn w' w.heap.size w'.heap.size v (dirL s) ∧ Below w.heap.size w w' := by
  obtain ⟨cap, W, hcv, hrd, hbW, hlW, hc1, hc2⟩ := bytes_rowE s w hs
  have hbl := bytesOf_len s
  have HNO : Hid ((∀ es, ¬ ReadsE (bytesOf s) 0 es) → dirL s = [] ∧ dirOk s = false) := dir_no
  have HYE : Hid (∀ es, ReadsE (bytesOf s) 0 es → enOk es = true → dirL s = es ∧ dirOk s = true) := fun _ h1 h2 => dir_yes h1 h2
  have HBA : Hid (∀ es, ReadsE (bytesOf s) 0 es → enOk es = false → dirL s = [] ∧ dirOk s = false) := fun _ h1 h2 => dir_bad h1 h2
  have HEI : Hid (Calls Tryd.prog 33 #[.slice (some ⟨w.heap.size, 0, none⟩) (bytesOf s).length cap] W fun e w' => ((∃ v es, e = .returned v ∧ ReadsE (bytesOf s) 0 es ∧ SmE es ∧ w'.ownsRow W.heap.size 32 2 v es.length (es.flatMap encN)) ∨ ((∀ es, ¬ ReadsE (bytesOf s) 0 es) ∧ e = thePanic a)) ∧ Below W.heap.size W w') := implEntriesIn _ cap _ a W ⟨by omega, bytesOf_u8 s, hc1, hc2, hrd⟩ (he.below hbW) (by omega)
  clear hbl hc1 hc2 hrd he
  generalize bytesOf s = b at *
  go_enter_defers Tryd.func12, Tryd.ntmps12
  go_wp2_with fail
  refine HEI.out.mono ?_
  clear HEI hcv
  rintro e w1 ⟨⟨v, es, rfl, hre, hsm, ho⟩ | ⟨hno, rfl⟩, hb1⟩
  rotate_left
  · have HE : Hid (dirL s = [] ∧ dirOk s = false) := HNO.out hno
    have hB : Below w.heap.size w w1 := hbW.trans (hb1.mono hbW.size)
    clear hno HNO HYE HBA hb1
    unfold thePanic
    go_wp2
    refine leaves_cons (f := 32) (args := #[]) (by simp) (by simp [go_sem]) ?_
    refine (catchDir _ _ [] _).mono ?_
    rintro e u' w'' ⟨rfl, rfl, rfl⟩
    simp [Leaves, settle, results, Tryd.results12, go_sem]
    rw [HE.out.1, HE.out.2]
    exact ⟨_, ⟨rfl, rfl⟩, ownNilE _ _ _, hB⟩
  · have HO : Hid (w1.ownsRow w.heap.size 32 2 v es.length (es.flatMap encN)) := ownsRow_base ho hbW.size
    have hB : Below w.heap.size w w1 := hbW.trans (hb1.mono hbW.size)
    have HEO : Hid (Calls Tryd.prog 10 #[v] w1 fun e w' => e = .returned (.bool (enOk es)) ∧ Below w1.heap.size w1 w') := by
      obtain ⟨a2, c2, rfl, _, hr2⟩ := own_rdF encN_len ho rfl
      exact implEntriesOk a2 c2 es w1 hsm hr2
    have hY := HYE.out es hre
    have hN := HBA.out es hre
    clear ho hsm hre HNO HYE HBA hb1
    cases hq : enOk es with
    | true =>
      have HE : Hid (dirL s = es ∧ dirOk s = true) := hY hq
      rw [hq] at HEO
      clear hY hN hq
      go_wp2_with fail
      refine HEO.out.mono ?_
      rintro e w2 ⟨rfl, hb2⟩
      have ho2 := ownsRow_below HO.out hb2 (Nat.le_refl _)
      have hB2 := hB.trans (hb2.mono hB.size)
      clear HO hB hb2
      go_wp2
      refine leaves_cons (f := 32) (args := #[]) (by simp) (by simp [go_sem]) ?_
      refine (idleDir _).mono ?_
      rintro e u' w'' ⟨rfl, rfl, hw⟩
      subst w''
      simp [Leaves, settle, results, Tryd.results12, go_sem]
      rw [HE.out.1, HE.out.2]
      exact ⟨_, ⟨rfl, rfl⟩, OwnEn.of ho2, hB2⟩
    | false =>
      have HE : Hid (dirL s = [] ∧ dirOk s = false) := hN hq
      rw [hq] at HEO
      clear hY hN hq
      go_wp2_with fail
      refine HEO.out.mono ?_
      rintro e w2 ⟨rfl, hb2⟩
      have hB2 := hB.trans (hb2.mono hB.size)
      clear HO hB hb2
      go_wp2
      refine leaves_cons (f := 32) (args := #[]) (by simp) (by simp [go_sem]) ?_
      refine (idleDir _).mono ?_
      rintro e u' w'' ⟨rfl, rfl, hw⟩
      subst w''
      simp [Leaves, settle, results, Tryd.results12, go_sem]
      rw [HE.out.1, HE.out.2]
      exact ⟨_, ⟨rfl, rfl⟩, ownNilE _ _ _, hB2⟩
end Go.Proofs.YtogpgocldgdeaaaDoor
