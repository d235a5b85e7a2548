/-
  Own text: the program's Number, walked.
-/
import Derived.Test.YtgibihacbhjlnaaDoorNbrW
namespace Go.Proofs.YtgibihacbhjlnaaDoor
open Go.RowKit

/-- What Number's callers know of the package variables. -/
structure Vars (w : World) (a : Addr) : Prop where
  tab : Lib.TabIs Tryd.prog w "internal/strconv.uint64pow10" .u64 Lib.pow10Tab
  lt : errG < w.heap.size
  err : w.cell? ⟨errG, 0, none⟩ = some (.iface 91 (.pointer (some a)))
  syn : ∃ x, w.cell? ⟨2, 0, none⟩ = some (.iface 91 (.pointer (some x)))
  rng : ∃ x, w.cell? ⟨3, 0, none⟩ = some (.iface 91 (.pointer (some x)))
theorem Vars.stays {w w' : World} {a : Addr} (h : Vars w a) (hb : Below w.heap.size w w') : Vars w' a := by
  obtain ⟨x2, h2⟩ := h.syn
  obtain ⟨x3, h3⟩ := h.rng
  exact ⟨Joins.tab_stays gPow h.tab hb (Nat.le_refl _), by have := hb.size; have := h.lt; omega, (hb.cell (by exact h.lt)).trans h.err,
    ⟨x2, (hb.cell (by exact World.block_lt_of_cell? w _ h2)).trans h2⟩, ⟨x3, (hb.cell (by exact World.block_lt_of_cell? w _ h3)).trans h3⟩⟩

set_option maxRecDepth 20000 in
set_option maxHeartbeats 800000 in
theorem shown (s : ByteArray) (a : Addr) (w : World) (hs : s.size ≤ 1048576) (hv : Vars w a) :
    Calls Tryd.prog 36 #[.string s] w fun e w' => ((∃ n : Nat, IsNum s n ∧ e = .returned (.int .i64 n)) ∨ ((∀ n, ¬ IsNum s n) ∧ e = thePanic a)) ∧ Below w.heap.size w w' := by
  have HV : Hid (Vars w a) := hv
  clear hv
  by_cases hok : ∃ v, Lib.atoiAll s.data.toList = .ok v
  · obtain ⟨v, hv⟩ := hok
    have HO : Hid (Lib.atoiAll s.data.toList = .ok v) := hv
    have HU : Hid (∀ n : Nat, IsNum s n → (n : Int) = v) := by
      intro n h
      have := h.atoi
      rw [hv] at this
      injection this with this
      exact this.symm
    clear hv
    by_cases hneg : v < 0
    · have HN : Hid (∀ n, ¬ IsNum s n) := fun n h => by have := HU.out n h; omega
      go_enter Tryd.func36, Tryd.ntmps36
      go_wp2_with fail
      refine (atoiOk s _ hs v HO.out).mono ?_
      rintro e w1 ⟨rfl, hb1⟩
      have hge := (HV.out.stays hb1).err
      unfold errG at hge
      go_wp2
      exact ⟨rfl, .inr ⟨HN.out, rfl⟩, hb1⟩
    · by_cases hbig : 999999 < v
      · have HN : Hid (∀ n, ¬ IsNum s n) := fun n h => by have := HU.out n h; have := h.2; omega
        go_enter Tryd.func36, Tryd.ntmps36
        go_wp2_with fail
        refine (atoiOk s _ hs v HO.out).mono ?_
        rintro e w1 ⟨rfl, hb1⟩
        have hge := (HV.out.stays hb1).err
        unfold errG at hge
        go_wp2
        exact ⟨rfl, .inr ⟨HN.out, rfl⟩, hb1⟩
      · obtain ⟨N, rfl⟩ : ∃ N : Nat, v = (N : Int) := ⟨v.toNat, by omega⟩
        have HT : Hid (s.toList = s.data.toList) := toList_data s
        have hN : N ≤ 999999 := by omega
        by_cases heq : s.data.toList = Lib.itoa (N : Int)
        · have HY : Hid (IsNum s N) := ⟨heq, by omega⟩
          have hb : (Lib.itoa (N : Int) == s.toList) = true := by rw [HT.out, heq]; simp
          clear heq HU HT
          go_enter Tryd.func36, Tryd.ntmps36
          go_wp2_with fail
          refine (atoiOk s _ hs _ HO.out).mono ?_
          rintro e w1 ⟨rfl, hb1⟩
          have HV1 : Hid (Vars w1 a) := HV.out.stays hb1
          go_wp2_with fail
          refine (implDigits (N : Int) _ (by omega) (by omega) HV1.out.tab).mono ?_
          rintro e w2 ⟨rfl, hb2⟩
          generalize Lib.itoa (N : Int) = t at *
          go_wp2
          go_ret
          exact ⟨.inl ⟨N, HY.out, rfl⟩, hb1.trans (hb2.mono hb1.size)⟩
        · have HN : Hid (∀ n, ¬ IsNum s n) := by
            intro n h
            have := HU.out n h
            obtain rfl : n = N := by omega
            exact heq h.1
          have hb : (Lib.itoa (N : Int) == s.toList) = false := by rw [HT.out]; simpa using fun h => heq h.symm
          clear heq HU HT
          go_enter Tryd.func36, Tryd.ntmps36
          go_wp2_with fail
          refine (atoiOk s _ hs _ HO.out).mono ?_
          rintro e w1 ⟨rfl, hb1⟩
          have HV1 : Hid (Vars w1 a) := HV.out.stays hb1
          go_wp2_with fail
          refine (implDigits (N : Int) _ (by omega) (by omega) HV1.out.tab).mono ?_
          rintro e w2 ⟨rfl, hb2⟩
          have hge := (HV1.out.stays hb2).err
          unfold errG at hge
          generalize Lib.itoa (N : Int) = t at *
          go_wp2
          exact ⟨rfl, .inr ⟨HN.out, rfl⟩, hb1.trans (hb2.mono hb1.size)⟩
  · have HN : Hid (∀ n, ¬ IsNum s n) := fun n h => hok ⟨_, h.atoi⟩
    have HB : Hid (∀ v, Lib.atoiAll s.data.toList ≠ .ok v) := fun v h => hok ⟨v, h⟩
    clear hok
    obtain ⟨x2, h2⟩ := HV.out.syn
    obtain ⟨x3, h3⟩ := HV.out.rng
    have H2 : Hid _ := h2
    have H3 : Hid _ := h3
    clear h2 h3
    go_enter Tryd.func36, Tryd.ntmps36
    go_wp2_with fail
    refine (atoiBad s _ hs HB.out x2 x3 H2.out H3.out).mono ?_
    rintro e w1 ⟨v, N, rfl, hb1⟩
    have hge := (HV.out.stays hb1).err
    unfold errG at hge
    go_wp2
    exact ⟨rfl, .inr ⟨HN.out, rfl⟩, hb1⟩

set_option maxRecDepth 20000 in
set_option maxHeartbeats 400000 in
theorem implNumber (s : ByteArray) (a : Addr) (w : World) (hs : s.size ≤ 1048576) (hv : Vars w a) :
    Calls Tryd.prog 21 #[.string s] w fun e w' => ((∃ n : Nat, IsNum s n ∧ e = .returned (.tuple #[.int .i64 n, .bool true])) ∨ ((∀ n, ¬ IsNum s n) ∧ e = .returned (.tuple #[.int .i64 0, .bool false]))) ∧ Below w.heap.size w w' := by
  have HV : Hid (Vars w a) := hv
  clear hv
  go_enter_defers Tryd.func21, Tryd.ntmps21
  go_wp2_with fail
  refine (shown s a _ hs HV.out).mono ?_
  rintro e w1 ⟨⟨n, hgd, rfl⟩ | ⟨hno, rfl⟩, hb1⟩
  · have HGD : Hid (IsNum s n) := hgd
    clear hgd
    go_wp2
    refine leaves_cons (f := 35) (args := #[]) (by simp) (by simp [go_sem]) ?_
    refine (idleNumber _).mono ?_
    rintro e u' w'' ⟨rfl, rfl, rfl⟩
    simp [Leaves, settle, results, Tryd.results21, go_sem]
    exact ⟨⟨n, HGD.out, rfl⟩, hb1⟩
  · have HNO : Hid (∀ n, ¬ IsNum s n) := hno
    clear hno
    unfold thePanic
    go_wp2
    refine leaves_cons (f := 35) (args := #[]) (by simp) (by simp [go_sem]) ?_
    refine (catchNumber _ _ [] _).mono ?_
    rintro e u' w'' ⟨rfl, rfl, rfl⟩
    simp [Leaves, settle, results, Tryd.results21, go_sem]
    exact ⟨HNO.out, hb1⟩
end Go.Proofs.YtgibihacbhjlnaaDoor
