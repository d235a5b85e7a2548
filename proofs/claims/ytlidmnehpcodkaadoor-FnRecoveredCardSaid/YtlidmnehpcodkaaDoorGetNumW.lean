/-
  Own text: the program's GetNum answers as 'Good' says.
-/
import Derived.Test.YtlidmnehpcodkaaDoorNumAtW
import Derived.Test.YtlidmnehpcodkaaDoorRecW
namespace Go.Proofs.YtlidmnehpcodkaaDoor
open Go.RowKit

/-- What is known of a slice of bytes that GetNum is handed. -/
structure Came (w : World) (x : Option Addr) (cap : Nat) (l : List Int) : Prop where
  hsmall : l.length ≤ 1048581
  hu8 : U8 l
  hcap : l.length ≤ cap
  hmax : cap ≤ maxLen
  hrd : Rd .u8 w x l

set_option maxRecDepth 20000 in
set_option maxHeartbeats 400000 in
theorem implGetNum (x : Option Addr) (cap : Nat) (l : List Int) (at' : Int) (a : Addr) (w : World) (hx : Came w x cap l) (hgl : errG < w.heap.size) (hg : w.cell? ⟨errG, 0, none⟩ = some (.iface 138 (.pointer (some a)))) :
    Calls Tryd.prog 108 #[.slice x l.length cap, .int .i64 at'] w fun e w' => ((∃ n next, Good l at' n next ∧ e = .returned (.tuple #[.int .i64 (n : Nat), .int .i64 (next : Nat), .bool true])) ∨ ((∀ n next, ¬ Good l at' n next) ∧ e = .returned (.tuple #[.int .i64 0, .int .i64 0, .bool false]))) ∧ Below w.heap.size w w' := by
  have HG : Hid (w.cell? ⟨errG, 0, none⟩ = some (.iface 138 (.pointer (some a)))) := hg
  clear hg
  by_cases hout : at' < 0 ∨ (l.length : Int) ≤ at'
  · have HN : Hid (∀ n next, ¬ Good l at' n next) := by
      rintro n next ⟨p, k, rfl, ⟨_, h2, _, _⟩, _⟩
      omega
    go_enter_defers Tryd.func108, Tryd.ntmps108
    go_wp2_with fail
    refine (atOut x cap l.length at' a _ hout HG.out).mono ?_
    rintro e w1 ⟨rfl, rfl⟩
    unfold thePanic
    go_wp2
    refine leaves_cons (f := 121) (args := #[]) (by simp) (by simp [go_sem]) ?_
    refine (catchNum _ _ [] _).mono ?_
    rintro e u' w'' ⟨rfl, rfl, rfl⟩
    simp [Leaves, settle, results, Tryd.results108, go_sem]
    exact ⟨HN.out, Below.refl _ _⟩
  · obtain ⟨p, rfl⟩ : ∃ p : Nat, at' = (p : Int) := ⟨at'.toNat, by omega⟩
    have hp : p < l.length := by omega
    obtain ⟨b, off, rfl, hb, hc⟩ : ∃ b off, x = some ⟨b, off, none⟩ ∧ b < w.heap.size ∧ ∀ i, i < l.length → w.cell? ⟨b, off + i, none⟩ = some (.int .u8 (l.getD i 0)) := by
      rcases hx.hrd with h | h
      · subst h; simp at hp
      · exact h
    have HC : Hid (∀ i, i < l.length → w.cell? ⟨b, off + i, none⟩ = some (.int .u8 (l.getD i 0))) := hc
    clear hc
    go_enter_defers Tryd.func108, Tryd.ntmps108
    go_wp2_with fail
    refine (atIn b off cap l p a _ hx.hsmall hx.hu8 hx.hcap hx.hmax hp hb HC.out hgl HG.out).mono ?_
    rintro e w1 ⟨⟨n, next, hgd, rfl⟩ | ⟨hno, rfl⟩, hb1⟩
    · have HGD : Hid (Good l p n next) := hgd
      clear hgd
      go_wp2
      refine leaves_cons (f := 121) (args := #[]) (by simp) (by simp [go_sem]) ?_
      refine (idleNum _).mono ?_
      rintro e u' w'' ⟨rfl, rfl, rfl⟩
      simp [Leaves, settle, results, Tryd.results108, go_sem]
      exact ⟨⟨n, next, HGD.out, rfl, rfl⟩, hb1⟩
    · have HNO : Hid (∀ n next, ¬ Good l p n next) := hno
      clear hno
      unfold thePanic
      go_wp2
      refine leaves_cons (f := 121) (args := #[]) (by simp) (by simp [go_sem]) ?_
      refine (catchNum _ _ [] _).mono ?_
      rintro e u' w'' ⟨rfl, rfl, rfl⟩
      simp [Leaves, settle, results, Tryd.results108, go_sem]
      exact ⟨HNO.out, hb1⟩
end Go.Proofs.YtlidmnehpcodkaaDoor
