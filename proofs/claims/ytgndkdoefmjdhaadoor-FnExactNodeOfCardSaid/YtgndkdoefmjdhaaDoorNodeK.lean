/-
  Own text: the laws' marks on nodes, and whether they are still there.
-/
import Derived.Test.YtgndkdoefmjdhaaDoorNodeL
namespace Go.Proofs.YtgndkdoefmjdhaaDoor
open Go.RowKit

theorem grown_trans {w w1 w2 : World} {row : Option Nat} (h : w.grownBy w1 row) (h' : w1.grownBy w2 row) : w.grownBy w2 row :=
  ⟨h'.os.trans h.os, h'.tape.trans h.tape, h'.output.trans h.output, Nat.le_trans h.size h'.size, fun k hk hne => (h'.block k (by have := h.size; omega) hne).trans (h.block k hk hne)⟩
theorem grown_alloc (w : World) (o : Obj) (row : Option Nat) : w.grownBy (w.alloc o) row := ⟨rfl, rfl, rfl, by simp, fun k hk _ => _root_.Go.heap_alloc_old w o hk⟩
/-- A node, its blocks marked from k on. -/
def mkN (k : Nat) (n : NodeD) : NodeD := ⟨n.k, n.g, n.t, n.s, marksI k n.b.length⟩
theorem mkN_len (k : Nat) (n : NodeD) : (mkN k n).b.length = n.b.length := marksI_len _ _

set_option maxRecDepth 20000 in
theorem markNodeW (a : Option Addr) (c k lo : Nat) (n : NodeD) (w : World) (hl : n.b.length ≤ 1048576) (hk : k ≤ 1048576) (ho : OwnN w lo (.agg #[.int .i64 n.k, .int .i64 n.g, .int .i64 n.t, .int .i64 n.s, .slice a n.b.length c]) n) :
    Calls Tryd.prog 15 #[.agg #[.int .i64 n.k, .int .i64 n.g, .int .i64 n.t, .int .i64 n.s, .slice a n.b.length c], .int .i64 k] w fun e w' => e = .returned (.int .i64 ((k + n.b.length : Nat) : Int)) ∧ OwnN w' lo (.agg #[.int .i64 n.k, .int .i64 n.g, .int .i64 n.t, .int .i64 n.s, .slice a n.b.length c]) (mkN k n) ∧ w.grownBy w' (Value.slice a n.b.length c).ownBlock := by
  obtain ⟨u, hu, ho⟩ := ho
  unfold aggN at hu
  obtain rfl : u = .slice a n.b.length c := by simp at hu; exact hu.symm
  have HM : Hid (Calls Tryd.prog 36 #[.slice a n.b.length c, .int .i64 k] (w.alloc (.cells #[.int .i64 n.k, .int .i64 n.g, .int .i64 n.t, .int .i64 n.s, .slice a n.b.length c] 26)) fun e w' => e = .returned (.int .i64 ((k + n.b.length : Nat) : Int)) ∧ w'.ownsRow lo 3 1 (.slice a n.b.length c) n.b.length ((marksI k n.b.length).map (Value.int .i64)) ∧ (w.alloc (.cells #[.int .i64 n.k, .int .i64 n.g, .int .i64 n.t, .int .i64 n.s, .slice a n.b.length c] 26)).grownBy w' (Value.slice a n.b.length c).ownBlock) :=
    markI _ _ k lo n.b _ (by omega) (by omega) (ownsRow_below ho (below1 _ _) (Nat.le_refl _))
  clear ho hu
  go_enter Tryd.func15, Tryd.ntmps15
  go_wp2_with fail
  refine HM.out.mono ?_
  rintro e w1 ⟨rfl, ho1, hg1⟩
  have HG : Hid (w.grownBy w1 (Value.slice a n.b.length c).ownBlock) := grown_trans (grown_alloc w _ _) hg1
  have HO : Hid (OwnN w1 lo (.agg #[.int .i64 n.k, .int .i64 n.g, .int .i64 n.t, .int .i64 n.s, .slice a n.b.length c]) (mkN k n)) := ⟨_, rfl, by rw [mkN_len]; exact ho1⟩
  clear ho1 hg1 HM
  go_wp2
  go_ret
  exact ⟨rfl, HO.out, HG.out⟩

set_option maxRecDepth 20000 in
theorem heldNodeW (a : Option Addr) (c k lo : Nat) (n : NodeD) (w : World) (hl : n.b.length ≤ 1048576) (hk : k ≤ 1048576) (ho : OwnN w lo (.agg #[.int .i64 n.k, .int .i64 n.g, .int .i64 n.t, .int .i64 n.s, .slice a n.b.length c]) (mkN k n)) :
    Calls Tryd.prog 16 #[.agg #[.int .i64 n.k, .int .i64 n.g, .int .i64 n.t, .int .i64 n.s, .slice a n.b.length c], .int .i64 k] w fun e w' => e = .returned (.int .i64 ((k + n.b.length : Nat) : Int)) ∧ Below w.heap.size w w' := by
  obtain ⟨u, hu, ho⟩ := ho
  unfold aggN at hu
  obtain rfl : u = .slice a n.b.length c := by simp [mkN] at hu; exact hu.symm
  rw [mkN_len] at ho
  have HM : Hid (Calls Tryd.prog 37 #[.slice a n.b.length c, .int .i64 k] (w.alloc (.cells #[.int .i64 n.k, .int .i64 n.g, .int .i64 n.t, .int .i64 n.s, .slice a n.b.length c] 26)) fun e w' => e = .returned (.int .i64 ((k + n.b.length : Nat) : Int)) ∧ w' = (w.alloc (.cells #[.int .i64 n.k, .int .i64 n.g, .int .i64 n.t, .int .i64 n.s, .slice a n.b.length c] 26))) :=
    heldI _ _ k lo _ (by omega) (by omega) (ownsRow_below ho (below1 _ _) (Nat.le_refl _))
  have hb := below1 w (.cells #[.int .i64 n.k, .int .i64 n.g, .int .i64 n.t, .int .i64 n.s, .slice a n.b.length c] 26)
  have hkk : ¬ ((k + n.b.length : Nat) : Int) < 0 := by omega
  clear ho hu
  go_enter Tryd.func16, Tryd.ntmps16
  go_wp2_with fail
  refine HM.out.mono ?_
  rintro e w1 ⟨rfl, hw1⟩
  subst w1
  clear HM
  go_wp2
  go_ret
  exact ⟨rfl, hb⟩
end Go.Proofs.YtgndkdoefmjdhaaDoor
