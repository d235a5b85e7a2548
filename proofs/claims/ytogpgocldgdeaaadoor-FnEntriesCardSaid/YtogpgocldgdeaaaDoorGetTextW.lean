/-
  Own text: the program's GetText answers as 'GoodT' says.
-/
import Derived.Test.YtogpgocldgdeaaaDoorBunN
import Derived.Test.YtogpgocldgdeaaaDoorGetNumW
namespace Go.Proofs.YtogpgocldgdeaaaDoor
open Go.RowKit

set_option maxRecDepth 20000 in
set_option maxHeartbeats 400000 in
theorem textOut (x : Option Addr) (cap len : Nat) (at' : Int) (a : Addr) (w : World) (h : at' < 0 ∨ (len : Int) ≤ at') (hg : w.cell? ⟨errG, 0, none⟩ = some (.iface 86 (.pointer (some a)))) :
    Calls Tryd.prog 52 #[.slice x len cap, .int .i64 at'] w fun e w' => e = thePanic a ∧ w' = w := by
  go_enter Tryd.func52, Tryd.ntmps52
  go_wp2_with fail
  refine (atOut x cap len at' a _ h hg).mono ?_
  rintro e w1 ⟨rfl, rfl⟩
  unfold thePanic
  go_wp2
  exact ⟨rfl, rfl, rfl⟩

set_option maxRecDepth 20000 in
set_option maxHeartbeats 800000 in
theorem textIn (b off cap : Nat) (l : List Int) (p : Nat) (a : Addr) (w : World) (hl : l.length ≤ 1048581) (hu : U8 l) (hcap : l.length ≤ cap) (hm : cap ≤ maxLen) (hp : p < l.length) (hb : b < w.heap.size)
    (hc : ∀ i, i < l.length → w.cell? ⟨b, off + i, none⟩ = some (.int .u8 (l.getD i 0))) (hgl : errG < w.heap.size) (hg : w.cell? ⟨errG, 0, none⟩ = some (.iface 86 (.pointer (some a)))) :
    Calls Tryd.prog 52 #[.slice (some ⟨b, off, none⟩) l.length cap, .int .i64 p] w fun e w' => ((∃ s fin, GoodT l p s fin ∧ e = .returned (.tuple #[.string s, .int .i64 (fin : Nat)])) ∨ ((∀ s fin, ¬ GoodT l p s fin) ∧ e = thePanic a)) ∧ Below w.heap.size w w' := by
  have HMX : Hid (cap ≤ maxLen) := hm
  unfold maxLen at hm
  have HC : Hid (∀ i, i < l.length → w.cell? ⟨b, off + i, none⟩ = some (.int .u8 (l.getD i 0))) := hc
  have HG : Hid (w.cell? ⟨errG, 0, none⟩ = some (.iface 86 (.pointer (some a)))) := hg
  have HU : Hid (U8 l) := hu
  clear hc hg hu
  go_enter Tryd.func52, Tryd.ntmps52
  go_wp2_with fail
  refine (atIn b off cap l p a _ hl HU.out hcap HMX.out hp hb HC.out hgl HG.out).mono ?_
  rintro e w1 ⟨⟨n, next, hgd, rfl⟩ | ⟨hno, rfl⟩, hb1⟩
  · have HGD : Hid (Good l p n next) := hgd
    obtain ⟨hnx, hn⟩ := hgd.next_le
    clear hgd
    by_cases hlong : l.length < next + n
    · have HN : Hid (∀ s fin, ¬ GoodT l p s fin) := longGoodT HGD.out hlong
      have hge2 : w1.cell? ⟨errG, 0, none⟩ = some (.iface 86 (.pointer (some a))) := (hb1.cell (by exact hgl)).trans HG.out
      unfold errG at hge2
      go_wp2
      exact ⟨rfl, .inr ⟨HN.out, rfl⟩, hb1⟩
    · have HY : Hid (GoodT l p (subT l next n) (next + n)) := ⟨n, next, HGD.out, by omega, rfl, rfl⟩
      have hsl := slice_run b off l.length cap next n (by omega)
      have hcv := conv_sub (b := b) (off := off) (cap := cap) (lo := next) (n := n) (l := l) (W := w1) HU.out (by omega) hcap (fun i hi => (hb1.cell (by exact hb)).trans (HC.out i hi))
      generalize subT l next n = s at *
      generalize subAddr b off next cap = A at *
      go_wp2
      go_ret2
      exact ⟨.inl ⟨s, next + n, HY.out, by go_num⟩, hb1⟩
  · have HN : Hid (∀ s fin, ¬ GoodT l p s fin) := notGoodT hno
    clear hno
    unfold thePanic
    go_wp2
    exact ⟨rfl, .inr ⟨HN.out, rfl⟩, hb1⟩

end Go.Proofs.YtogpgocldgdeaaaDoor
