/-
  Own text: the specification's GetText answers as 'GoodT' says.
-/
import Derived.Test.YtogpgocldgdeaaaDoorBunN
import Derived.Test.YtogpgocldgdeaaaDoorSpecGetW
namespace Go.Proofs.YtogpgocldgdeaaaDoor
open Go.RowKit

set_option maxRecDepth 20000 in
set_option maxHeartbeats 800000 in
theorem specGetText (x : Option Addr) (cap : Nat) (l : List Int) (at' : Int) (w : World) (hl : l.length ≤ 1048581) (hu : U8 l) (hcap : l.length ≤ cap) (hr : Rd .u8 w x l) (ha : at' ≤ 9223372036854775807) :
    Calls Tryd.prog 36 #[.slice x l.length cap, .int .i64 at'] w fun e w' => ((∃ s fin, GoodT l at' s fin ∧ e = .returned (.tuple #[.string s, .int .i64 (fin : Nat), .bool true])) ∨ ((∀ s fin, ¬ GoodT l at' s fin) ∧ e = .returned (.tuple #[.string ⟨#[]⟩, .int .i64 0, .bool false]))) ∧ w' = w := by
  have HR : Hid (Rd .u8 w x l) := hr
  have HU : Hid (U8 l) := hu
  clear hr hu
  go_enter Tryd.func36, Tryd.ntmps36
  go_wp2_with fail
  refine (specGetNum x cap l at' _ hl HU.out HR.out ha).mono ?_
  rintro e w1 ⟨⟨n, next, hgd, rfl⟩ | ⟨hno, rfl⟩, rfl⟩
  · have HGD : Hid (Good l at' n next) := hgd
    obtain ⟨hnx, hn⟩ := hgd.next_le
    have hpos : 0 < l.length := by
      obtain ⟨p, k, _, ⟨_, h1, _, _⟩, _⟩ := hgd
      omega
    clear hgd
    by_cases hlong : l.length < next + n
    · have HN : Hid (∀ s fin, ¬ GoodT l at' s fin) := longGoodT HGD.out hlong
      go_wp2
      go_ret3
      exact ⟨.inr ⟨HN.out, rfl⟩, rfl⟩
    · have HY : Hid (GoodT l at' (subT l next n) (next + n)) := ⟨n, next, HGD.out, by omega, rfl, rfl⟩
      obtain ⟨b, off, rfl, hb, hc⟩ : ∃ b off, x = some ⟨b, off, none⟩ ∧ b < w1.heap.size ∧ ∀ i, i < l.length → w1.cell? ⟨b, off + i, none⟩ = some (.int .u8 (l.getD i 0)) := by
        rcases HR.out with h | h
        · subst h; simp at hpos
        · exact h
      have hsl := slice_run b off l.length cap next n (by omega)
      have hcv := conv_sub (b := b) (off := off) (cap := cap) (lo := next) (n := n) (l := l) (W := w1) HU.out (by omega) hcap hc
      clear hc
      generalize subT l next n = s at *
      generalize subAddr b off next cap = A at *
      go_wp2
      go_ret3
      exact ⟨.inl ⟨s, next + n, HY.out, by go_num⟩, rfl⟩
  · have HN : Hid (∀ s fin, ¬ GoodT l at' s fin) := notGoodT hno
    clear hno
    go_wp2
    go_ret3
    exact ⟨.inr ⟨HN.out, rfl⟩, rfl⟩
end Go.Proofs.YtogpgocldgdeaaaDoor
