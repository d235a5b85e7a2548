/-
  Own text: a row of events of the call's own can be read; how great events are.
-/
import Derived.Test.YtlidmnehpcodkaaDoorSEvDoW
import Derived.Test.YtlidmnehpcodkaaDoorMarkE
import Derived.Test.YtlidmnehpcodkaaDoorOpenE
namespace Go.Proofs.YtlidmnehpcodkaaDoor
open Go.RowKit

theorem rdE {w : World} {base : Nat} {a : Option Addr} {cap : Nat} {l : List EvD} (h : w.ownsRow base 85 3 (.slice a l.length cap) l.length (l.flatMap encE)) : RdF encE 3 w a l := by
  obtain ⟨x, c, he, _, hr⟩ := own_rdF encE_len h rfl
  cases he
  exact hr
theorem szE_len (l : List EvD) : l.length ≤ szE l := by
  induction l with
  | nil => simp
  | cons x l ih =>
    have e : szE (x :: l) = 1 + x.2.2.size + szE l := by simp [szE]
    simp only [List.length_cons]
    omega
def SmE (l : List EvD) : Prop := ∀ p ∈ l, p.2.2.size ≤ 281474976710656
theorem smE_sz {l : List EvD} (h : szE l ≤ 1048576) : SmE l := by
  intro p hp
  induction l with
  | nil => cases hp
  | cons x l ih =>
    have e : szE (x :: l) = 1 + x.2.2.size + szE l := by simp [szE]
    rcases List.mem_cons.1 hp with rfl | hp
    · omega
    · exact ih (by omega) hp
theorem len_evDo {d : DiskD} {l : List EvD} (h : d.1.length ≤ 4194303 ∧ d.2.length ≤ 4194303) : (evDo d l).1.length ≤ 4194304 ∧ (evDo d l).2.length ≤ 4194304 := by
  have := evDo_len d l
  omega
end Go.Proofs.YtlidmnehpcodkaaDoor
