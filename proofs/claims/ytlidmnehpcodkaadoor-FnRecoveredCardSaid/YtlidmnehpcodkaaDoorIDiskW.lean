/-
  Own text: the program's disks, all their contracts together.
-/
import Derived.Test.YtlidmnehpcodkaaDoorINewW
import Derived.Test.YtlidmnehpcodkaaDoorIReadW
import Derived.Test.YtlidmnehpcodkaaDoorISameW
import Derived.Test.YtlidmnehpcodkaaDoorIFlushW
namespace Go.Proofs.YtlidmnehpcodkaaDoor

theorem wr_sm {d : DiskD} {at' : Int} {s : ByteArray} (h : wrOk d at' s = true) : SmD (wrD d at' s) ∧ SmD (dkFlush (wrD d at' s)) := by
  unfold wrOk at h
  unfold wrD
  cases hw : dkWrite d at' s with
  | none => rw [hw] at h; cases h
  | some e =>
    simp only [Option.getD_some]
    have r1 := read_written hw
    exact ⟨smD_ok r1.2, smD_ok (flush_ok r1.2).1⟩
end Go.Proofs.YtlidmnehpcodkaaDoor
