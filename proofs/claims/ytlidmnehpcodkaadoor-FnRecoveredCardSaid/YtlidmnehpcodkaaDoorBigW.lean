/-
  Own text: whether what came in is too great for a law; what FnFlushed asks of disks in plain.
-/
import Derived.Test.YtlidmnehpcodkaaDoorBunS
namespace Go.Proofs.YtlidmnehpcodkaaDoor
open Go.RowKit

theorem bigL (x : Option Addr) (n cap : Nat) (w : World) : Calls Tryd.prog 8 #[.slice x n cap] w fun e w' => e = .returned (.bool (decide ((1048576 : Int) < (n : Int)))) ∧ w' = w := by
  go_enter Tryd.func8, Tryd.ntmps8
  go_wp2
  go_ret
  exact ⟨rfl, rfl⟩

theorem len_write3 {d : DiskD} {at' : Int} {s : ByteArray} (h1 : d.1.length ≤ 121) (h2 : d.2.length ≤ 401) : (wrD d at' s).1.length ≤ 4194303 ∧ (wrD d at' s).2.length ≤ 4194303 := by
  unfold wrD dkWrite
  split
  · exact ⟨by show d.1.length ≤ _; omega, by show (d.2 ++ [(at', s)]).length ≤ _; simp; omega⟩
  · exact ⟨by show d.1.length ≤ _; omega, by show d.2.length ≤ _; omega⟩
theorem wr_false {d : DiskD} {at' : Int} {s : ByteArray} (h : wrOk d at' s = false) : wrD d at' s = d := by
  unfold wrOk at h
  unfold wrD
  cases hw : dkWrite d at' s with
  | none => rfl
  | some e => rw [hw] at h; cases h
theorem wr_true {d : DiskD} {at' : Int} {s : ByteArray} (h : wrOk d at' s = true) (ks : List Bool) :
    rdTx (wrD d at' s) at' = s ∧ rdOk (wrD d at' s) at' = true ∧ rdTx (dkFlush (wrD d at' s)) at' = s ∧ rdOk (dkFlush (wrD d at' s)) at' = true ∧ (dkFlush (wrD d at' s)).2.length = 0 ∧ dkFall (dkFlush (wrD d at' s)) ks = dkFlush (wrD d at' s) ∧ dkFlush (dkFlush (wrD d at' s)) = dkFlush (wrD d at' s) ∧ (dkFlush (wrD d at' s)).1.length ≤ 4194303 := by
  unfold wrOk at h
  unfold wrD
  cases hw : dkWrite d at' s with
  | none => rw [hw] at h; cases h
  | some e =>
    simp only [Option.getD_some]
    have r1 := read_written hw
    have r2 := read_flushed hw
    have r3 := flush_ok r1.2
    have e1 : dkFlush e = ((dkFlush e).1, []) := by rw [← r3.2]
    refine ⟨by unfold rdTx; rw [r1.1]; rfl, by unfold rdOk; rw [r1.1]; rfl, by unfold rdTx; rw [r2]; rfl, by unfold rdOk; rw [r2]; rfl, by rw [r3.2]; rfl, ?_, ?_, ?_⟩
    · rw [e1]; exact fall_none ks
    · rw [e1]; exact flush_none
    · have := (dkOk_iff.1 r3.1).1
      omega
end Go.Proofs.YtlidmnehpcodkaaDoor
