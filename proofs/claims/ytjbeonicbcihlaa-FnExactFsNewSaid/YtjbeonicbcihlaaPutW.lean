/-
  Own text: the laws' helpers over one write (a place and a text): a copy, its size, alike.
-/
import Derived.Test.YtjbeonicbcihlaaRows
import Derived.Test.YtjbeonicbcihlaaRowC
import Derived.Handy
import Derived.Deep.RegionWith
namespace Go.Proofs.Ytjbeonicbcihlaa
open Go.RowKit

/-- A write: a place and a text. -/
abbrev PutD := Int × ByteArray
def encP (p : PutD) : List Value := [.int .i64 p.1, .string p.2]
def aggP (p : PutD) : Value := .agg #[.int .i64 p.1, .string p.2]
theorem encP_len (p : PutD) : (encP p).length = 2 := rfl

set_option maxRecDepth 20000 in
theorem eqPutW (p : PutD) (w : World) :
    Calls Try.prog 67 #[aggP p, aggP p] w fun e w' => e = .returned (.bool true) ∧ Below w.heap.size w w' := by
  obtain ⟨n, s⟩ := p
  unfold aggP
  go_enter Try.func67, Try.ntmps67
  go_wp2
  go_ret
  exact ⟨rfl, below2 _ _ _⟩

theorem Try.infoPut : (Try.prog.info? 75).map (fun i => (i.zero, i.size, i.bytes)) = some (some (.agg #[.int .i64 0, .string ⟨#[]⟩]), 2, 24) := by kernel_rfl

theorem putAt (l : List PutD) (i : Nat) (h : i < l.length) (n : Int) : (l.flatMap encP).set (i * 2) (.int .i64 n) = (l.set i (n, l[i].2)).flatMap encP := by
  have := flat_set encP_len l i h 0 (n, l[i].2) (.int .i64 n) (by omega) rfl
  simpa using this
theorem putData (l : List PutD) (i : Nat) (h : i < l.length) (s : ByteArray) : (l.flatMap encP).set (i * 2 + 1) (.string s) = (l.set i (l[i].1, s)).flatMap encP :=
  flat_set encP_len l i h 1 (l[i].1, s) (.string s) (by omega) rfl
theorem putBoth (l : List PutD) (i : Nat) (h : i < l.length) (n : Int) (s : ByteArray) : ((l.flatMap encP).set (i * 2) (.int .i64 n)).set (i * 2 + 1) (.string s) = (l.set i (n, s)).flatMap encP := by
  rw [putAt l i h, putData _ i (by simpa using h)]
  simp
theorem putCells {l : List PutD} {i : Nat} (h : i < l.length) : (l.flatMap encP)[i * 2]? = some (.int .i64 l[i].1) ∧ (l.flatMap encP)[i * 2 + 1]? = some (.string l[i].2) := by
  have e0 := flat_get encP_len l i h 0 (by omega)
  have e1 := flat_get encP_len l i h 1 (by omega)
  exact ⟨by simpa [encP] using e0, by simpa [encP] using e1⟩

theorem made_flat {α : Type} {enc : α → List Value} {sz : Nat} (hsz : ∀ x, (enc x).length = sz) (z : α) (zc : Array Value) (hz : zc.toList = enc z) (hpos : 0 < sz) (n : Nat) : (madeCells zc (n * sz)).toList = (List.replicate n z).flatMap enc := by
  have hzs : zc.size = sz := by rw [← Array.length_toList, hz, hsz]
  apply List.ext_getElem?
  intro k
  by_cases hk : k < n * sz
  · have hq : k / sz < n := Nat.div_lt_of_lt_mul (by rw [Nat.mul_comm]; exact hk)
    have e := flat_get hsz (List.replicate n z) (k / sz) (by simpa using hq) (k % sz) (Nat.mod_lt _ hpos)
    rw [show k / sz * sz + k % sz = k by rw [Nat.mul_comm]; exact Nat.div_add_mod k sz] at e
    rw [e]
    simp only [List.getElem_replicate]
    rw [← hz]
    simp [madeCells, hzs, hk, Nat.mod_lt _ hpos]
  · rw [List.getElem?_eq_none (by rw [Array.length_toList, size_madeCells]; omega), List.getElem?_eq_none (by rw [flat_len_c hsz, List.length_replicate]; omega)]
/-- The first k of l, then z. -/
def fillF {α : Type} (z : α) (l : List α) (k : Nat) : List α := l.take k ++ List.replicate (l.length - k) z
theorem fillF_set {α : Type} (z : α) (l : List α) (k : Nat) (h : k < l.length) : (fillF z l k).set k l[k] = fillF z l (k + 1) := by
  unfold fillF
  apply List.ext_getElem
  · simp; omega
  · intro i h1 h2
    simp only [List.getElem_set, List.getElem_append, List.length_take, List.getElem_take, List.getElem_replicate]
    by_cases hi : k = i
    · subst hi
      simp
      omega
    · by_cases h3 : i < k
      · simp [hi, show i < min k l.length by omega, show i < min (k + 1) l.length by omega]
      · simp [hi, show ¬ i < min k l.length by omega, show ¬ i < min (k + 1) l.length by omega]
theorem fillF_len {α : Type} (z : α) (l : List α) (k : Nat) (h : k ≤ l.length) : (fillF z l k).length = l.length := by unfold fillF; simp; omega
theorem fillF_all {α : Type} (z : α) (l : List α) : fillF z l l.length = l := by simp [fillF]
theorem fillF_zero {α : Type} (z : α) (l : List α) : fillF z l 0 = List.replicate l.length z := by simp [fillF]

set_option maxRecDepth 20000 in
set_option maxHeartbeats 400000 in
theorem eqPuts (a c : Option Addr) (ca cc : Nat) (l : List PutD) (w : World) (hl : l.length ≤ 4194304) (hr : RdF encP 2 w a l) (hs : RdF encP 2 w c l) :
    Calls Try.prog 32 #[.slice a l.length ca, .slice c l.length cc] w fun e w' => e = .returned (.bool true) ∧ Below w.heap.size w w' := by
  have HCS : Hid (∀ k (hk : k < l.length), ∃ b off, a = some ⟨b, off, none⟩ ∧ b < w.heap.size ∧ ∀ j, j < 2 → w.cell? ⟨b, off + k * 2 + j, none⟩ = (encP l[k])[j]?) := fun k hk => hr.at k hk
  have HDS : Hid (∀ k (hk : k < l.length), ∃ b off, c = some ⟨b, off, none⟩ ∧ b < w.heap.size ∧ ∀ j, j < 2 → w.cell? ⟨b, off + k * 2 + j, none⟩ = (encP l[k])[j]?) := fun k hk => hs.at k hk
  clear hr hs
  go_enter Try.func32, Try.ntmps32
  go_wp2
  go_loopw [5] (fun i wr => ∃ k : Nat, k ≤ l.length ∧ i = .int .i64 k ∧ Below w.heap.size w wr) (fun i _ => l.length - (intOf i).toNat)
  case atStart => exact ⟨0, Nat.zero_le _, rfl, Below.refl _ _⟩
  case round =>
    obtain ⟨k, hk, rfl, hbel⟩ := hrel
    by_cases hlt : k < l.length
    · obtain ⟨b, off, rfl, hblt, hcell⟩ := HCS.out k hlt
      obtain ⟨d, off2, rfl, hdlt, hcell2⟩ := HDS.out k hlt
      have hc0 : wr.cell? ⟨b, off + k * 2, none⟩ = some (.int .i64 l[k].1) := (hbel.cell hblt).trans (hcell 0 (by omega))
      have hc1 : wr.cell? ⟨b, off + k * 2 + 1, none⟩ = some (.string l[k].2) := (hbel.cell hblt).trans (hcell 1 (by omega))
      have hd0 : wr.cell? ⟨d, off2 + k * 2, none⟩ = some (.int .i64 l[k].1) := (hbel.cell hdlt).trans (hcell2 0 (by omega))
      have hd1 : wr.cell? ⟨d, off2 + k * 2 + 1, none⟩ = some (.string l[k].2) := (hbel.cell hdlt).trans (hcell2 1 (by omega))
      clear hcell hcell2
      have HE : Hid (∀ W, Calls Try.prog 67 #[.agg #[.int .i64 l[k].1, .string l[k].2], .agg #[.int .i64 l[k].1, .string l[k].2]] W fun e w' => e = .returned (.bool true) ∧ Below W.heap.size W w') := fun W => eqPutW l[k] W
      generalize l[k].1 = yn at *
      generalize l[k].2 = ys at *
      go_wp2
      go_region_with (go_at_call 67; refine (HE.out _).mono ?_; rintro e w2 ⟨rfl, hb2⟩)
      all_goals
        have hb3 : Below w.heap.size w w2 := hbel.drew.trans (hb2.mono hbel.size)
        go_wp2
        go_roundw
        case rel => exact ⟨k + 1, by omega, by go_num, hb3⟩
        case measure => simp [intOf]; omega
    · go_wp2
      go_ret
      exact ⟨rfl, hbel⟩

/-- How great writes are. -/
def szP (l : List PutD) : Nat := (l.map fun p => 1 + p.2.size).sum
theorem szP_take {l : List PutD} {k : Nat} (h : k < l.length) : szP (l.take (k + 1)) = szP (l.take k) + 1 + (l[k]).2.size := by
  unfold szP
  rw [List.take_succ_eq_append_getElem h, List.map_append, List.sum_append]
  simp
  omega

end Go.Proofs.Ytjbeonicbcihlaa
