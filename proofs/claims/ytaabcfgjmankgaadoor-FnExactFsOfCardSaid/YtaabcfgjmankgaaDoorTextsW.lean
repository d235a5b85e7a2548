/-
  Own text: whether two rows of texts are the same, as both programs tell it.
-/
import Derived.Test.YtaabcfgjmankgaaDoorTxtW
namespace Go.Proofs.YtaabcfgjmankgaaDoor
open Go.RowKit

theorem bytes_ne {a b : ByteArray} (h : ¬ a = b) : (a.toList == b.toList) = false := by
  rw [ByteArray.toList_eq, ByteArray.toList_eq]
  obtain ⟨⟨x⟩⟩ := a
  obtain ⟨⟨y⟩⟩ := b
  have : ¬ x = y := fun e => h (by rw [e])
  simpa using this
set_option maxRecDepth 20000 in
set_option maxHeartbeats 400000 in
theorem equalT (a c : Option Addr) (ca cc : Nat) (l m : List ByteArray) (w : World) (hl : l.length ≤ 4194304) (hr : RdS w a l) (hs : RdS w c m) :
    Calls Tryd.prog 20 #[.slice a l.length ca, .slice c m.length cc] w fun e w' => e = .returned (.bool (decide (l = m))) ∧ Below w.heap.size w w' := by
  by_cases hne : l.length = m.length
  · have HCS : Hid (∀ k, k < l.length → ∃ b off x, a = some ⟨b, off, none⟩ ∧ b < w.heap.size ∧ w.cell? ⟨b, off + k, none⟩ = some (.string x) ∧ l[k]? = some x) := by
      intro k hk
      obtain ⟨b, off, h1, h2, h3⟩ := hr.cellT k (by omega)
      exact ⟨b, off, _, h1, h2, h3, by simp [hk]⟩
    have HDS : Hid (∀ k, k < l.length → ∃ b off x, c = some ⟨b, off, none⟩ ∧ b < w.heap.size ∧ w.cell? ⟨b, off + k, none⟩ = some (.string x) ∧ m[k]? = some x) := by
      intro k hk
      obtain ⟨b, off, h1, h2, h3⟩ := hs.cellT k (by omega)
      exact ⟨b, off, _, h1, h2, h3, by simp [show k < m.length by omega]⟩
    have HLM : Hid (l.length = m.length) := hne
    clear hr hs
    rw [← hne]
    clear hne
    generalize hn : l.length = n at *
    have HLN : Hid (l.length = n) := hn
    clear hn
    go_enter Tryd.func20, Tryd.ntmps20
    go_wp2
    go_loopw [13] (fun i wr => ∃ k : Nat, k ≤ n ∧ i = .int .i64 k ∧ Below w.heap.size w wr ∧ Hid (∀ j, j < k → l[j]? = m[j]?)) (fun i _ => n - (intOf i).toNat)
    case atStart => exact ⟨0, Nat.zero_le _, rfl, Below.refl _ _, fun j h => by omega⟩
    case round =>
      obtain ⟨k, hk, rfl, hbel, HA⟩ := hrel
      by_cases hlt : k < n
      · obtain ⟨b, off, x, rfl, hblt, hcell, hx⟩ := HCS.out k hlt
        obtain ⟨d, off2, y, rfl, hdlt, hcell2, hy⟩ := HDS.out k hlt
        have hcr : wr.cell? ⟨b, off + k, none⟩ = some (.string x) := (hbel.cell hblt).trans hcell
        have hdr : wr.cell? ⟨d, off2 + k, none⟩ = some (.string y) := (hbel.cell hdlt).trans hcell2
        have HX : Hid (l[k]? = some x) := hx
        have HY : Hid (m[k]? = some y) := hy
        clear hcell hcell2 hx hy
        by_cases hxy : x = y
        · have HT2 : Hid (∀ j, j < k + 1 → l[j]? = m[j]?) := by
            intro j hj
            by_cases e : j = k
            · subst e; rw [HX.out, HY.out, hxy]
            · exact HA.out j (by omega)
          subst hxy
          clear HX HY HA
          go_wp2
          go_region
          all_goals (go_wp2)
          all_goals go_roundw
          case rel => exact ⟨k + 1, by omega, by go_num, hbel.drew, HT2⟩
          case measure => simp [intOf]; omega
        · have hxl := bytes_ne hxy
          have HF' : Hid (¬ l = m) := by
            intro e
            have := HX.out
            rw [e, HY.out] at this
            exact hxy (Option.some.inj this).symm
          clear HX HY HA hxy
          go_wp2
          go_region
          all_goals (go_wp2)
          all_goals go_ret
          all_goals exact ⟨by simp [HF'.out], hbel.drew⟩
      · obtain rfl : k = n := by omega
        have HE : Hid (l = m) := by
          show _ = _
          apply List.ext_getElem?
          intro j
          by_cases hj : j < k
          · exact HA.out j hj
          · rw [List.getElem?_eq_none (by have := HLN.out; omega), List.getElem?_eq_none (by have := HLN.out; have := HLM.out; omega)]
        go_wp2
        go_ret
        exact ⟨by simp [HE.out], hbel⟩
  · have HF : Hid (¬ l = m) := fun e => hne (by rw [e])
    have hne' : ¬ (l.length : Int) = (m.length : Int) := by omega
    clear hr hs
    generalize l.length = n at *
    generalize m.length = n' at *
    go_enter Tryd.func20, Tryd.ntmps20
    go_wp2
    go_ret
    exact ⟨by simp [HF.out], Below.refl _ _⟩

set_option maxRecDepth 20000 in
set_option maxHeartbeats 400000 in
theorem textsT (a c : Option Addr) (ca cc : Nat) (l m : List ByteArray) (w : World) (hl : l.length ≤ 4194304) (hr : RdS w a l) (hs : RdS w c m) :
    Calls Tryd.prog 16 #[.slice a l.length ca, .slice c m.length cc] w fun e w' => e = .returned (.bool (decide (l = m))) ∧ Below w.heap.size w w' := by
  by_cases hne : l.length = m.length
  · have HCS : Hid (∀ k, k < l.length → ∃ b off x, a = some ⟨b, off, none⟩ ∧ b < w.heap.size ∧ w.cell? ⟨b, off + k, none⟩ = some (.string x) ∧ l[k]? = some x) := by
      intro k hk
      obtain ⟨b, off, h1, h2, h3⟩ := hr.cellT k (by omega)
      exact ⟨b, off, _, h1, h2, h3, by simp [hk]⟩
    have HDS : Hid (∀ k, k < l.length → ∃ b off x, c = some ⟨b, off, none⟩ ∧ b < w.heap.size ∧ w.cell? ⟨b, off + k, none⟩ = some (.string x) ∧ m[k]? = some x) := by
      intro k hk
      obtain ⟨b, off, h1, h2, h3⟩ := hs.cellT k (by omega)
      exact ⟨b, off, _, h1, h2, h3, by simp [show k < m.length by omega]⟩
    have HLM : Hid (l.length = m.length) := hne
    clear hr hs
    rw [← hne]
    clear hne
    generalize hn : l.length = n at *
    have HLN : Hid (l.length = n) := hn
    clear hn
    go_enter Tryd.func16, Tryd.ntmps16
    go_wp2
    go_loopw [5] (fun i wr => ∃ k : Nat, k ≤ n ∧ i = .int .i64 k ∧ Below w.heap.size w wr ∧ Hid (∀ j, j < k → l[j]? = m[j]?)) (fun i _ => n - (intOf i).toNat)
    case atStart => exact ⟨0, Nat.zero_le _, rfl, Below.refl _ _, fun j h => by omega⟩
    case round =>
      obtain ⟨k, hk, rfl, hbel, HA⟩ := hrel
      by_cases hlt : k < n
      · obtain ⟨b, off, x, rfl, hblt, hcell, hx⟩ := HCS.out k hlt
        obtain ⟨d, off2, y, rfl, hdlt, hcell2, hy⟩ := HDS.out k hlt
        have hcr : wr.cell? ⟨b, off + k, none⟩ = some (.string x) := (hbel.cell hblt).trans hcell
        have hdr : wr.cell? ⟨d, off2 + k, none⟩ = some (.string y) := (hbel.cell hdlt).trans hcell2
        have HX : Hid (l[k]? = some x) := hx
        have HY : Hid (m[k]? = some y) := hy
        clear hcell hcell2 hx hy
        by_cases hxy : x = y
        · have HT2 : Hid (∀ j, j < k + 1 → l[j]? = m[j]?) := by
            intro j hj
            by_cases e : j = k
            · subst e; rw [HX.out, HY.out, hxy]
            · exact HA.out j (by omega)
          subst hxy
          clear HX HY HA
          go_wp2
          go_region
          all_goals (go_wp2)
          all_goals go_roundw
          case rel => exact ⟨k + 1, by omega, by go_num, hbel.drew, HT2⟩
          case measure => simp [intOf]; omega
        · have hxl := bytes_ne hxy
          have HF' : Hid (¬ l = m) := by
            intro e
            have := HX.out
            rw [e, HY.out] at this
            exact hxy (Option.some.inj this).symm
          clear HX HY HA hxy
          go_wp2
          go_region
          all_goals (go_wp2)
          all_goals go_ret
          all_goals exact ⟨by simp [HF'.out], hbel.drew⟩
      · obtain rfl : k = n := by omega
        have HE : Hid (l = m) := by
          show _ = _
          apply List.ext_getElem?
          intro j
          by_cases hj : j < k
          · exact HA.out j hj
          · rw [List.getElem?_eq_none (by have := HLN.out; omega), List.getElem?_eq_none (by have := HLN.out; have := HLM.out; omega)]
        go_wp2
        go_ret
        exact ⟨by simp [HE.out], hbel⟩
  · have HF : Hid (¬ l = m) := fun e => hne (by rw [e])
    have hne' : ¬ (l.length : Int) = (m.length : Int) := by omega
    clear hr hs
    generalize l.length = n at *
    generalize m.length = n' at *
    go_enter Tryd.func16, Tryd.ntmps16
    go_wp2
    go_ret
    exact ⟨by simp [HF.out], Below.refl _ _⟩

end Go.Proofs.YtaabcfgjmankgaaDoor
