/-
  Own text: the program's map of a tree's items.
-/
import Derived.Test.YtmnngfaelanbcaaItM
namespace Go.Proofs.Ytmnngfaelanbcaa
open Go.RowKit

def rootS : ByteArray := ⟨#[47]⟩
/-- The root, as an item. -/
def rootI : ItD := ⟨rootS, 2, ⟨#[]⟩, 0⟩
/-- The first item of a path; the root's first of all. -/
def itF (l : List ItD) (s : ByteArray) : Option ItD := if s = rootS then some rootI else l.find? (fun x => decide (x.p = s))
theorem itF_snoc_old {l : List ItD} {x : ItD} (h : (itF l x.p).isSome = true) : itF (l ++ [x]) = itF l := by
  funext s
  unfold itF at h ⊢
  by_cases e : s = rootS
  · rw [if_pos e, if_pos e]
  · rw [if_neg e, if_neg e, List.find?_append]
    by_cases e2 : x.p = s
    · rw [e2, if_neg e] at h
      cases hf : l.find? (fun x => decide (x.p = s)) with
      | none => rw [hf] at h; cases h
      | some y => rfl
    · simp [e2]
theorem itF_snoc_new {l : List ItD} {x : ItD} (h : (itF l x.p).isSome = false) : itF (l ++ [x]) = updI (itF l) x.p x := by
  funext s
  unfold itF updI at *
  by_cases e : s = rootS
  · rw [if_pos e]
    by_cases e2 : s = x.p
    · rw [← e2, if_pos e] at h; cases h
    · simp only [if_neg e2]
      rw [if_pos e]
  · rw [if_neg e, List.find?_append]
    by_cases e2 : s = x.p
    · subst e2
      rw [if_neg e] at h
      rw [if_pos rfl]
      cases hf : l.find? (fun y => decide (y.p = x.p)) with
      | none => simp
      | some y => rw [hf] at h; cases h
    · simp only [if_neg e2, if_neg e]
      have : ¬ x.p = s := fun e3 => e2 e3.symm
      simp [this]
theorem itF_nil : itF [] = updI (fun _ => none) rootS rootI := by
  funext s
  unfold itF updI
  simp

set_option maxRecDepth 20000 in
set_option maxHeartbeats 1000000 in
theorem implItems (a : Option Addr) (cap : Nat) (l : List ItD) (w : World) (hl : l.length ≤ 1048576) (hp : ∀ x ∈ l, x.p.size ≤ maxLen) (hr : RdF encI 4 w a l) :
    Calls Try.prog 28 #[.slice a l.length cap] w fun e w' => ∃ b, e = .returned (.map (some b)) ∧ w.heap.size ≤ b ∧ MapIt w' b (l.length + 1) (itF l) ∧ Below w.heap.size w w' := by
  have HCS : Hid (∀ k (hk : k < l.length), ∃ b off, a = some ⟨b, off, none⟩ ∧ b < w.heap.size ∧ ItAt w b (off + k * 4) l[k]) := fun k hk => RdIt.at hr k hk
  have HP : Hid (∀ x ∈ l, x.p.size ≤ maxLen) := hp
  clear hr hp
  have hmk : ∀ w : World, (Instr.makeMap 51 none).run Try.prog w = .ok (.map (some w.heap.size)) (w.alloc (.map #[] 0)) := fun w => makeMapIt _ w
  go_enter Try.func28, Try.ntmps28
  obtain ⟨w1, hst, hM1, hg1⟩ := (MapIt.made w).store Try.underlying51 (by decide) (s := rootS) (by decide) rootI
  have hst' : (Instr.mapUpdate 51 (.map (some w.heap.size)) (.string ⟨#[47]⟩) (.agg #[.string ⟨#[47]⟩, .int .i64 2, .string ⟨#[]⟩, .int .i64 0])).run Try.prog (w.alloc (.map #[] 0)) = .ok () w1 := hst
  have hb1 : Below w.heap.size w w1 := MapIt.grown hg1 (Nat.le_refl _) (below1 w _) (by simp)
  have hM1' : MapIt w1 w.heap.size 1 (itF (l.take 0)) := by rw [List.take_zero, itF_nil]; exact hM1
  clear hst hM1 hg1
  go_wp2
  go_loopw [13] (fun i wr => ∃ k : Nat, k ≤ l.length ∧ i = .int .i64 k ∧ MapIt wr w.heap.size (k + 1) (itF (l.take k)) ∧ Below w.heap.size w wr) (fun i _ => l.length - (intOf i).toNat)
  case atStart => exact ⟨0, Nat.zero_le _, rfl, hM1', hb1⟩
  case round =>
    obtain ⟨k, hk, rfl, hM, hb⟩ := hrel
    clear hM1' hb1 hst'
    by_cases hlt : k < l.length
    · obtain ⟨o, off, rfl, hblt, hcell⟩ := HCS.out k hlt
      obtain ⟨c0, c1, c2, c3⟩ := hcell.below hb hblt
      have HS : Hid (l[k].p.size ≤ maxLen) := HP.out _ (List.getElem_mem hlt)
      have HT : Hid (l.take (k + 1) = l.take k ++ [l[k]]) := List.take_succ_eq_append_getElem hlt
      have hMl := hM.lt
      have hgr := hb.size
      clear hcell
      generalize hy : l[k] = y at *
      obtain ⟨yp, yk, yd, yt⟩ := y
      simp only at c0 c1 c2 c3
      obtain ⟨F, hF⟩ : ∃ F, F = itF (l.take k) := ⟨_, rfl⟩
      have HM : Hid (MapIt wr w.heap.size (k + 1) F) := by rw [hF]; exact hM
      clear hM
      cases hc : (F yp).isSome with
      | true =>
        obtain ⟨z, hz⟩ : ∃ z, (F yp).getD zeroI = z := ⟨_, rfl⟩
        have HN : Hid (itF (l.take (k + 1)) = F) := by show _ = _; rw [HT.out, hF]; exact itF_snoc_old (by rw [← hF]; exact hc)
        clear hF
        go_wp2_with (at_lookup; refine wp_lookIt _ rfl _ _ 51 rfl Try.underlying51 w.heap.size (k + 1) F rfl (HM.out.new (below1 _ _)) yp rfl HS.out z hz true hc ?_; unfold aggI)
        have hb2 : Below w.heap.size w ((wr.alloc (.cells #[.string yp, .int .i64 yk, .string yd, .int .i64 yt] 34)).alloc (.cells #[.string z.p, .int .i64 z.k, .string z.d, .int .i64 z.t] 34)) := hb.trans ((below2 wr _ _).mono hgr)
        go_roundw
        case rel => exact ⟨k + 1, by omega, by go_num, by rw [HN.out]; exact (HM.out.new (below2 _ _ _)).mono (by omega), hb2⟩
        case measure => simp [intOf]; omega
      | false =>
        obtain ⟨z, hz⟩ : ∃ z, (F yp).getD zeroI = z := ⟨_, rfl⟩
        have HN : Hid (itF (l.take (k + 1)) = updI F yp ⟨yp, yk, yd, yt⟩) := by show _ = _; rw [HT.out, hF]; exact itF_snoc_new (x := ⟨yp, yk, yd, yt⟩) (by rw [← hF]; exact hc)
        have hb2 : Below w.heap.size w ((wr.alloc (.cells #[.string yp, .int .i64 yk, .string yd, .int .i64 yt] 34)).alloc (.cells #[.string z.p, .int .i64 z.k, .string z.d, .int .i64 z.t] 34)) := hb.trans ((below2 wr _ _).mono hgr)
        clear hF
        go_wp2_with (first
          | (at_lookup; refine wp_lookIt _ rfl _ _ 51 rfl Try.underlying51 w.heap.size (k + 1) F rfl (HM.out.new (below1 _ _)) yp rfl HS.out z hz false hc ?_; unfold aggI)
          | (at_mapUpdate; refine wp_storeIt _ rfl _ _ _ 51 rfl Try.underlying51 w.heap.size (k + 1) F rfl (HM.out.new (below2 _ _ _)) (by unfold maxLen; omega) yp ⟨yp, yk, yd, yt⟩ rfl HS.out rfl ?_; intro w3 hM3 hg3))
        have hb3 : Below w.heap.size w w3 := MapIt.grown hg3 (Nat.le_refl _) hb2 (by have := hb2.size; omega)
        go_roundw
        case rel => exact ⟨k + 1, by omega, by go_num, by rw [HN.out]; exact hM3, hb3⟩
        case measure => simp [intOf]; omega
    · obtain rfl : k = l.length := by omega
      rw [List.take_length] at hM
      go_wp2
      go_ret
      exact ⟨w.heap.size, rfl, Nat.le_refl _, hM, hb⟩
end Go.Proofs.Ytmnngfaelanbcaa
