/-
  Own text: the program's walk from the root on, whatever is told of the places (a contract over what sees them).
-/
import Derived.Test.YthfgfhbinggpfaaDoorBunZK
import Derived.Test.YthfgfhbinggpfaaDoorBunZO
import Derived.Deep.LoopGhost
import Derived.WalkMore
namespace Go.Proofs.YthfgfhbinggpfaaDoor
open Go.RowKit

set_option maxRecDepth 20000 in
set_option maxHeartbeats 8000000 in
theorem implWalkS {σ : Type} (see : σ → PlD → σ × Bool) (I : σ → World → Prop) (gs P : Nat) (aE : Addr) (a b : Option Addr) (ca cb : Nat) (F : FsD) (w : World) (hp : ShapeP F) (hgs : gs < w.heap.size) (hP : P < w.heap.size)
    (hF : ∀ W, Only (fun q => w.heap.size ≤ q ∨ q = gs) w W → W.cell? ⟨P, 0, none⟩ = some (.slice a F.ns.length ca) ∧ W.cell? ⟨P, 1, none⟩ = some (.slice b F.ds.length cb) ∧ RdNs W a F.ns ∧ RdS W b F.ds ∧ ErrAt aE W)
    (hI : ∀ st W W', Only (fun q => w.heap.size ≤ q ∨ q = gs) w W → Only (fun q => w.heap.size ≤ q) W W' → I st W → I st W')
    (hsee : ∀ st p W, Only (fun q => w.heap.size ≤ q ∨ q = gs) w W → I st W → Calls Tryd.prog 26 #[.pointer (some ⟨gs, 0, none⟩), plV p] W fun e w' => e = .returned (.bool (see st p).2) ∧ I (see st p).1 w' ∧ Only (fun q => q = gs) W w')
    (f : Nat) (s0 : σ) (res : σ × Bool) (h0 : I s0 w) (hw : wk F see f s0 [rootPl] = some res) :
    Calls Tryd.prog 25 #[.pointer (some ⟨P, 0, none⟩), .func (.func 26) #[.pointer (some ⟨gs, 0, none⟩)] #[]] w fun e w' => e = .returned (.bool res.2) ∧ I res.1 w' ∧ Only (fun q => w.heap.size ≤ q ∨ q = gs) w w' := by
  have HENT : Hid (∀ W (k : Nat), Only (fun q => w.heap.size ≤ q ∨ q = gs) w W → k < F.ns.length → Calls Tryd.prog 36 #[.pointer (some ⟨P, 0, none⟩), .int .i64 (k : Nat)] W fun e w' => ∃ u, e = .returned (.tuple #[u, .bool (entO F k)]) ∧ OwnEn w' W.heap.size w'.heap.size u (dirE F k) ∧ Below W.heap.size W w') := by
    intro W k hO hk
    obtain ⟨f0, f1, f2, f3, f4⟩ := hF W hO
    exact implEntries P aE a b ca cb F k W hp hk f4 (Nat.lt_of_lt_of_le hP hO.size) f0 f1 f2 f3
  have HSEE : Hid (∀ st p W, Only (fun q => w.heap.size ≤ q ∨ q = gs) w W → I st W → Calls Tryd.prog 26 #[.pointer (some ⟨gs, 0, none⟩), plV p] W fun e w' => e = .returned (.bool (see st p).2) ∧ I (see st p).1 w' ∧ Only (fun q => q = gs) W w') := hsee
  have HI : Hid (∀ st W W', Only (fun q => w.heap.size ≤ q ∨ q = gs) w W → Only (fun q => w.heap.size ≤ q) W W' → I st W → I st W') := hI
  have hb1 := below1 w (.cells #[.string ⟨#[47]⟩, .int .i64 0, .int .i64 0] 81)
  have HQ1 : Hid (QR (w.alloc (.cells #[.string ⟨#[47]⟩, .int .i64 0, .int .i64 0] 81)) (fun q => w.heap.size ≤ q) (.slice (some ⟨w.heap.size, 0, none⟩) 1 1) [rootPl]) := QR.one w _ rootPl (Nat.le_refl _)
  have hO1 : Only (fun q => w.heap.size ≤ q ∨ q = gs) w (w.alloc (.cells #[.string ⟨#[47]⟩, .int .i64 0, .int .i64 0] 81)) := Only.of_new hb1
  have HI1 : Hid (I s0 (w.alloc (.cells #[.string ⟨#[47]⟩, .int .i64 0, .int .i64 0] 81))) := HI.out s0 w _ (Only.refl _ _) (Only.of_new hb1) h0
  have HW : Hid (wk F see f s0 [rootPl] = some res) := hw
  clear hF hI hsee h0 hw hb1
  go_enter Tryd.func25, Tryd.ntmps25
  go_wp2
  go_step3
  go_wp2
  go_step3
  go_wp2
  go_loopg [5] f (fun k v wo => ∃ (s : σ) (Q : List PlD), Hid (QR wo (fun q => w.heap.size ≤ q) v Q) ∧ Hid (I s wo) ∧ Hid (wk F see k s Q = some res) ∧ Only (fun q => w.heap.size ≤ q ∨ q = gs) w wo)
  case atStart => exact ⟨s0, [rootPl], HQ1, HI1, HW, hO1⟩
  case round =>
    rename World => wo
    obtain ⟨s, Q, HQ, HIs, HWk, hO⟩ := hrel
    clear HQ1 HI1 HW hO1
    cases gk with
    | zero => cases HWk.out
    | succ k =>
    cases Q with
    | nil =>
      obtain ⟨a0, c0, rfl⟩ := HQ.out.len
      have HR : Hid (res = (s, true)) := (Option.some.inj HWk.out).symm
      clear HWk HQ
      go_wp2
      rw [Exit.noGoto_ret]
      go_ret
      exact ⟨by rw [HR.out]; rfl, by rw [HR.out]; exact HIs.out, hO⟩
    | cons p q =>
      obtain ⟨hG, HWC⟩ := wk_cons HWk.out
      obtain ⟨pp, pi, pn⟩ := p
      obtain ⟨m, rfl⟩ := natOf (show 0 ≤ pn from hG.1)
      have hmn : m < F.ns.length := by have := hG.2.1; simpa using this
      have hps : pp.size ≤ 64 := hG.2.2.1
      have hql : q.length ≤ 1000000000000 := hG.2.2.2
      rw [show (pp, pi, (m : Int)).2.2.toNat = m from Int.toNat_natCast m] at HWC
      have HW2 : Hid ((entO F m = false ∧ res = (s, false)) ∨ (entO F m = true ∧ (((stp see (pp, pi, (m : Int)) (dirE F m) s ((pp, pi, (m : Int)) :: q)).2.2 = false ∧ res = ((stp see (pp, pi, (m : Int)) (dirE F m) s ((pp, pi, (m : Int)) :: q)).1, false)) ∨ ((stp see (pp, pi, (m : Int)) (dirE F m) s ((pp, pi, (m : Int)) :: q)).2.2 = true ∧ wk F see k (stp see (pp, pi, (m : Int)) (dirE F m) s ((pp, pi, (m : Int)) :: q)).1 (stp see (pp, pi, (m : Int)) (dirE F m) s ((pp, pi, (m : Int)) :: q)).2.1.tail = some res)))) := HWC
      clear HWC HWk hG
      obtain ⟨g, off, cap, rfl, hBg, hgl, e0, e1, e2⟩ := HQ.out.head
      have hb1 := below1 wo (.cells #[.string pp, .int .i64 pi, .int .i64 (m : Int)] 81)
      have hO1 : Only (fun q => w.heap.size ≤ q ∨ q = gs) w (wo.alloc (.cells #[.string pp, .int .i64 pi, .int .i64 (m : Int)] 81)) := hO.trans (Only.of_new hb1)
      have HP1 : Hid (Var (wo.alloc (.cells #[.string pp, .int .i64 pi, .int .i64 (m : Int)] 81)) wo.heap.size #[.string pp, .int .i64 pi, .int .i64 (m : Int)] 81) := Var.made wo _ _
      have HE := HENT.out _ m hO1 hmn
      have HE1 : Hid (Calls Tryd.prog 36 #[.pointer (some ⟨P, 0, none⟩), .int .i64 (m : Nat)] (wo.alloc (.cells #[.string pp, .int .i64 pi, .int .i64 (m : Int)] 81)) fun e w' => ∃ u, e = .returned (.tuple #[u, .bool (entO F m)]) ∧ OwnEn w' (wo.alloc (.cells #[.string pp, .int .i64 pi, .int .i64 (m : Int)] 81)).heap.size w'.heap.size u (dirE F m) ∧ Below (wo.alloc (.cells #[.string pp, .int .i64 pi, .int .i64 (m : Int)] 81)).heap.size (wo.alloc (.cells #[.string pp, .int .i64 pi, .int .i64 (m : Int)] 81)) w') := HE
      have hz1 : (wo.alloc (.cells #[.string pp, .int .i64 pi, .int .i64 (m : Int)] 81)).heap.size = wo.heap.size + 1 := by simp
      have hzz : w.heap.size ≤ wo.heap.size := hO.size
      have hx0 := (HP1.out.cell 0).trans rfl
      have hx2 := (HP1.out.cell 2).trans rfl
      have HQL : Hid (q.length ≤ 1000000000000) := hql
      clear HE hmn hql
      go_wp2_with fail
      refine HE1.out.mono ?_
      rintro e w2 ⟨u2, rfl, ho2, hb2⟩
      have hbb : Below wo.heap.size wo w2 := hb1.trans (hb2.mono (by omega))
      have hO2 : Only (fun q => w.heap.size ≤ q ∨ q = gs) w w2 := hO.trans (Only.of_new hbb)
      have HI2 : Hid (I s w2) := HI.out s wo w2 hO ((Only.of_below hbb).mono (fun _ _ h => Nat.le_trans hzz h)) HIs.out
      have HP2 : Hid (Var w2 wo.heap.size #[.string pp, .int .i64 pi, .int .i64 (m : Int)] 81) := HP1.out.below hb2 (by omega)
      clear HE1 HP1 HIs hx0 hx2 e0 e1 e2
      rcases HW2.out with ⟨hen, hres⟩ | ⟨hen, hrest⟩
      · have HR : Hid (res = (s, false)) := hres
        rw [hen]
        obtain ⟨xa, xc, rfl⟩ : ∃ x c, u2 = .slice x (dirE F m).length c := by
          obtain ⟨x, c, he, _⟩ := own_rdF encN_len ho2.1 rfl
          exact ⟨x, c, he⟩
        have hqI : ¬ ((q.length : Int) + 1 = 0) := by omega
        clear HW2 hen hres ho2 HQ HP2 HENT HSEE
        go_wp2
        rw [Exit.noGoto_ret]
        go_ret
        exact ⟨by rw [HR.out]; rfl, by rw [HR.out]; exact HI2.out, hO2⟩
      · rw [hen]
        have HR2 : Hid ((((stp see (pp, pi, (m : Int)) (dirE F m) s ((pp, pi, (m : Int)) :: q)).2.2 = false ∧ res = ((stp see (pp, pi, (m : Int)) (dirE F m) s ((pp, pi, (m : Int)) :: q)).1, false)) ∨ ((stp see (pp, pi, (m : Int)) (dirE F m) s ((pp, pi, (m : Int)) :: q)).2.2 = true ∧ wk F see k (stp see (pp, pi, (m : Int)) (dirE F m) s ((pp, pi, (m : Int)) :: q)).1 (stp see (pp, pi, (m : Int)) (dirE F m) s ((pp, pi, (m : Int)) :: q)).2.1.tail = some res))) := hrest
        have HES : Hid ((dirE F m).length ≤ 80) := dirE_len
        clear HW2 hen hrest HENT
        generalize dirE F m = es at *
        have HBU : Hid (∀ j, blk u2 j → j < w2.heap.size) := ho2.2
        have hbu : ∀ j, blk u2 j → wo.heap.size < j := fun j hj => by have := ho2.1.lt j hj; omega
        have hQ2 : QR w2 (fun q => w.heap.size ≤ q ∧ q ≠ wo.heap.size ∧ ¬ blk u2 q) (.slice (some ⟨g, off, none⟩) (q.length + 1) cap) ((pp, pi, (m : Int)) :: q) :=
          (QR.newB HQ.out (B' := fun q => w.heap.size ≤ q ∧ q ≠ wo.heap.size ∧ ¬ blk u2 q) (fun q hq hb => ⟨hb, by omega, fun h => by have := hbu q h; omega⟩)).keep (Only.of_below hbb) (fun q hq _ h => by omega)
        have HQ2 : Hid (QR w2 (fun q => w.heap.size ≤ q ∧ q ≠ wo.heap.size ∧ ¬ blk u2 q) (.slice (some ⟨g, off, none⟩) (q.length + 1) cap) ((pp, pi, (m : Int)) :: q)) := hQ2
        have HROW : Hid (∀ W, Only (fun q => (w.heap.size ≤ q ∧ q ≠ wo.heap.size ∧ ¬ blk u2 q) ∨ q = gs) w2 W → RdEn W u2 es) := fun W hOW => by
          have h := own_only ho2.1 hOW (fun j hj h => h.elim (fun h => h.2.2 hj) (fun h => by have := hbu j hj; omega))
          obtain ⟨x, c, he, hc, hr⟩ := own_rdF encN_len h rfl
          exact ⟨x, c, he, hc, hr⟩
        have HPP : Hid (∀ W, Only (fun q => (w.heap.size ≤ q ∧ q ≠ wo.heap.size ∧ ¬ blk u2 q) ∨ q = gs) w2 W → Var W wo.heap.size #[.string pp, .int .i64 pi, .int .i64 (m : Int)] 81) := fun W hOW => HP2.out.only hOW (fun h => h.elim (fun h => h.2.1 rfl) (fun h => by omega))
        have HOO : Hid (∀ W, Only (fun q => (w.heap.size ≤ q ∧ q ≠ wo.heap.size ∧ ¬ blk u2 q) ∨ q = gs) w2 W → Only (fun q => w.heap.size ≤ q ∨ q = gs) w W) := fun W hOW => hO2.trans (hOW.mono fun q _ h => h.elim (fun h => .inl h.1) .inr)
        have hzw : w.heap.size ≤ w2.heap.size := hO2.size
        have hwo2 : wo.heap.size < w2.heap.size := HP2.out.lt
        obtain ⟨xa, xc, hu2, hxc, _⟩ := HROW.out w2 (Only.refl _ _)
        have HU2 : Hid (u2 = .slice xa es.length xc) := hu2
        obtain ⟨R, hRR⟩ : ∃ R, stp see (pp, pi, (m : Int)) es s ((pp, pi, (m : Int)) :: q) = R := ⟨_, rfl⟩
        have HST : Hid (stp see (pp, pi, (m : Int)) es s ((pp, pi, (m : Int)) :: q) = R) := hRR
        rw [hRR] at HR2
        rw [hu2]
        clear hQ2 hbu ho2 HP2 HQ hRR hO2 hO1 hO hbb hb1 hb2 hgl hBg hu2
        go_wp2
        go_loopw [5, 33] (fun v j wr => ∃ (k2 : Nat) (s2 : σ) (Q2 : List PlD), j = .int .i64 k2 ∧ k2 ≤ es.length ∧ Hid (QR wr (fun q => w.heap.size ≤ q ∧ q ≠ wo.heap.size ∧ ¬ blk u2 q) v Q2) ∧ Hid (I s2 wr) ∧ Hid (stp see (pp, pi, (m : Int)) (es.drop k2) s2 Q2 = R) ∧ Hid (Q2 ≠ [] ∧ Q2.length ≤ q.length + 1 + k2) ∧ Hid (Only (fun q => (w.heap.size ≤ q ∧ q ≠ wo.heap.size ∧ ¬ blk u2 q) ∨ q = gs) w2 wr)) (fun _ j _ => es.length - (intOf j).toNat)
        case atStart => exact ⟨0, s, _, rfl, Nat.zero_le _, HQ2, HI2, HST, ⟨by simp, by simp⟩, Only.refl _ _⟩
        case round =>
          obtain ⟨k2, s2, Q2, rfl, hk2, HQX, HIX, HSX, HQ0, HOX⟩ := hrel
          clear HQ2 HI2 HST
          by_cases hlt : k2 < es.length
          rotate_left
          · have hke : k2 = es.length := by omega
            subst hke
            have HRE : Hid (R = (s2, Q2, true)) := by show _ = _; rw [← HSX.out, List.drop_length]; rfl
            rw [HRE.out] at HR2
            have HWN : Hid (wk F see k s2 Q2.tail = some res) := by
              rcases HR2.out with ⟨h, _⟩ | ⟨_, h⟩
              · cases h
              · exact h
            cases Q2 with
            | nil => exact absurd rfl HQ0.out.1
            | cons p2 q2 =>
              obtain ⟨g3, off3, cap3, rfl, _⟩ := HQX.out.head
              obtain ⟨ht1, ht2⟩ := HQX.out.tail2
              have hON := HOO.out wr HOX.out
              have HT1 : Hid (cap3 = 1 → QR wr (fun q => w.heap.size ≤ q) (.slice (some ⟨g3, off3, none⟩) q2.length 0) q2) := fun h => (ht1 h).newB (fun q _ h => h.1)
              have HT2 : Hid (¬ cap3 = 1 → QR wr (fun q => w.heap.size ≤ q) (.slice (some ⟨g3, off3 + 3, none⟩) q2.length (cap3 - 1)) q2) := fun h => (ht2 h).newB (fun q _ h => h.1)
              clear HQX HSX HQ0 HOX HRE HR2 HROW HPP HOO HSEE HI ht1 ht2
              by_cases hc3 : cap3 = 1
              · have HQT : Hid (QR wr (fun q => w.heap.size ≤ q) (.slice (some ⟨g3, off3, none⟩) q2.length 0) q2) := HT1.out hc3
                subst hc3
                clear HT1 HT2
                go_wp2
                go_roundg k
                case measure => omega
                case rel => exact ⟨s2, q2, HQT, HIX, HWN, hON⟩
              · have HQT : Hid (QR wr (fun q => w.heap.size ≤ q) (.slice (some ⟨g3, off3 + 3, none⟩) q2.length (cap3 - 1)) q2) := HT2.out hc3
                clear HT1 HT2
                go_wp2
                go_roundg k
                case measure => omega
                case rel => exact ⟨s2, q2, HQT, HIX, HWN, hON⟩
          · obtain ⟨x, c, he, _, hre⟩ := HROW.out wr HOX.out
            have hxx : x = xa := by
              have h1 := HU2.out
              rw [he] at h1
              injection h1
            subst hxx
            clear he
            obtain ⟨ge, oe, rfl, _, hcell⟩ := hre.at k2 hlt
            have e0 : wr.cell? ⟨ge, oe + k2 * 2, none⟩ = some (.string es[k2].1) := hcell 0 (by omega)
            have e1 : wr.cell? ⟨ge, oe + k2 * 2 + 1, none⟩ = some (.int .i64 es[k2].2) := hcell 1 (by omega)
            have hVP := HPP.out wr HOX.out
            have HSX2 : Hid (R = if (see s2 (plOf (pp, pi, (m : Int)) es[k2])).2 = true then stp see (pp, pi, (m : Int)) (es.drop (k2 + 1)) (see s2 (plOf (pp, pi, (m : Int)) es[k2])).1 (Q2 ++ [plOf (pp, pi, (m : Int)) es[k2]]) else ((see s2 (plOf (pp, pi, (m : Int)) es[k2])).1, Q2, false)) := by
              show _ = _
              rw [← HSX.out, List.drop_eq_getElem_cons hlt]
              rfl
            have HPL : Hid (plOf (pp, pi, (m : Int)) es[k2] = (tx (jn (bt pp) (bt es[k2].1)), (m : Int), es[k2].2)) := rfl
            have hltI : (k2 : Int) < (es.length : Int) := by omega
            have hbx := below1 wr (.cells #[.string es[k2].1, .int .i64 es[k2].2] 74)
            have HVE : Hid (Var (wr.alloc (.cells #[.string es[k2].1, .int .i64 es[k2].2] 74)) wr.heap.size #[.string es[k2].1, .int .i64 es[k2].2] 74) := Var.made wr _ _
            have HVP : Hid (Var (wr.alloc (.cells #[.string es[k2].1, .int .i64 es[k2].2] 74)) wo.heap.size #[.string pp, .int .i64 pi, .int .i64 (m : Int)] 81) := hVP.new hbx
            have HON : Hid (Only (fun q => (w.heap.size ≤ q ∧ q ≠ wo.heap.size ∧ ¬ blk u2 q) ∨ q = gs) w2 (wr.alloc (.cells #[.string es[k2].1, .int .i64 es[k2].2] 74))) := HOX.out.trans (Only.of_new hbx)
            have hzx : w2.heap.size ≤ wr.heap.size := HOX.out.size
            have HIN : Hid (I s2 (wr.alloc (.cells #[.string es[k2].1, .int .i64 es[k2].2] 74))) := HI.out s2 wr _ (HOO.out wr HOX.out) ((Only.of_below hbx).mono (fun _ _ h => by omega)) HIX.out
            have HQN : Hid (QR (wr.alloc (.cells #[.string es[k2].1, .int .i64 es[k2].2] 74)) (fun q => w.heap.size ≤ q ∧ q ≠ wo.heap.size ∧ ¬ blk u2 q) u5 Q2) := HQX.out.keep (Only.of_below hbx) (fun q hq _ h => by omega)
            have hzp : wo.heap.size < wr.heap.size := hVP.lt
            clear HSX HQX HIX HOX hre hcell hVP hbx HU2
            generalize es[k2] = en at *
            obtain ⟨en1, en2⟩ := en
            go_upto_region 10 with fail
            generalize wr.alloc (.cells #[.string en1, .int .i64 en2] 74) = W1 at *
            go_cut [11] (fun v11 wy => Hid (∃ P11, v11 = .pointer (some ⟨P11, 0, none⟩) ∧ W1.heap.size ≤ P11 ∧ Var wy P11 #[.string (tx (jn (bt pp) (bt en1))), .int .i64 (m : Int), .int .i64 en2] 81 ∧ Below W1.heap.size W1 wy))
            case first =>
              have HJ : Hid (∀ W, Calls Tryd.prog 51 #[.string pp, .string en1] W fun e w' => e = .returned (.string (tx (jn (bt pp) (bt en1)))) ∧ Below W.heap.size W w') := fun W => implJoin pp en1 W (by omega)
              obtain ⟨p0, p2, q0, q1⟩ : W1.cell? ⟨wo.heap.size, 0, none⟩ = some (.string pp) ∧ W1.cell? ⟨wo.heap.size, 2, none⟩ = some (.int .i64 (m : Int)) ∧ W1.cell? ⟨wr.heap.size, 0, none⟩ = some (.string en1) ∧ W1.cell? ⟨wr.heap.size, 1, none⟩ = some (.int .i64 en2) := ⟨HVP.out.cell 0, HVP.out.cell 2, HVE.out.cell 0, HVE.out.cell 1⟩
              have hl1 := HVP.out.lt
              have hl2 := HVE.out.lt
              have HCS : Hid (∀ W, Below W1.heap.size W1 W → W.cell? ⟨wo.heap.size, 0, none⟩ = some (.string pp) ∧ W.cell? ⟨wo.heap.size, 2, none⟩ = some (.int .i64 (m : Int)) ∧ W.cell? ⟨wr.heap.size, 0, none⟩ = some (.string en1) ∧ W.cell? ⟨wr.heap.size, 1, none⟩ = some (.int .i64 en2)) := fun W h => ⟨(h.cell hl1).trans p0, (h.cell hl1).trans p2, (h.cell hl2).trans q0, (h.cell hl2).trans q1⟩
              clear HSX2 HPL HON HIN HQN HSEE HI HROW HPP HOO HES HR2 HQL HVE HVP HQ0
              refine wp_region_noPanic ?_
              refine wp_region_held_drew (S := fun W => W.cell? ⟨wo.heap.size, 0, none⟩ = some (.string pp) ∧ W.cell? ⟨wo.heap.size, 2, none⟩ = some (.int .i64 (m : Int)) ∧ W.cell? ⟨wr.heap.size, 0, none⟩ = some (.string en1) ∧ W.cell? ⟨wr.heap.size, 1, none⟩ = some (.int .i64 en2)) (by kernel_rfl) ⟨p0, p2, q0, q1⟩ (fun hT => ?_)
              clear hT
              have hb0 : Below W1.heap.size W1 W1.drew := (Below.refl _ _).drew
              have HS0 : Hid (W1.drew.cell? ⟨wo.heap.size, 0, none⟩ = some (.string pp) ∧ W1.drew.cell? ⟨wo.heap.size, 2, none⟩ = some (.int .i64 (m : Int)) ∧ W1.drew.cell? ⟨wr.heap.size, 0, none⟩ = some (.string en1) ∧ W1.drew.cell? ⟨wr.heap.size, 1, none⟩ = some (.int .i64 en2)) := ⟨p0, p2, q0, q1⟩
              clear p0 p2 q0 q1
              generalize W1.drew = WD at *
              refine held_take (i := 0) (v := .pointer (some ⟨wo.heap.size, 0, none⟩)) rfl rfl (by kernel_rfl) (by kernel_rfl) (by kernel_rfl) (by kernel_rfl) (fun W hSW => by obtain ⟨s0, s1, s2, s3⟩ := hSW; go_simp) HS0.out ?_
              simp only [Act.put, List.setIfInBounds_toArray, List.set_cons_zero, List.set_cons_succ]
              refine held_take (i := 1) (v := .string pp) rfl rfl (by kernel_rfl) (by kernel_rfl) (by kernel_rfl) (by kernel_rfl) (fun W hSW => by obtain ⟨s0, s1, s2, s3⟩ := hSW; go_simp) HS0.out ?_
              simp only [Act.put, List.setIfInBounds_toArray, List.set_cons_zero, List.set_cons_succ]
              refine held_take (i := 2) (v := .pointer (some ⟨wr.heap.size, 0, none⟩)) rfl rfl (by kernel_rfl) (by kernel_rfl) (by kernel_rfl) (by kernel_rfl) (fun W hSW => by obtain ⟨s0, s1, s2, s3⟩ := hSW; go_simp) HS0.out ?_
              simp only [Act.put, List.setIfInBounds_toArray, List.set_cons_zero, List.set_cons_succ]
              refine held_take (i := 3) (v := .string en1) rfl rfl (by kernel_rfl) (by kernel_rfl) (by kernel_rfl) (by kernel_rfl) (fun W hSW => by obtain ⟨s0, s1, s2, s3⟩ := hSW; go_simp) HS0.out ?_
              simp only [Act.put, List.setIfInBounds_toArray, List.set_cons_zero, List.set_cons_succ]
              refine held_take (i := 5) (v := .pointer (some ⟨wo.heap.size, 2, none⟩)) rfl rfl (by kernel_rfl) (by kernel_rfl) (by kernel_rfl) (by kernel_rfl) (fun W hSW => by obtain ⟨s0, s1, s2, s3⟩ := hSW; go_simp) HS0.out ?_
              simp only [Act.put, List.setIfInBounds_toArray, List.set_cons_zero, List.set_cons_succ]
              refine held_take (i := 6) (v := .int .i64 (m : Int)) rfl rfl (by kernel_rfl) (by kernel_rfl) (by kernel_rfl) (by kernel_rfl) (fun W hSW => by obtain ⟨s0, s1, s2, s3⟩ := hSW; go_simp) HS0.out ?_
              simp only [Act.put, List.setIfInBounds_toArray, List.set_cons_zero, List.set_cons_succ]
              refine held_take (i := 7) (v := .pointer (some ⟨wr.heap.size, 1, none⟩)) rfl rfl (by kernel_rfl) (by kernel_rfl) (by kernel_rfl) (by kernel_rfl) (fun W hSW => by obtain ⟨s0, s1, s2, s3⟩ := hSW; go_simp) HS0.out ?_
              simp only [Act.put, List.setIfInBounds_toArray, List.set_cons_zero, List.set_cons_succ]
              refine held_take (i := 8) (v := .int .i64 en2) rfl rfl (by kernel_rfl) (by kernel_rfl) (by kernel_rfl) (by kernel_rfl) (fun W hSW => by obtain ⟨s0, s1, s2, s3⟩ := hSW; go_simp) HS0.out ?_
              simp only [Act.put, List.setIfInBounds_toArray, List.set_cons_zero, List.set_cons_succ]
              refine wpAnyH_ready (rs := [4, 10]) (by kernel_rfl) (by simp) (AllReadyH.cons rfl (fun K hK => ?_) (AllReadyH.cons rfl (fun K hK => ?_) AllReadyH.nil))
              · skip
                go_simp
                refine (HJ.out WD).mono ?_
                rintro e W4 ⟨rfl, hb4⟩
                have hb14 : Below W1.heap.size W1 W4 := hb0.trans (hb4.mono hb0.size)
                have HS4 := HCS.out W4 hb14
                refine hK.out _ _ HS4 (fun _ => ?_)
                clear hK K
                try simp only [Act.put, List.setIfInBounds_toArray, List.set_cons_zero, List.set_cons_succ]
                refine held_take (i := 9) (v := .agg #[.string (tx (jn (bt pp) (bt en1))), .int .i64 (m : Int), .int .i64 en2]) rfl rfl (by kernel_rfl) (by kernel_rfl) (by kernel_rfl) (by kernel_rfl) (fun W hSW => by obtain ⟨s0, s1, s2, s3⟩ := hSW; go_simp) HS4 ?_
                simp only [Act.put, List.setIfInBounds_toArray, List.set_cons_zero, List.set_cons_succ]
                refine wpAnyH_ready (rs := [10]) (by kernel_rfl) (by simp) (AllReadyH.cons rfl (fun K hK => ?_) AllReadyH.nil)
                go_simp
                have hb15 : Below W1.heap.size W1 (W4.alloc (.cells #[.string ⟨#[]⟩, .int .i64 0, .int .i64 0] 81)) := hb14.alloc hb14.size _
                have HS5 := HCS.out _ hb15
                refine hK.out _ _ HS5 (fun _ => ?_)
                clear hK K
                try simp only [Act.put, List.setIfInBounds_toArray, List.set_cons_zero, List.set_cons_succ]
                refine wpAnyH_ready (rs := [11]) (by kernel_rfl) (by simp) (AllReadyH.cons rfl (fun K hK => ?_) AllReadyH.nil)
                go_simp
                have m5 : Var (W4.alloc (.cells #[.string (tx (jn (bt pp) (bt en1))), .int .i64 (m : Int), .int .i64 en2] 81)) W4.heap.size #[.string (tx (jn (bt pp) (bt en1))), .int .i64 (m : Int), .int .i64 en2] 81 := Var.made _ _ _
                have hb16 : Below W1.heap.size W1 (W4.alloc (.cells #[.string (tx (jn (bt pp) (bt en1))), .int .i64 (m : Int), .int .i64 en2] 81)) := hb14.alloc hb14.size _
                refine hK.out _ _ (HCS.out _ hb16) (fun _ => ?_)
                clear hK K
                try simp only [Act.put, List.setIfInBounds_toArray, List.set_cons_zero, List.set_cons_succ]
                refine wpAnyH_done (by kernel_rfl) ?_ _
                simp only [NoPanic]
                go_wp2
                go_meet
                exact ⟨_, rfl, hb14.size, m5, hb16⟩
              · skip
                go_simp
                have hb13 : Below W1.heap.size W1 (WD.alloc (.cells #[.string ⟨#[]⟩, .int .i64 0, .int .i64 0] 81)) := hb0.alloc hb0.size _
                have m3 : Var (WD.alloc (.cells #[.string ⟨#[]⟩, .int .i64 0, .int .i64 0] 81)) WD.heap.size #[.string ⟨#[]⟩, .int .i64 0, .int .i64 0] 81 := Var.made _ _ _
                have HS3 := HCS.out _ hb13
                refine hK.out _ _ HS3 (fun _ => ?_)
                clear hK K
                try simp only [Act.put, List.setIfInBounds_toArray, List.set_cons_zero, List.set_cons_succ]
                have hg11 : W1.heap.size ≤ WD.heap.size := hb0.size
                generalize WD.alloc (.cells #[.string ⟨#[]⟩, .int .i64 0, .int .i64 0] 81) = W3 at *
                generalize WD.heap.size = P11 at *
                refine wpAnyH_ready (rs := [4]) (by kernel_rfl) (by simp) (AllReadyH.cons rfl (fun K hK => ?_) AllReadyH.nil)
                go_simp
                refine (HJ.out W3).mono ?_
                rintro e W4 ⟨rfl, hb4⟩
                have hb14 : Below W1.heap.size W1 W4 := hb13.trans (hb4.mono hb13.size)
                have HS4 := HCS.out W4 hb14
                have m4 := m3.new hb4
                refine hK.out _ _ HS4 (fun _ => ?_)
                clear hK K
                try simp only [Act.put, List.setIfInBounds_toArray, List.set_cons_zero, List.set_cons_succ]
                refine held_take (i := 9) (v := .agg #[.string (tx (jn (bt pp) (bt en1))), .int .i64 (m : Int), .int .i64 en2]) rfl rfl (by kernel_rfl) (by kernel_rfl) (by kernel_rfl) (by kernel_rfl) (fun W hSW => by obtain ⟨s0, s1, s2, s3⟩ := hSW; go_simp) HS4 ?_
                simp only [Act.put, List.setIfInBounds_toArray, List.set_cons_zero, List.set_cons_succ]
                have z0 : W4.cell? ⟨P11, 0, none⟩ = some (.string ⟨#[]⟩) := (m4.cell 0).trans rfl
                have z1 : W4.cell? ⟨P11, 1, none⟩ = some (.int .i64 0) := (m4.cell 1).trans rfl
                have z2 : W4.cell? ⟨P11, 2, none⟩ = some (.int .i64 0) := (m4.cell 2).trans rfl
                have f0 := m4.frozen 0
                have f1 := m4.frozen 1
                have f2 := m4.frozen 2
                refine wpAnyH_ready (rs := [11]) (by kernel_rfl) (by simp) (AllReadyH.cons rfl (fun K hK => ?_) AllReadyH.nil)
                go_simp
                have m5 : Var (((W4.setCell ⟨P11, 0, none⟩ (.string (tx (jn (bt pp) (bt en1))))).setCell ⟨P11, 1, none⟩ (.int .i64 (m : Int))).setCell ⟨P11, 2, none⟩ (.int .i64 en2)) P11 #[.string (tx (jn (bt pp) (bt en1))), .int .i64 (m : Int), .int .i64 en2] 81 := by
                  have h := ((m4.set 0 (.string (tx (jn (bt pp) (bt en1))))).set 1 (.int .i64 (m : Int))).set 2 (.int .i64 en2)
                  simpa using h
                have hb16 : Below W1.heap.size W1 (((W4.setCell ⟨P11, 0, none⟩ (.string (tx (jn (bt pp) (bt en1))))).setCell ⟨P11, 1, none⟩ (.int .i64 (m : Int))).setCell ⟨P11, 2, none⟩ (.int .i64 en2)) := ((hb14.setCell (p := ⟨P11, 0, none⟩) hg11 _).setCell (p := ⟨P11, 1, none⟩) hg11 _).setCell (p := ⟨P11, 2, none⟩) hg11 _
                refine hK.out _ _ (HCS.out _ hb16) (fun _ => ?_)
                clear hK K
                try simp only [Act.put, List.setIfInBounds_toArray, List.set_cons_zero, List.set_cons_succ]
                refine wpAnyH_done (by kernel_rfl) ?_ _
                simp only [NoPanic]
                go_wp2
                go_meet
                exact ⟨_, rfl, hg11, m5, hb16⟩
            case rest =>
              obtain ⟨P11, hu, hP11, hV11, hb11⟩ := hcut.out
              subst hu
              clear hcut
              generalize wc = WC at *
              have hz1 : w2.heap.size ≤ W1.heap.size := HON.out.size
              have hO3 : Only (fun q => (w.heap.size ≤ q ∧ q ≠ wo.heap.size ∧ ¬ blk u2 q) ∨ q = gs) w2 WC := HON.out.trans (Only.of_new hb11)
              have hI3 : I s2 WC := HI.out s2 W1 WC (HOO.out W1 HON.out) ((Only.of_below hb11).mono (fun _ _ h => by omega)) HIN.out
              have hQ3 : QR WC (fun q => w.heap.size ≤ q ∧ q ≠ wo.heap.size ∧ ¬ blk u2 q) u5 Q2 := HQN.out.keep (Only.of_below hb11) (fun q hq _ h => by omega)
              have hSC := HSEE.out s2 (plOf (pp, pi, (m : Int)) (en1, en2)) WC (HOO.out WC hO3) hI3
              obtain ⟨sp, hsp⟩ : ∃ x, see s2 (plOf (pp, pi, (m : Int)) (en1, en2)) = x := ⟨_, rfl⟩
              rw [hsp] at hSC
              have HSX3 : Hid (R = if sp.2 = true then stp see (pp, pi, (m : Int)) (es.drop (k2 + 1)) sp.1 (Q2 ++ [(tx (jn (bt pp) (bt en1)), (m : Int), en2)]) else (sp.1, Q2, false)) := by
                have h := HSX2.out
                rw [hsp] at h
                exact h
              have HSC : Hid (Calls Tryd.prog 26 #[.pointer (some ⟨gs, 0, none⟩), .agg #[.string (tx (jn (bt pp) (bt en1))), .int .i64 (m : Int), .int .i64 en2]] WC fun e w' => e = .returned (.bool sp.2) ∧ I sp.1 w' ∧ Only (fun q => q = gs) WC w') := hSC
              have HO3 : Hid (Only (fun q => (w.heap.size ≤ q ∧ q ≠ wo.heap.size ∧ ¬ blk u2 q) ∨ q = gs) w2 WC) := hO3
              have HQ3 : Hid (QR WC (fun q => w.heap.size ≤ q ∧ q ≠ wo.heap.size ∧ ¬ blk u2 q) u5 Q2) := hQ3
              have HV3 : Hid (Var WC P11 #[.string (tx (jn (bt pp) (bt en1))), .int .i64 (m : Int), .int .i64 en2] 81) := hV11
              have hzc : W1.heap.size ≤ WC.heap.size := hb11.size
              have v0 := (HV3.out.cell 0).trans rfl
              have v1 := (HV3.out.cell 1).trans rfl
              have v2 := (HV3.out.cell 2).trans rfl
              clear hSC hsp HSX2 HPL hO3 hI3 hQ3 hV11 hb11 HVE HVP HON HIN HQN HSEE e0 e1
              go_wp2_with fail
              refine HSC.out.mono ?_
              rintro e w5 ⟨rfl, hI5, hO5⟩
              have HI5 : Hid (I sp.1 w5) := hI5
              have HO5 : Hid (Only (fun q => (w.heap.size ≤ q ∧ q ≠ wo.heap.size ∧ ¬ blk u2 q) ∨ q = gs) w2 w5) := HO3.out.trans (hO5.mono fun _ _ h => .inr h)
              have HQ5 : Hid (QR w5 (fun q => w.heap.size ≤ q ∧ q ≠ wo.heap.size ∧ ¬ blk u2 q) u5 Q2) := HQ3.out.keep hO5 (fun q _ hb h => by have := hb.1; omega)
              have HV5 : Hid (Var w5 P11 #[.string (tx (jn (bt pp) (bt en1))), .int .i64 (m : Int), .int .i64 en2] 81) := HV3.out.only hO5 (fun h => by omega)
              have hz5 : WC.heap.size ≤ w5.heap.size := hO5.size
              clear HSC HO3 HQ3 HV3 hI5 hO5 v0 v1 v2
              obtain ⟨sp1, sp2⟩ := sp
              obtain ⟨hq0, hql2⟩ := HQ0.out
              have HQN0 : Hid (Q2 ≠ []) := hq0
              have hqpos : 0 < Q2.length := List.length_pos_iff.2 hq0
              have hqmax : Q2.length ≤ 1000000000200 := by have h1 := HQL.out; have h2 := HES.out; omega
              have hes80 : es.length ≤ 80 := HES.out
              clear HQ0 hq0 HQL HES
              cases sp2 with
              | false =>
                have HRE : Hid (R = (sp1, Q2, false)) := by show _ = _; rw [HSX3.out]; rfl
                have HRR : Hid (res = (sp1, false)) := by
                  have h := HR2.out
                  rw [HRE.out] at h
                  rcases h with ⟨_, h⟩ | ⟨h, _⟩
                  · exact h
                  · cases h
                have hON := HOO.out w5 HO5.out
                obtain ⟨aq, cq, rfl⟩ := HQ5.out.len
                have hqI : ¬ ((Q2.length : Int) = 0) := by omega
                have hqI2 : ((Q2.length : Int) == 0) = false := by simpa using hqI
                clear HSX3 HRE HR2 HROW HPP HOO HI HQ5 HV5 HBU HQN0
                go_wp2
                rw [Exit.noGoto_ret]
                go_ret
                exact ⟨by rw [HRR.out]; simp, by rw [HRR.out]; exact HI5.out, hON⟩
              | true =>
                have HSX5 : Hid (stp see (pp, pi, (m : Int)) (es.drop (k2 + 1)) sp1 (Q2 ++ [(tx (jn (bt pp) (bt en1)), (m : Int), en2)]) = R) := by show _ = _; rw [HSX3.out]; rfl
                obtain ⟨i0, hi, hz0, hzz1, hzz2⟩ := info_parts Tryd.infoPl
                rcases HQ5.out with ⟨h, _⟩ | ⟨g3, off3, cap3, rfl, hB3, hg3, h1, h2, h3, h4⟩
                · exact absurd h HQN0.out
                have hb6 := below1 w5 (.cells #[.string (tx (jn (bt pp) (bt en1))), .int .i64 (m : Int), .int .i64 en2] 81)
                have hO6 : Only (fun q => w5.heap.size ≤ q) w5 (w5.alloc (.cells #[.string (tx (jn (bt pp) (bt en1))), .int .i64 (m : Int), .int .i64 en2] 81)) := Only.of_below hb6
                have HQ6 : Hid (QR (w5.alloc (.cells #[.string (tx (jn (bt pp) (bt en1))), .int .i64 (m : Int), .int .i64 en2] 81)) (fun q => w.heap.size ≤ q ∧ q ≠ wo.heap.size ∧ ¬ blk u2 q) (.slice (some ⟨g3, off3, none⟩) Q2.length cap3) Q2) := HQ5.out.keep hO6 (fun q hq _ h => by omega)
                have HH3 : Hid (∀ j u, (Q2.flatMap encL)[j]? = some u → (w5.alloc (.cells #[.string (tx (jn (bt pp) (bt en1))), .int .i64 (m : Int), .int .i64 en2] 81)).cell? ⟨g3, off3 + j, none⟩ = some u) := fun j u hj => (hb6.cell hg3).trans (h3 j u hj)
                have HH4 : Hid (∀ j, j < (cap3 - Q2.length) * 3 → ((w5.alloc (.cells #[.string (tx (jn (bt pp) (bt en1))), .int .i64 (m : Int), .int .i64 en2] 81)).cell? ⟨g3, off3 + Q2.length * 3 + j, none⟩).isSome = true ∧ (w5.alloc (.cells #[.string (tx (jn (bt pp) (bt en1))), .int .i64 (m : Int), .int .i64 en2] 81)).frozen? ⟨g3, off3 + Q2.length * 3 + j, none⟩ = false) := fun j hj => by
                  rw [hb6.cell (p := ⟨g3, off3 + Q2.length * 3 + j, none⟩) hg3, hb6.frozen (p := ⟨g3, off3 + Q2.length * 3 + j, none⟩) hg3]
                  exact h4 j hj
                have HNW : Hid (Var (w5.alloc (.cells #[.string (tx (jn (bt pp) (bt en1))), .int .i64 (m : Int), .int .i64 en2] 81)) w5.heap.size #[.string (tx (jn (bt pp) (bt en1))), .int .i64 (m : Int), .int .i64 en2] 81) := Var.made w5 _ _
                have HI6 : Hid (∀ W', Only (fun q => w.heap.size ≤ q) (w5.alloc (.cells #[.string (tx (jn (bt pp) (bt en1))), .int .i64 (m : Int), .int .i64 en2] 81)) W' → I sp1 W') := fun W' hW => HI.out sp1 w5 W' (HOO.out w5 HO5.out) ((hO6.mono fun _ _ h => by omega).trans hW) HI5.out
                have HO6 : Hid (Only (fun q => (w.heap.size ≤ q ∧ q ≠ wo.heap.size ∧ ¬ blk u2 q) ∨ q = gs) w2 (w5.alloc (.cells #[.string (tx (jn (bt pp) (bt en1))), .int .i64 (m : Int), .int .i64 en2] 81))) := HO5.out.trans (Only.of_new hb6)
                have hz6 : (w5.alloc (.cells #[.string (tx (jn (bt pp) (bt en1))), .int .i64 (m : Int), .int .i64 en2] 81)).heap.size = w5.heap.size + 1 := by simp
                have hB3' : w.heap.size ≤ g3 ∧ g3 ≠ wo.heap.size ∧ ¬ blk u2 g3 := hB3
                have HB3 : Hid (w.heap.size ≤ g3 ∧ g3 ≠ wo.heap.size ∧ ¬ blk u2 g3) := hB3'
                have v0 := (HV5.out.cell 0).trans rfl
                have v1 := (HV5.out.cell 1).trans rfl
                have v2 := (HV5.out.cell 2).trans rfl
                clear HSX3 HR2 HROW HPP HOO HI HQ5 h3 h4 hb6 hO6 HI5 HO5 hB3 hB3'
                go_wp2_with (at_builtin; refine wpList_append_arg _ rfl (.tmp 51) (.tmp 53) 82 rfl 81 i0 _ 3 32 Tryd.underlying82 hi hz0 hzz1 hzz2 rfl (by decide) g3 off3 Q2.length cap3 (Q2.flatMap encL) rfl (flatL_len Q2) HH3.out ⟨w5.heap.size, 0, none⟩ 1 1 (encL (tx (jn (bt pp) (bt en1)), (m : Int), en2)) rfl rfl ?c1 ?c2 ?spare ?b1 ?b2 ?room ?grow)
                case c1 =>
                  intro j u hj
                  rw [Addr.add_lit, Nat.zero_add]
                  exact (HNW.out.cell j).trans (by simpa [encL] using hj)
                case c2 => intro u hu; exact onePl [(tx (jn (bt pp) (bt en1)), (m : Int), en2)] u (by simpa using hu)
                case spare => intro hr j hj; exact HH4.out j (by rw [encL_len] at hj; omega)
                case b1 => unfold maxLen; omega
                case b2 => omega
                case room =>
                  intro hr
                  have HQ7 : Hid (QR ((w5.alloc (.cells #[.string (tx (jn (bt pp) (bt en1))), .int .i64 (m : Int), .int .i64 en2] 81)).setCells g3 (off3 + Q2.length * 3) (encL (tx (jn (bt pp) (bt en1)), (m : Int), en2))) (fun q => w.heap.size ≤ q ∧ q ≠ wo.heap.size ∧ ¬ blk u2 q) (.slice (some ⟨g3, off3, none⟩) (Q2.length + 1) cap3) (Q2 ++ [(tx (jn (bt pp) (bt en1)), (m : Int), en2)])) := HQ6.out.room HQN0.out (tx (jn (bt pp) (bt en1)), (m : Int), en2) hr
                  have HI7 : Hid (I sp1 ((w5.alloc (.cells #[.string (tx (jn (bt pp) (bt en1))), .int .i64 (m : Int), .int .i64 en2] 81)).setCells g3 (off3 + Q2.length * 3) (encL (tx (jn (bt pp) (bt en1)), (m : Int), en2)))) := HI6.out _ ((only_setCells _ _ _ _).mono (fun _ _ e => by rw [e]; exact HB3.out.1))
                  have HO7 : Hid (Only (fun q => (w.heap.size ≤ q ∧ q ≠ wo.heap.size ∧ ¬ blk u2 q) ∨ q = gs) w2 ((w5.alloc (.cells #[.string (tx (jn (bt pp) (bt en1))), .int .i64 (m : Int), .int .i64 en2] 81)).setCells g3 (off3 + Q2.length * 3) (encL (tx (jn (bt pp) (bt en1)), (m : Int), en2)))) := HO6.out.trans ((only_setCells _ _ _ _).mono (fun _ _ h => by rw [h]; exact .inl HB3.out))
                  clear HH3 HH4 HQ6 HI6 HO6 HNW HV5 HB3 HBU v0 v1 v2 hz6
                  generalize (w5.alloc (.cells #[.string (tx (jn (bt pp) (bt en1))), .int .i64 (m : Int), .int .i64 en2] 81)).setCells g3 (off3 + Q2.length * 3) (encL (tx (jn (bt pp) (bt en1)), (m : Int), en2)) = W7 at *
                  go_wp2
                  go_roundw
                  case rel => exact ⟨k2 + 1, sp1, _, by go_num, by omega, HQ7, HI7, HSX5, ⟨by simp, by simp; omega⟩, HO7⟩
                  case measure => simp [intOf]; omega
                case grow =>
                  intro hgr v' w' hown hgrow
                  have HQ7 : Hid (QR w' (fun q => w.heap.size ≤ q ∧ q ≠ wo.heap.size ∧ ¬ blk u2 q) v' (Q2 ++ [(tx (jn (bt pp) (bt en1)), (m : Int), en2)])) := by
                    refine QR.grow (w := (w5.alloc (.cells #[.string (tx (jn (bt pp) (bt en1))), .int .i64 (m : Int), .int .i64 en2] 81))) ?_ (fun q hq => ⟨by omega, by omega, fun h => by have := HBU.out q h; omega⟩)
                    rw [hz6]; exact hown
                  have hOg : Only (fun _ => False) (w5.alloc (.cells #[.string (tx (jn (bt pp) (bt en1))), .int .i64 (m : Int), .int .i64 en2] 81)) w' := (Only.of_grown hgrow).mono (fun _ _ e => by cases e)
                  have HI7 : Hid (I sp1 w') := HI6.out _ (hOg.mono (fun _ _ e => e.elim))
                  have HO7 : Hid (Only (fun q => (w.heap.size ≤ q ∧ q ≠ wo.heap.size ∧ ¬ blk u2 q) ∨ q = gs) w2 w') := HO6.out.trans (hOg.mono (fun _ _ h => h.elim))
                  clear HH3 HH4 HQ6 HI6 HO6 HNW HV5 HB3 HBU v0 v1 v2 hz6 hown hgrow hOg
                  go_wp2
                  go_roundw
                  case rel => exact ⟨k2 + 1, sp1, _, by go_num, by omega, HQ7, HI7, HSX5, ⟨by simp, by simp; omega⟩, HO7⟩
                  case measure => simp [intOf]; omega
end Go.Proofs.YthfgfhbinggpfaaDoor
