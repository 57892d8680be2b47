/- The walk of EufTrue; no statement of the seat is proved here. -/
import Derived.Test.YtlonnhnfmcndfacEufVaJTrue
import Derived.Test.YtlonnhnfmcndfacEufT2JTrue
import Derived.Deep.DeepCutAuto
namespace Go.Proofs.Ytlonnhnfmcndfac
open Go.RowKit
set_option linter.unusedVariables false
namespace Euf
/-- The first values are what the functions say. -/
def ValOk (d : Gd) (sd : List Int) (k : Nat) (vf : Nat → Nat) : Prop := ∀ i, i < k → vf i = valF sd (d.t.N i).1 ((d.t.N i).2.map vf)
theorem ValOk.push {d : Gd} {sd : List Int} {k : Nat} {vf : Nat → Nat} (h : ValOk d sd k vf) (hd : GSem d) (hk : k < d.t.nn) : ValOk d sd (k + 1) (upd vf k (valF sd (d.t.N k).1 ((d.t.N k).2.map vf))) := by
  have hm : ∀ i, i ≤ k → (d.t.N i).2.map (upd vf k (valF sd (d.t.N k).1 ((d.t.N k).2.map vf))) = (d.t.N i).2.map vf := fun i hi => List.map_congr_left fun b hb => by
    have := hd.ok.t.args i (by omega) b hb
    rw [upd_other _ _ (by omega)]
  intro i hi
  rw [hm i (by omega)]
  by_cases e : i = k
  · subst e; rw [upd_same]
  · rw [upd_other _ _ e]; exact h i (by omega)
theorem ValOk.le {d : Gd} {sd : List Int} {k : Nat} {vf : Nat → Nat} (h : ValOk d sd k vf) {i : Nat} (hi : i < k) : vf i ≤ 2 := by rw [h i hi]; exact valF_le _ _ _
theorem ValOk.cong {d : Gd} {sd : List Int} {vf : Nat → Nat} (h : ValOk d sd d.t.nn vf) (hE : ∀ q, q < d.f.ne → vf (d.f.E q).1 = vf (d.f.E q).2.1) {a b : Nat} (hc : Cong d.t.nn d.t.N (EqOf d.f) a b) : vf a = vf b := by
  refine hc.val (val := vf) ?_ (fun a b ha hb k1 k2 k3 => ?_)
  · rintro x y ⟨q, hq, rfl, rfl⟩
    exact hE q hq
  · rw [h a ha, h b hb, k1]
    congr 1
    refine List.ext_getElem (by simpa using k2) (fun j h1 h2 => ?_)
    have h1' : j < (d.t.N a).2.length := by simpa using h1
    have := k3 j h1'
    rw [List.getD_eq_getElem?_getD, List.getElem?_eq_getElem h1', List.getD_eq_getElem?_getD, List.getElem?_eq_getElem (k2 ▸ h1')] at this
    simpa using this
theorem Abs.fn2 {ops : List OpS} (h : ∀ i, (ops.getD i noOp).fn.size ≤ 140737488351232) {d : Gd} (hA : Abs d (playA ops)) {i : Nat} (hi : i < d.t.nn) : (d.t.N i).1.size ≤ 140737488351232 := by
  have hm : d.t.N i ∈ (playA ops).1 := (hA.mem _).2 ⟨i, hi, rfl⟩
  obtain ⟨j, h1, h2⟩ := playK_mem ops _ _ hm
  rw [h2]
  exact h j

set_option maxRecDepth 20000 in
set_option maxHeartbeats 16000000 in
theorem eufTrue_by (hplay : PlayLaw) (aS : Option Addr) (cS : Nat) (ops : List OpS) (aD : Option Addr) (cD : Nat) (sd : List Int) (w : World) (hS : Scr w aS ops) (hl : ops.length ≤ maxLen) (hD : SegZ w aD sd) (hdl : sd.length ≤ maxLen) (hfn : ∀ i, (ops.getD i noOp).fn.size ≤ 140737488351232) :
    Calls Try.prog 7 #[.slice aS ops.length cS, .slice aD sd.length cD] w fun e w' => e = .returned (.bool true) ∧ Below w.heap.size w w' := by
  have HPL : Hid PlayLaw := hplay
  have HS : Hid (Scr w aS ops ∧ ops.length ≤ maxLen) := ⟨hS, hl⟩
  have HSD : Hid (SegZ w aD sd ∧ sd.length ≤ maxLen) := ⟨hD, hdl⟩
  have HFN : Hid (∀ i, (ops.getD i noOp).fn.size ≤ 140737488351232) := hfn
  clear hplay hS hl hD hdl hfn
  go_enter Try.func7, Try.ntmps7
  go_wp2_with fail
  refine (awake_by HPL.out w).mono ?_
  rintro e w1 ⟨rfl, hb1⟩
  go_wp2_with fail
  refine (HPL.out aS cS ops w1 (HS.out.1.below hb1) HS.out.2).mono ?_
  rintro e w2 ⟨g, d, aN, aE, cN, cE, rg, rfl, hP, hA⟩
  have HB1 : Hid (Below w.heap.size w w1) := hb1
  have HD : Hid (d.t.nn ≤ 60 ∧ d.f.ne ≤ 60 ∧ GSem d ∧ (∀ i, i < d.t.nn → (d.t.N i).2.length ≤ 20) ∧ (∀ i, i < d.t.nn → (d.t.N i).1.size ≤ 140737488351232)) := ⟨hP.nn, hP.ne, hP.sem, hP.al, fun i hi => Abs.fn2 HFN.out hA hi⟩
  have hlw := hP.lw
  have hd6 : d.t.nn ≤ 60 := hP.nn
  have he6 : d.f.ne ≤ 60 := hP.ne
  clear hb1 HPL HS hA hP HFN
  obtain ⟨W2, hW2⟩ : ∃ W2, W2 = w2.alloc (.cells #[.slice aN d.t.nn cN, .slice aE d.f.ne cE] 28 (0, 0)) := ⟨_, rfl⟩
  obtain ⟨bW, hbW⟩ : ∃ bW, bW = w2.heap.size := ⟨_, rfl⟩
  rw [← hW2, ← hbW] at hlw
  have HLW : Hid (Lw w1 W2 g d d (.slice aN d.t.nn cN) (.slice aE d.f.ne cE) rg bW (.slice none 0 0) 0 (fun _ => 0)) := hlw
  clear hlw
  go_wp2
  rw [← hW2, ← hbW]
  clear hW2 hbW
  go_loopw [8, 9] (fun v8 v9 wr => ∃ (k : Nat) (vf : Nat → Nat), v9 = .int .i64 (k : Nat) ∧ k ≤ d.t.nn ∧ Hid (Lw w1 wr g d d (.slice aN d.t.nn cN) (.slice aE d.f.ne cE) rg bW v8 k vf ∧ ValOk d sd k vf)) (fun _ v _ => d.t.nn - (intOf v).toNat)
  case atStart => exact ⟨0, fun _ => 0, rfl, Nat.zero_le _, HLW.out, fun i hi => absurd hi (Nat.not_lt_zero _)⟩
  case round =>
    rename World => wl
    clear HLW
    obtain ⟨k, vf, rfl, hk, HR⟩ := hrel
    obtain ⟨aL, cL, hv, -, -, -, -⟩ := HR.out.1.list.shape
    subst hv
    obtain ⟨c0, c1, -, -⟩ := HR.out.1.bw.two
    have hlb := HR.out.1.bw.lt
    by_cases hlt : k < d.t.nn
    · have hltI : (k : Int) < (d.t.nn : Int) := by omega
      go_wp2_with fail
      refine (value_any d aN cN (.slice aE d.f.ne cE) rg aL cL vf k aD cD sd wl HR.out.1.r hlt HR.out.1.list (fun i hi => HR.out.2.le hi) (fun b hb => HD.out.2.2.1.ok.t.args k hlt b hb) (HD.out.2.2.2.1 k hlt) (HD.out.2.2.2.2 k hlt) (by omega) (HSD.out.1.below (HB1.out.trans (HR.out.1.bel.mono HB1.out.size))) HSD.out.2).mono ?_
      rintro e w3 ⟨rfl, hb3⟩
      have HR3 : Hid (Lw w1 w3 g d d (.slice aN d.t.nn cN) (.slice aE d.f.ne cE) rg bW (.slice aL k cL) k vf ∧ ValOk d sd (k + 1) (upd vf k (valF sd (d.t.N k).1 ((d.t.N k).2.map vf)))) := ⟨HR.out.1.below hb3, HR.out.2.push HD.out.2.2.1 hlt⟩
      generalize valF sd (d.t.N k).1 ((d.t.N k).2.map vf) = r at HR3 ⊢
      clear hb3 HR c0 c1 hlb
      go_wp2_with (at_builtin; refine Stop.of ?_)
      show wpList _ _ _ _ _ _
      have hol3 : OL 1 3 (w3.alloc (.cells #[.int .i64 (r : Nat)] 3 (0, 0))) (.slice aL k cL) k (fun i => [.int .i64 (vf i : Nat)]) := HR3.out.1.list.stay fun b hb => Below.heap_alloc w3 _ b (HR3.out.1.list.lt hb)
      refine wpList_push rfl (.tmp 31) (.tmp 37) 31 rfl 1 3 _ 8 uIntsE iIntE (by decide) rfl (by decide) (.slice aL k cL) k (fun i => [.int .i64 (vf i : Nat)]) rfl [.int .i64 (r : Nat)] 3 hol3 (fun _ _ => rfl) 1 rfl rfl (by intro u hu; simp at hu; subst hu; rfl) (by have := HD.out.1; omega) (fun i => [.int .i64 (upd vf k r i : Nat)]) (fun i hi => by rw [upd_other _ _ (by omega)]) (by rw [upd_same]) ?_
      intro v4 w4 hol4 hap4 hne4
      replace hap4 := hap4.of_alloc (fun b hb => HR3.out.1.list.lt hb)
      have HR4 : Hid (Lw w1 w4 g d d (.slice aN d.t.nn cN) (.slice aE d.f.ne cE) rg bW v4 (k + 1) (upd vf k r)) := HR3.out.1.push hap4 hol4
      clear hol3 hol4 hap4 hne4
      go_wp2
      go_roundw
      case rel => exact ⟨k + 1, upd vf k r, by go_num, by omega, HR4.out, HR3.out.2⟩
      case measure => simp [intOf]; omega
    · have hltI : ¬ ((k : Int) < (d.t.nn : Int)) := by omega
      obtain rfl : k = d.t.nn := by omega
      clear hk
      go_wp2
      clear c0 c1 hlb
      go_loopw [10] (fun v10 wr => ∃ (i : Nat), v10 = .int .i64 (i : Nat) ∧ i ≤ d.f.ne ∧ Hid (Lw w1 wr g d d (.slice aN d.t.nn cN) (.slice aE d.f.ne cE) rg bW (.slice aL d.t.nn cL) d.t.nn vf ∧ ∀ q, q < i → vf (d.f.E q).1 = vf (d.f.E q).2.1)) (fun v _ => d.f.ne - (intOf v).toNat)
      case atStart => exact ⟨0, rfl, Nat.zero_le _, HR.out.1, fun q hq => absurd hq (Nat.not_lt_zero _)⟩
      case round =>
        rename World => wm
        obtain ⟨i, rfl, hi, H3⟩ := hrel
        obtain ⟨c0, c1, -, -⟩ := H3.out.1.bw.two
        have hlb := H3.out.1.bw.lt
        by_cases hli : i < d.f.ne
        · have hliI : (i : Int) < (d.f.ne : Int) := by omega
          obtain ⟨bE, cE', hvE, -, -⟩ := H3.out.1.r.eqs.open i hli
          injection hvE with hvE e2 e3
          clear e2
          subst hvE e3
          have n0 := H3.out.1.r.eqs.cell (i := i) hli (j := 0) (by omega)
          have n1 := H3.out.1.r.eqs.cell (i := i) hli (j := 1) (by omega)
          simp only [eqP, Nat.add_zero, List.getElem?_cons_zero, List.getElem?_cons_succ] at n0 n1
          have hbE : bE < wm.heap.size := H3.out.1.r.eqs.lt rfl
          obtain ⟨xa, hxa⟩ : ∃ xa, xa = (d.f.E i).1 := ⟨_, rfl⟩
          obtain ⟨xb, hxb⟩ : ∃ xb, xb = (d.f.E i).2.1 := ⟨_, rfl⟩
          rw [← hxa] at n0
          rw [← hxb] at n1
          have he := HD.out.2.2.1.ok.f.eqs i hli
          rw [HD.out.2.2.1.ok.t.nw, ← hxa, ← hxb] at he
          have ha : xa < d.t.nn := he.1
          have hb : xb < d.t.nn := he.2.1
          have haI : (xa : Int) < (d.t.nn : Int) := by omega
          have hbI : (xb : Int) < (d.t.nn : Int) := by omega
          clear he
          obtain ⟨bL, cL', hvL, -, -⟩ := H3.out.1.list.open xa ha
          injection hvL with hvL e2 e3
          clear e2
          subst hvL e3
          have l0 := H3.out.1.list.cell (i := xa) ha (j := 0) (by omega)
          have l1 := H3.out.1.list.cell (i := xb) hb (j := 0) (by omega)
          simp only [Nat.add_zero, Nat.mul_one, List.getElem?_cons_zero] at l0 l1
          have hbL : bL < wm.heap.size := H3.out.1.list.lt rfl
          by_cases he : vf xa = vf xb
          · have HN : Hid (∀ q, q < i + 1 → vf (d.f.E q).1 = vf (d.f.E q).2.1) := fun q hq => by
              by_cases e : q = i
              · subst e; rw [← hxa, ← hxb]; exact he
              · exact H3.out.2 q (by omega)
            have heI : ((vf xa : Nat) : Int) = ((vf xb : Nat) : Int) := by omega
            clear hxa hxb
            go_wp2
            go_quiet (fail)
            go_wp2
            go_roundw
            case rel => exact ⟨i + 1, by go_num, by omega, H3.out.1.below ⟨rfl, rfl, rfl, Nat.le_refl _, fun _ _ => rfl⟩, HN.out⟩
            case measure => simp [intOf]; omega
          · have heI : ¬ (((vf xa : Nat) : Int) = ((vf xb : Nat) : Int)) := by omega
            have HBE : Hid (Below w.heap.size w wm) := HB1.out.trans (H3.out.1.bel.mono HB1.out.size)
            clear hxa hxb H3
            go_wp2
            go_quiet (fail)
            go_wp2
            go_ret
            exact ⟨rfl, HBE.out.trans ⟨rfl, rfl, rfl, Nat.le_refl _, fun _ _ => rfl⟩⟩
        · have hliI : ¬ ((i : Int) < (d.f.ne : Int)) := by omega
          obtain rfl : i = d.f.ne := by omega
          have HCG : Hid (∀ a b, Cong d.t.nn d.t.N (EqOf d.f) a b → vf a = vf b) := fun a b hc => HR.out.2.cong H3.out.2 hc
          clear HR hi
          go_wp2
          clear c0 c1 hlb
          go_loopw [11] (fun v11 wr => ∃ (i : Nat) (d' : Gd), v11 = .int .i64 (i : Nat) ∧ i ≤ d.t.nn ∧ Hid (Lw w1 wr g d' d (.slice aN d.t.nn cN) (.slice aE d.f.ne cE) rg bW (.slice aL d.t.nn cL) d.t.nn vf ∧ d'.t = d.t ∧ d'.f = d.f)) (fun v _ => d.t.nn - (intOf v).toNat)
          case atStart => exact ⟨0, d, rfl, Nat.zero_le _, H3.out.1, rfl, rfl⟩
          case round =>
            rename World => wn
            clear H3
            obtain ⟨i, d5, rfl, hi, H5⟩ := hrel
            obtain ⟨c0, c1, -, -⟩ := H5.out.1.bw.two
            have hlb := H5.out.1.bw.lt
            by_cases hli : i < d.t.nn
            · have hliI : (i : Int) < (d.t.nn : Int) := by omega
              go_wp2_with fail
              refine (Find_any g d5 i wn H5.out.1.gw H5.out.1.sem (by rw [H5.out.2.1]; exact hli) (by rw [H5.out.2.1]; omega) (by rw [H5.out.2.2]; omega)).mono ?_
              rintro e w7 ⟨y, s, r, rfl, hL, hr, hns, hG, hM, hF⟩
              rw [H5.out.2.1, H5.out.2.2] at hL
              have hrn : r < d.t.nn := hL.1
              have hri : r ≤ i := hL.le hli
              have HE : Hid (vf r = vf i) := HCG.out r i hL.2.1
              have H7 : Hid (Lw w1 w7 g (dR d5 d5.f.ne y s) d (.slice aN d.t.nn cN) (.slice aE d.f.ne cE) rg bW (.slice aL d.t.nn cL) d.t.nn vf ∧ (dR d5 d5.f.ne y s).t = d.t ∧ (dR d5 d5.f.ne y s).f = d.f) := ⟨H5.out.1.dR hr hG hM hF, H5.out.2⟩
              generalize dR d5 d5.f.ne y s = d7 at H7
              clear hL hr hns hG hM hF H5 c0 c1 hlb
              obtain ⟨bL, cL', hvL, -, -⟩ := H7.out.1.list.open i hli
              injection hvL with hvL e2 e3
              clear e2
              subst hvL e3
              have l0 := H7.out.1.list.cell (i := r) hrn (j := 0) (by omega)
              have l1 := H7.out.1.list.cell (i := i) hli (j := 0) (by omega)
              simp only [Nat.add_zero, Nat.mul_one, List.getElem?_cons_zero] at l0 l1
              rw [HE.out] at l0
              have hbL : bL < w7.heap.size := H7.out.1.list.lt rfl
              have h1 : ¬ ((r : Int) < 0) := by omega
              have h2 : ¬ ((i : Int) < (r : Int)) := by omega
              have h3 : ¬ (i < r) := by omega
              have h4 : (r : Int) < (d.t.nn : Int) := by omega
              go_wp2
              go_quiet (fail)
              go_wp2
              go_roundw
              case rel => exact ⟨i + 1, d7, by go_num, by omega, H7.out.1.below ⟨rfl, rfl, rfl, Nat.le_refl _, fun _ _ => rfl⟩, H7.out.2⟩
              case measure => simp [intOf]; omega
            · have hliI : ¬ ((i : Int) < (d.t.nn : Int)) := by omega
              have HBE : Hid (Below w.heap.size w wn) := HB1.out.trans (H5.out.1.bel.mono HB1.out.size)
              go_wp2
              go_ret
              exact ⟨rfl, HBE.out⟩
end Euf
end Go.Proofs.Ytlonnhnfmcndfac
