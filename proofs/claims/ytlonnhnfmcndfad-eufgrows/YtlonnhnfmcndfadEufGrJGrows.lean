/- The walk of EufGrows; no statement of the seat is proved here. -/
import Derived.Test.YtlonnhnfmcndfadEufGaJGrows
import Derived.Test.YtlonnhnfmcndfadEufWaJGrows
namespace Go.Proofs.Ytlonnhnfmcndfad
open Go.RowKit
set_option linter.unusedVariables false
namespace Euf
theorem OpOk.below {w w' : World} {o : OpS} {aZ : Option Addr} {cZ : Nat} (h : OpOk w o aZ cZ) (hb : Below w.heap.size w w') : OpOk w' o aZ cZ := { h with zs := h.zs.below hb, blk := (by intros; exact Nat.lt_of_lt_of_le (by first | exact h.blk _ _ (by assumption) | exact h.blk (by assumption) _ _ (by assumption)) hb.size) }
theorem Scr.below {w w' : World} {aS : Option Addr} {ops : List OpS} (h : Scr w aS ops) (hb : Below w.heap.size w w') : Scr w' aS ops := by
  refine ⟨fun i hi => ?_⟩
  obtain ⟨b, off, aZ, cZ, e, hlt, m0, m1, m2, m3, m4, hok⟩ := h.at_ i hi
  exact ⟨b, off, aZ, cZ, e, Nat.lt_of_lt_of_le hlt hb.size, (hb.cell (p := ⟨b, off + i * 5, none⟩) hlt).trans m0, (hb.cell (p := ⟨b, off + i * 5 + 1, none⟩) hlt).trans m1, (hb.cell (p := ⟨b, off + i * 5 + 2, none⟩) hlt).trans m2, (hb.cell (p := ⟨b, off + i * 5 + 3, none⟩) hlt).trans m3, (hb.cell (p := ⟨b, off + i * 5 + 4, none⟩) hlt).trans m4, fun h20 => (hok h20).below hb⟩
abbrev WasL (d : Gd) (k : Nat) (lf : Nat → Nat) : Prop := ∀ i, i < k → Least d.t.nn d.t.N (EqOf d.f) i (lf i)

set_option maxRecDepth 20000 in
set_option maxHeartbeats 16000000 in
theorem eufGrows_by (hplay : PlayLaw) (aS : Option Addr) (cS : Nat) (ops : List OpS) (a b : Int) (w : World) (hS : Scr w aS ops) (hl : ops.length ≤ maxLen) :
    Calls Try.prog 5 #[.slice aS ops.length cS, .int .i64 a, .int .i64 b] w fun e w' => e = .returned (.bool true) ∧ Below w.heap.size w w' := by
  have HPL : Hid PlayLaw := hplay
  have HS : Hid (Scr w aS ops ∧ ops.length ≤ maxLen) := ⟨hS, hl⟩
  clear hplay hS hl
  go_enter Try.func5, Try.ntmps5
  go_wp2_with fail
  refine (awake_by HPL.out w).mono ?_
  rintro e w1 ⟨rfl, hb1⟩
  go_wp2_with fail
  refine (HPL.out aS cS ops w1 (HS.out.1.below hb1) HS.out.2).mono ?_
  rintro e w2 ⟨g, d, aN, aE, cN, cE, rg, rfl, hP, hA⟩
  have HB1 : Hid (Below w.heap.size w w1) := hb1
  have HD : Hid (d.t.nn ≤ 60 ∧ d.f.ne ≤ 60 ∧ d.f.np ≤ 1260) := ⟨hP.nn, hP.ne, hP.np⟩
  have hlw := hP.lw
  have hd6 : d.t.nn ≤ 60 := hP.nn
  clear hb1 HPL HS hA hP
  obtain ⟨W2, hW2⟩ : ∃ W2, W2 = w2.alloc (.cells #[.slice aN d.t.nn cN, .slice aE d.f.ne cE] 28 (0, 0)) := ⟨_, rfl⟩
  rw [← hW2] at hlw
  obtain ⟨c0, c1, -, -⟩ := hlw.bw.two
  have hlb := hlw.bw.lt
  have HLW : Hid (Lw w1 W2 g d d (.slice aN d.t.nn cN) (.slice aE d.f.ne cE) rg w2.heap.size (.slice none 0 0) 0 (fun _ => 0)) := hlw
  clear hlw
  by_cases hz : d.t.nn = 0
  · rw [hz] at c0 ⊢
    have HBE : Hid (Below w.heap.size w W2) := HB1.out.trans (HLW.out.bel.mono HB1.out.size)
    clear HLW HD
    rw [hz] at hW2
    go_wp2
    rw [← hW2]
    go_ret
    exact ⟨rfl, HBE.out⟩
  · have hz0 : ¬ ((d.t.nn : Int) = 0) := by omega
    have hz1 : ((d.t.nn : Int) == 0) = false := by simp; omega
    go_wp2
    rw [← hW2]
    clear hW2
    obtain ⟨bW, hbW⟩ : ∃ bW, bW = w2.heap.size := ⟨_, rfl⟩
    rw [← hbW] at HLW c0 c1 hlb ⊢
    clear hbW
    clear c0 c1 hlb
    go_loopw [10, 11] (fun v10 v11 wr => ∃ (k : Nat) (d' : Gd) (lf : Nat → Nat), v11 = .int .i64 (k : Nat) ∧ k ≤ d.t.nn ∧ Hid (Lw w1 wr g d' d (.slice aN d.t.nn cN) (.slice aE d.f.ne cE) rg bW v10 k lf ∧ d'.t = d.t ∧ d'.f = d.f ∧ WasL d k lf)) (fun _ v _ => d.t.nn - (intOf v).toNat)
    case atStart => exact ⟨0, d, fun _ => 0, rfl, Nat.zero_le _, HLW.out, rfl, rfl, fun i hi => absurd hi (Nat.not_lt_zero _)⟩
    case round =>
      rename World => wl
      clear HLW
      obtain ⟨k, d', lf, rfl, hk, HR⟩ := hrel
      have h := HR.out.1
      obtain ⟨aL, cL, hv, -, -, -, -⟩ := h.list.shape
      subst hv
      obtain ⟨c0, c1, -, -⟩ := h.bw.two
      have hlb := h.bw.lt
      clear h
      by_cases hlt : k < d.t.nn
      · have hltI : (k : Int) < (d.t.nn : Int) := by omega
        go_wp2_with fail
        refine (Find_any g d' k wl HR.out.1.gw HR.out.1.sem (by rw [HR.out.2.1]; exact hlt) (by rw [HR.out.2.1]; have := HD.out.1; omega) (by rw [HR.out.2.2.1]; have := HD.out.2.1; omega)).mono ?_
        rintro e w3 ⟨y, s, r, rfl, hL, hr, hns, hG, hM, hF⟩
        have HR3 : Hid (Lw w1 w3 g (dR d' d'.f.ne y s) d (.slice aN d.t.nn cN) (.slice aE d.f.ne cE) rg bW (.slice aL k cL) k lf ∧ (dR d' d'.f.ne y s).t = d.t ∧ (dR d' d'.f.ne y s).f = d.f ∧ WasL d (k + 1) (upd lf k r)) := by
          refine ⟨HR.out.1.dR hr hG hM hF, HR.out.2.1, HR.out.2.2.1, fun i hi => ?_⟩
          by_cases e : i = k
          · subst e; rw [upd_same]
            rw [HR.out.2.1, HR.out.2.2.1] at hL; exact hL
          · rw [upd_other _ _ e]; exact HR.out.2.2.2 i (by omega)
        generalize dR d' d'.f.ne y s = d3 at HR3
        clear hL hr hns hG hM hF HR c0 c1 hlb
        go_wp2_with (at_builtin; refine Stop.of ?_)
        show wpList _ _ _ _ _ _
        have hol3 : OL 1 3 (w3.alloc (.cells #[.int .i64 (r : Nat)] 3 (0, 0))) (.slice aL k cL) k (fun i => [.int .i64 (lf i : Nat)]) := HR3.out.1.list.stay fun b hb => Below.heap_alloc w3 _ b (HR3.out.1.list.lt hb)
        refine wpList_push rfl (.tmp 48) (.tmp 50) 35 rfl 1 3 _ 8 uIntsE iIntE (by decide) rfl (by decide) (.slice aL k cL) k (fun i => [.int .i64 (lf i : Nat)]) rfl [.int .i64 (r : Nat)] 3 hol3 (fun _ _ => rfl) 1 rfl rfl (by intro u hu; simp at hu; subst hu; rfl) (by have := HD.out.1; omega) (fun i => [.int .i64 (upd lf k r i : Nat)]) (fun i hi => by rw [upd_other _ _ (by omega)]) (by rw [upd_same]) ?_
        intro v4 w4 hol4 hap4 hne4
        replace hap4 := hap4.of_alloc (fun b hb => HR3.out.1.list.lt hb)
        have HR4 : Hid (Lw w1 w4 g d3 d (.slice aN d.t.nn cN) (.slice aE d.f.ne cE) rg bW v4 (k + 1) (upd lf k r)) := HR3.out.1.push hap4 hol4
        clear hol3 hol4 hap4 hne4
        go_wp2
        go_roundw
        case rel => exact ⟨k + 1, d3, upd lf k r, by go_num, by omega, HR4.out, HR3.out.2⟩
        case measure => simp [intOf]; omega
      · have hltI : ¬ ((k : Int) < (d.t.nn : Int)) := by omega
        obtain rfl : k = d.t.nn := by omega
        go_wp2_with fail
        refine (equal_lw HR.out.1 a b (by rw [HR.out.2.1]; have := HD.out.1; omega) (by rw [HR.out.2.2.1]; have := HD.out.2.1; omega)).mono ?_
        rintro e w3 ⟨v3, d3, rfl, h3, t3, e3, n3, p3⟩
        have HR3 : Hid (Lw w1 w3 g d3 d (.slice aN d.t.nn cN) (.slice aE d.f.ne cE) rg bW (.slice aL d.t.nn cL) d.t.nn lf ∧ d3.t = d.t ∧ (∀ x y, EqOf d.f x y → EqOf d3.f x y) ∧ d3.f.ne ≤ 61 ∧ d3.f.np ≤ 1260 ∧ WasL d d.t.nn lf) := by
          refine ⟨h3, t3.trans HR.out.2.1, fun x y hxy => e3 x y (by rw [HR.out.2.2.1]; exact hxy), ?_, ?_, HR.out.2.2.2⟩
          · have := n3; rw [HR.out.2.2.1] at this; have := HD.out.2.1; omega
          · rw [p3, HR.out.2.2.1]; exact HD.out.2.2
        clear h3 t3 e3 n3 p3 HR c0 c1 hlb
        go_wp2_with fail
        refine (node_lw HR3.out.1 (by rw [HR3.out.2.1]; omega) (by rw [HR3.out.2.1]; have := HD.out.1; omega) (by have := HR3.out.2.2.2.2.1; omega) rfl).mono ?_
        rintro e w4 ⟨v4, d4, rfl, h4, l4, u4, n4, e4, q4⟩
        rw [HR3.out.2.1] at l4 u4 n4
        have HR4 : Hid (Lw w1 w4 g d4 d (.slice aN d.t.nn cN) (.slice aE d.f.ne cE) rg bW (.slice aL d.t.nn cL) d.t.nn lf ∧ d.t.nn ≤ d4.t.nn ∧ d4.t.nn ≤ 61 ∧ d4.f.ne ≤ 61 ∧ ∀ i k, i < d.t.nn → k < d.t.nn → lf i = lf k → Cong d4.t.nn d4.t.N (EqOf d4.f) i k) := by
          refine ⟨h4, l4, by have := HD.out.1; omega, by rw [q4]; exact HR3.out.2.2.2.1, fun i k hi hk he => ?_⟩
          exact Cong.more l4 n4 (fun x y hxy => e4 x y (HR3.out.2.2.1 x y hxy)) (((HR3.out.2.2.2.2.2 i hi).same (HR3.out.2.2.2.2.2 k hk)).1 he)
        clear h4 l4 u4 n4 e4 q4 HR3
        go_wp2
        go_loopw [14] (fun v14 wr => ∃ (i : Nat) (d' : Gd), v14 = .int .i64 (i : Nat) ∧ i ≤ d.t.nn ∧ Hid (Lw w1 wr g d' d (.slice aN d.t.nn cN) (.slice aE d.f.ne cE) rg bW (.slice aL d.t.nn cL) d.t.nn lf ∧ d'.t = d4.t ∧ d'.f = d4.f)) (fun v _ => d.t.nn - (intOf v).toNat)
        case atStart => exact ⟨0, d4, rfl, Nat.zero_le _, HR4.out.1, rfl, rfl⟩
        case round =>
          rename World => wm
          obtain ⟨i, d5, rfl, hi, H5⟩ := hrel
          by_cases hli : i < d.t.nn
          · have hliI : (i : Int) < (d.t.nn : Int) := by omega
            go_wp2
            go_loopw [15] (fun v15 wr => ∃ (j : Nat) (d' : Gd), v15 = .int .i64 (j : Nat) ∧ j ≤ i ∧ Hid (Lw w1 wr g d' d (.slice aN d.t.nn cN) (.slice aE d.f.ne cE) rg bW (.slice aL d.t.nn cL) d.t.nn lf ∧ d'.t = d4.t ∧ d'.f = d4.f)) (fun v _ => i - (intOf v).toNat)
            case atStart => exact ⟨0, d5, rfl, Nat.zero_le _, H5.out⟩
            case round =>
              rename World => wn
              clear H5
              obtain ⟨j, d6, rfl, hj, H6⟩ := hrel
              by_cases hlj : j < i
              · have hljI : (j : Int) < (i : Int) := by omega
                have hljn : (j : Int) < (d.t.nn : Int) := by omega
                go_wp2_with fail
                refine (Same_any g d6 i j wn H6.out.1.gw H6.out.1.sem.ok (by rw [H6.out.2.1]; have := HR4.out.2.1; omega) (by rw [H6.out.2.1]; have := HR4.out.2.1; omega) (by rw [H6.out.2.1]; have := HR4.out.2.2.1; omega) (by rw [H6.out.2.2]; have := HR4.out.2.2.2.1; omega)).mono ?_
                rintro e w7 ⟨y, s, rfl, hr, hns, hG, hM, hF⟩
                have H7 : Hid (Lw w1 w7 g (dR d6 d6.f.ne y s) d (.slice aN d.t.nn cN) (.slice aE d.f.ne cE) rg bW (.slice aL d.t.nn cL) d.t.nn lf ∧ (dR d6 d6.f.ne y s).t = d4.t ∧ (dR d6 d6.f.ne y s).f = d4.f) := ⟨H6.out.1.dR hr hG hM hF, H6.out.2.1, H6.out.2.2⟩
                have hsame : lf i = lf j → (s.S (d6.f.W i)).cls = (s.S (d6.f.W j)).cls := fun he => (H6.out.1.sem.same (y := y) hr hns (by rw [H6.out.2.1]; have := HR4.out.2.1; omega) (by rw [H6.out.2.1]; have := HR4.out.2.1; omega)).2 (by rw [H6.out.2.1, H6.out.2.2]; exact HR4.out.2.2.2.2 i j hli (by omega) he)
                have HIS : Hid (lf i = lf j → decide ((s.S (d6.f.W i)).cls = (s.S (d6.f.W j)).cls) = true) := fun he => decide_eq_true (hsame he)
                generalize decide ((s.S (d6.f.W i)).cls = (s.S (d6.f.W j)).cls) = is at HIS ⊢
                generalize dR d6 d6.f.ne y s = d7 at H7
                clear hr hns hG hM hF hsame H6
                obtain ⟨bL, cL', hvL, -, hblk⟩ := H7.out.1.list.open i hli
                injection hvL with hvL e2 e3
                clear e2
                subst hvL e3
                have n0 := H7.out.1.list.cell (i := i) hli (j := 0) (by omega)
                have n1 := H7.out.1.list.cell (i := j) (by omega) (j := 0) (by omega)
                simp only [Nat.add_zero, Nat.mul_one, List.getElem?_cons_zero] at n0 n1
                have hbL : bL < w7.heap.size := H7.out.1.list.lt rfl
                by_cases he : lf i = lf j
                · rw [HIS.out he]
                  have heI : ((lf i : Nat) : Int) = ((lf j : Nat) : Int) := by omega
                  go_wp2
                  go_quiet (fail)
                  go_wp2
                  go_roundw
                  case rel => exact ⟨j + 1, d7, by go_num, by omega, H7.out.1.below ⟨rfl, rfl, rfl, Nat.le_refl _, fun _ _ => rfl⟩, H7.out.2⟩
                  case measure => simp [intOf]; omega
                · have heI : ¬ (((lf i : Nat) : Int) = ((lf j : Nat) : Int)) := by omega
                  have heB : (((lf i : Nat) : Int) == ((lf j : Nat) : Int)) = false := by simp; omega
                  clear HIS
                  go_wp2
                  go_quiet (fail)
                  go_wp2
                  go_roundw
                  case rel => exact ⟨j + 1, d7, by go_num, by omega, H7.out.1.below ⟨rfl, rfl, rfl, Nat.le_refl _, fun _ _ => rfl⟩, H7.out.2⟩
                  case measure => simp [intOf]; omega
              · have hljI : ¬ ((j : Int) < (i : Int)) := by omega
                go_wp2
                go_roundw
                case rel => exact ⟨i + 1, d6, by go_num, by omega, H6.out⟩
                case measure => simp [intOf]; omega
          · have hliI : ¬ ((i : Int) < (d.t.nn : Int)) := by omega
            have HBE : Hid (Below w.heap.size w wm) := HB1.out.trans (H5.out.1.bel.mono HB1.out.size)
            go_wp2
            go_ret
            exact ⟨rfl, HBE.out⟩
end Euf
end Go.Proofs.Ytlonnhnfmcndfad
