/- The walk of EufBack; no statement of the seat is proved here. -/
import Derived.Test.YtlonnhnfmcndfadEufGrJBack
import Derived.Test.YtlonnhnfmcndfadEufBkJBack
import Derived.Deep.DeepCutAuto
namespace Go.Proofs.Ytlonnhnfmcndfad
open Go.RowKit
set_option linter.unusedVariables false
namespace Euf
/-- Taken back. -/
theorem Lw.back {w0 wr : World} {g : Nat} {d d0 : Gd} {vN vE : Value} {rg : Nat → Value} {bW : Nat} {vL : Value} {k : Nat} {lf : Nat → Nat} (h : Lw w0 wr g d d0 vN vE rg bW vL k lf) {w' : World} {n : Nat} (hE : BackEnd g d n wr w') : ∃ d', Lw w0 w' g d' d0 vN vE rg bW vL k lf ∧ d'.t = d.t ∧ d'.f = { d.f with ne := n } := by
  obtain ⟨d', hG, hs, e1, e2, e3, hM, hF⟩ := hE
  refine ⟨d', h.mv hM (fun b hb => Or.inl hb) hG hs ?_, e1, e2⟩
  rintro b (hb | ⟨i, hi, hb⟩)
  · exact Or.inl (Or.inl (hF b hb))
  · rw [e3] at hb; rw [e1] at hi; exact Or.inl (Or.inr ⟨i, hi, hb⟩)
/-- The first equations are as they were. -/
def SameE (f f' : Fx) (k : Nat) : Prop := ∀ j, j < k → (f'.E j).1 = (f.E j).1 ∧ (f'.E j).2.1 = (f.E j).2.1
theorem SameE.eqOf {f f' : Fx} (h : SameE f f' f.ne) (hn : f'.ne = f.ne) : EqOf f' = EqOf f := by
  funext x y
  apply propext
  constructor
  · rintro ⟨k, hk, e1, e2⟩
    rw [hn] at hk
    exact ⟨k, hk, by rw [← (h k hk).1]; exact e1, by rw [← (h k hk).2]; exact e2⟩
  · rintro ⟨k, hk, e1, e2⟩
    exact ⟨k, by rw [hn]; exact hk, by rw [(h k hk).1]; exact e1, by rw [(h k hk).2]; exact e2⟩
theorem eq_lt {d : Gd} (h : GSem d) {k : Nat} (hk : k < d.f.ne) : (d.f.E k).1 < d.t.nn ∧ (d.f.E k).2.1 < d.t.nn := by
  have he := h.ok.f.eqs k hk
  rw [h.ok.t.nw] at he
  exact ⟨by omega, by omega⟩

set_option maxRecDepth 20000 in
set_option maxHeartbeats 16000000 in
theorem eufBack_by (hplay : PlayLaw) (aS : Option Addr) (cS : Nat) (ops : List OpS) (n : Int) (w : World) (hS : Scr w aS ops) (hl : ops.length ≤ maxLen) :
    Calls Try.prog 4 #[.slice aS ops.length cS, .int .i64 n] w fun e w' => e = .returned (.bool true) ∧ Below w.heap.size w w' := by
  have HPL : Hid PlayLaw := hplay
  have HS : Hid (Scr w aS ops ∧ ops.length ≤ maxLen) := ⟨hS, hl⟩
  clear hplay hS hl
  go_enter Try.func4, Try.ntmps4
  go_wp2_with fail
  refine (awake_by HPL.out w).mono ?_
  rintro e w1 ⟨rfl, hb1⟩
  go_wp2_with fail
  refine (HPL.out aS cS ops w1 (HS.out.1.below hb1) HS.out.2).mono ?_
  rintro e w2 ⟨g, d, aN, aE, cN, cE, rg, rfl, hP, hA⟩
  have HB1 : Hid (Below w.heap.size w w1) := hb1
  have HD : Hid (d.t.nn ≤ 60 ∧ d.f.ne ≤ 60 ∧ GSem d) := ⟨hP.nn, hP.ne, hP.sem⟩
  have hlw := hP.lw
  have hd6 : d.t.nn ≤ 60 := hP.nn
  have he6 : d.f.ne ≤ 60 := hP.ne
  clear hb1 HPL HS hA hP
  obtain ⟨W2, hW2⟩ : ∃ W2, W2 = w2.alloc (.cells #[.slice aN d.t.nn cN, .slice aE d.f.ne cE] 28 (0, 0)) := ⟨_, rfl⟩
  obtain ⟨bW, hbW⟩ : ∃ bW, bW = w2.heap.size := ⟨_, rfl⟩
  rw [← hW2, ← hbW] at hlw
  obtain ⟨c0, c1, -, -⟩ := hlw.bw.two
  have hlb := hlw.bw.lt
  have HLW : Hid (Lw w1 W2 g d d (.slice aN d.t.nn cN) (.slice aE d.f.ne cE) rg bW (.slice none 0 0) 0 (fun _ => 0)) := hlw
  clear hlw
  by_cases hr : n < 0 ∨ (d.f.ne : Int) < n
  · have HBK : Hid (∀ wq, Below W2.heap.size W2 wq → Calls Try.prog 13 #[.pointer (some ⟨g, 0, none⟩), .int .i64 n] wq fun e w' => e = .returned (.int .i64 1) ∧ Below W2.heap.size W2 w' ∧ w'.cell? ⟨bW, 1, none⟩ = some (.slice aE d.f.ne cE)) := fun wq hq => (Back_bad g d n wq (HLW.out.gw.below hq) hr).mono (by rintro e w9 ⟨rfl, hb9⟩; exact ⟨rfl, hq.trans (hb9.mono hq.size), ((HLW.out.below (hq.trans (hb9.mono hq.size))).bw.two).2.1⟩)
    have HEQ : Hid (∀ wq, Below W2.heap.size W2 wq → Calls Try.prog 14 #[.pointer (some ⟨g, 0, none⟩)] wq fun e w' => e = .returned (.int .i64 (d.f.ne : Nat)) ∧ Below W2.heap.size W2 w' ∧ w'.cell? ⟨bW, 1, none⟩ = some (.slice aE d.f.ne cE)) := fun wq hq => (Equations_any g d wq (HLW.out.gw.below hq)).mono (by rintro e w9 ⟨rfl, hb9⟩; exact ⟨rfl, hq.trans (hb9.mono hq.size), ((HLW.out.below (hq.trans (hb9.mono hq.size))).bw.two).2.1⟩)
    have HBE : Hid (∀ wq, Below W2.heap.size W2 wq → Below w.heap.size w wq) := fun wq hq => (HB1.out.trans (HLW.out.bel.mono HB1.out.size)).trans (hq.mono (HB1.out.trans (HLW.out.bel.mono HB1.out.size)).size)
    clear HLW HD
    by_cases h0 : n < 0
    · clear hr
      go_wp2
      rw [← hW2, ← hbW]
      clear hW2 hbW
      go_region_with (first | (go_at_call 13; refine (HBK.out _ ?_).mono ?_; go_grown; rintro e w7 ⟨rfl, hb7, k7⟩) | (go_at_call 14; refine (HEQ.out _ ?_).mono ?_; go_grown; rintro e w8 ⟨rfl, hb8, k8⟩))
      all_goals (go_wp2; go_ret; exact ⟨rfl, HBE.out _ hb8⟩)
    · replace hr := hr.resolve_left h0
      go_wp2
      rw [← hW2, ← hbW]
      clear hW2 hbW
      go_region_with (first | (go_at_call 13; refine (HBK.out _ ?_).mono ?_; go_grown; rintro e w7 ⟨rfl, hb7, k7⟩) | (go_at_call 14; refine (HEQ.out _ ?_).mono ?_; go_grown; rintro e w8 ⟨rfl, hb8, k8⟩))
      all_goals (go_wp2; go_ret; exact ⟨rfl, HBE.out _ hb8⟩)
  · obtain ⟨m, rfl⟩ : ∃ m : Nat, n = m := ⟨n.toNat, by omega⟩
    have hm : m ≤ d.f.ne := by omega
    have hm0 : ¬ ((m : Int) < 0) := by omega
    have hm1 : ¬ ((d.f.ne : Int) < (m : Int)) := by omega
    have hm4 : ¬ (d.f.ne < m) := by omega
    have hm2 : decide ((m : Int) < 0) = false := by simp
    have hm3 : decide (d.f.ne < m) = false := by simp; omega
    clear hr
    go_wp2
    rw [← hW2, ← hbW]
    clear hW2 hbW c0 c1 hlb
    go_loopw [8, 9] (fun v10 v11 wr => ∃ (k : Nat) (d' : Gd) (lf : Nat → Nat), v11 = .int .i64 (k : Nat) ∧ k ≤ d.t.nn ∧ Hid (Lw w1 wr g d' d (.slice aN d.t.nn cN) (.slice aE d.f.ne cE) rg bW v10 k lf ∧ d'.t = d.t ∧ d'.f = d.f ∧ WasL d k lf)) (fun _ v _ => d.t.nn - (intOf v).toNat)
    case atStart => exact ⟨0, d, fun _ => 0, rfl, Nat.zero_le _, HLW.out, rfl, rfl, fun i hi => absurd hi (Nat.not_lt_zero _)⟩
    case round =>
      rename World => wl
      clear HLW
      obtain ⟨k, d', lf, rfl, hk, HR⟩ := hrel
      have h := HR.out.1
      obtain ⟨aL, cL, hv, -, -, -, -⟩ := h.list.shape
      subst hv
      obtain ⟨c0, c1, -, -⟩ := h.bw.two
      have hlb := h.bw.lt
      clear h
      by_cases hlt : k < d.t.nn
      · have hltI : (k : Int) < (d.t.nn : Int) := by omega
        go_wp2_with fail
        refine (Find_any g d' k wl HR.out.1.gw HR.out.1.sem (by rw [HR.out.2.1]; exact hlt) (by rw [HR.out.2.1]; have := HD.out.1; omega) (by rw [HR.out.2.2.1]; have := HD.out.2.1; omega)).mono ?_
        rintro e w3 ⟨y, s, r, rfl, hL, hr, hns, hG, hM, hF⟩
        have HR3 : Hid (Lw w1 w3 g (dR d' d'.f.ne y s) d (.slice aN d.t.nn cN) (.slice aE d.f.ne cE) rg bW (.slice aL k cL) k lf ∧ (dR d' d'.f.ne y s).t = d.t ∧ (dR d' d'.f.ne y s).f = d.f ∧ WasL d (k + 1) (upd lf k r)) := by
          refine ⟨HR.out.1.dR hr hG hM hF, HR.out.2.1, HR.out.2.2.1, fun i hi => ?_⟩
          by_cases e : i = k
          · subst e; rw [upd_same]
            rw [HR.out.2.1, HR.out.2.2.1] at hL; exact hL
          · rw [upd_other _ _ e]; exact HR.out.2.2.2 i (by omega)
        generalize dR d' d'.f.ne y s = d3 at HR3
        clear hL hr hns hG hM hF HR c0 c1 hlb
        go_wp2_with (at_builtin; refine Stop.of ?_)
        show wpList _ _ _ _ _ _
        have hol3 : OL 1 3 (w3.alloc (.cells #[.int .i64 (r : Nat)] 3 (0, 0))) (.slice aL k cL) k (fun i => [.int .i64 (lf i : Nat)]) := HR3.out.1.list.stay fun b hb => Below.heap_alloc w3 _ b (HR3.out.1.list.lt hb)
        refine wpList_push rfl (.tmp 62) (.tmp 64) 35 rfl 1 3 _ 8 uIntsE iIntE (by decide) rfl (by decide) (.slice aL k cL) k (fun i => [.int .i64 (lf i : Nat)]) rfl [.int .i64 (r : Nat)] 3 hol3 (fun _ _ => rfl) 1 rfl rfl (by intro u hu; simp at hu; subst hu; rfl) (by have := HD.out.1; omega) (fun i => [.int .i64 (upd lf k r i : Nat)]) (fun i hi => by rw [upd_other _ _ (by omega)]) (by rw [upd_same]) ?_
        intro v4 w4 hol4 hap4 hne4
        replace hap4 := hap4.of_alloc (fun b hb => HR3.out.1.list.lt hb)
        have HR4 : Hid (Lw w1 w4 g d3 d (.slice aN d.t.nn cN) (.slice aE d.f.ne cE) rg bW v4 (k + 1) (upd lf k r)) := HR3.out.1.push hap4 hol4
        clear hol3 hol4 hap4 hne4
        go_wp2
        go_roundw
        case rel => exact ⟨k + 1, d3, upd lf k r, by go_num, by omega, HR4.out, HR3.out.2⟩
        case measure => simp [intOf]; omega
      · have hltI : ¬ ((k : Int) < (d.t.nn : Int)) := by omega
        obtain rfl : k = d.t.nn := by omega
        have HW : Hid (WasL d d.t.nn lf) := HR.out.2.2.2
        have HBK : Hid (∀ wq, Below wl.heap.size wl wq → Calls Try.prog 13 #[.pointer (some ⟨g, 0, none⟩), .int .i64 (m : Nat)] wq fun e w' => e = .returned (.int .i64 0) ∧ ∃ d2, Hid (Lw w1 w' g d2 d (.slice aN d.t.nn cN) (.slice aE d.f.ne cE) rg bW (.slice aL d.t.nn cL) d.t.nn lf ∧ d2.t = d.t ∧ d2.f = { d.f with ne := m }) ∧ w'.cell? ⟨bW, 0, none⟩ = some (.slice aN d.t.nn cN)) := by
          intro wq hq
          have h := HR.out.1.below hq
          refine (Back_any g d' m wq h.gw h.sem (by rw [HR.out.2.2.1]; exact hm)).mono ?_
          rintro e w' ⟨rfl, hE⟩
          obtain ⟨d2, q1, q2, q3⟩ := h.back hE
          exact ⟨rfl, d2, ⟨q1, q2.trans HR.out.2.1, by rw [q3, HR.out.2.2.1]⟩, q1.bw.two.1⟩
        have HEQ : Hid (∀ d2 wq, Hid (Lw w1 wq g d2 d (.slice aN d.t.nn cN) (.slice aE d.f.ne cE) rg bW (.slice aL d.t.nn cL) d.t.nn lf ∧ d2.t = d.t ∧ d2.f = { d.f with ne := m }) → Calls Try.prog 14 #[.pointer (some ⟨g, 0, none⟩)] wq fun e w' => e = .returned (.int .i64 (m : Nat)) ∧ Hid (Lw w1 w' g d2 d (.slice aN d.t.nn cN) (.slice aE d.f.ne cE) rg bW (.slice aL d.t.nn cL) d.t.nn lf ∧ d2.t = d.t ∧ d2.f = { d.f with ne := m }) ∧ w'.cell? ⟨bW, 0, none⟩ = some (.slice aN d.t.nn cN)) := by
          intro d2 wq h
          refine (Equations_any g d2 wq h.out.1.gw).mono ?_
          rintro e w' ⟨rfl, hb⟩
          have h9 := h.out.1.below hb
          exact ⟨by rw [h.out.2.2], ⟨h9, h.out.2⟩, h9.bw.two.1⟩
        have HLN : Hid (∀ d2 wq, Hid (Lw w1 wq g d2 d (.slice aN d.t.nn cN) (.slice aE d.f.ne cE) rg bW (.slice aL d.t.nn cL) d.t.nn lf ∧ d2.t = d.t ∧ d2.f = { d.f with ne := m }) → Calls Try.prog 15 #[.pointer (some ⟨g, 0, none⟩)] wq fun e w' => e = .returned (.int .i64 (d.t.nn : Nat)) ∧ Hid (Lw w1 w' g d2 d (.slice aN d.t.nn cN) (.slice aE d.f.ne cE) rg bW (.slice aL d.t.nn cL) d.t.nn lf ∧ d2.t = d.t ∧ d2.f = { d.f with ne := m }) ∧ w'.cell? ⟨bW, 0, none⟩ = some (.slice aN d.t.nn cN)) := by
          intro d2 wq h
          refine (Len_any g d2 wq h.out.1.gw (by rw [h.out.2.1]; omega)).mono ?_
          rintro e w' ⟨rfl, hb⟩
          have h9 := h.out.1.below hb
          exact ⟨by rw [h.out.2.1], ⟨h9, h.out.2⟩, h9.bw.two.1⟩
        clear HR
        go_wp2
        go_cut [83] (fun v83 wx => v83 = .bool false ∧ Hid (∃ d2, Lw w1 wx g d2 d (.slice aN d.t.nn cN) (.slice aE d.f.ne cE) rg bW (.slice aL d.t.nn cL) d.t.nn lf ∧ d2.t = d.t ∧ d2.f = { d.f with ne := m }))
        case first =>
          go_region_with (first | (go_at_call 13; refine (HBK.out _ ?_).mono ?_; go_grown; rintro e w7 ⟨rfl, d2, H7, k7⟩) | (go_at_call 14; refine (HEQ.out d2 w7 H7).mono ?_; rintro e w8 ⟨rfl, H8, k8⟩) | (go_at_call 15; refine (HLN.out d2 w8 H8).mono ?_; rintro e w9 ⟨rfl, H9, k9⟩))
          all_goals (go_wp2_with fail; go_meet; exact ⟨rfl, ⟨d2, H9.out⟩⟩)
        case rest =>
          obtain ⟨rfl, HX⟩ := hcut
          obtain ⟨d2, hX⟩ := HX.out
          have H2 : Hid (Lw w1 wc g d2 d (.slice aN d.t.nn cN) (.slice aE d.f.ne cE) rg bW (.slice aL d.t.nn cL) d.t.nn lf ∧ d2.t = d.t ∧ d2.f = { d.f with ne := m }) := hX
          clear HX hX HBK HEQ HLN c0 c1 hlb
          go_wp2
          go_loopw [12] (fun v12 wr => ∃ (k : Nat) (d' : Gd), v12 = .int .i64 (k : Nat) ∧ m ≤ k ∧ k ≤ d.f.ne ∧ Hid (Lw w1 wr g d' d (.slice aN d.t.nn cN) (.slice aE d.f.ne cE) rg bW (.slice aL d.t.nn cL) d.t.nn lf ∧ d'.t = d.t ∧ d'.f.ne = k ∧ SameE d.f d'.f k)) (fun v _ => d.f.ne - (intOf v).toNat)
          case atStart => exact ⟨m, d2, rfl, Nat.le_refl _, hm, H2.out.1, H2.out.2.1, by rw [H2.out.2.2], fun j hj => by rw [H2.out.2.2]; exact ⟨rfl, rfl⟩⟩
          case round =>
            rename World => wm
            clear H2
            obtain ⟨k, d3, rfl, hmk, hk2, H3⟩ := hrel
            obtain ⟨c0, c1, -, -⟩ := H3.out.1.bw.two
            have hlb := H3.out.1.bw.lt
            by_cases hlk : k < d.f.ne
            · have hlkI : (k : Int) < (d.f.ne : Int) := by omega
              obtain ⟨bE, cE', hvE, -, -⟩ := H3.out.1.r.eqs.open k hlk
              injection hvE with hvE e2 e3
              clear e2
              subst hvE e3
              have n0 := H3.out.1.r.eqs.cell (i := k) hlk (j := 0) (by omega)
              have n1 := H3.out.1.r.eqs.cell (i := k) hlk (j := 1) (by omega)
              simp only [eqP, Nat.add_zero, List.getElem?_cons_zero, List.getElem?_cons_succ] at n0 n1
              have hbE : bE < wm.heap.size := H3.out.1.r.eqs.lt rfl
              obtain ⟨xa, hxa⟩ : ∃ xa, xa = (d.f.E k).1 := ⟨_, rfl⟩
              obtain ⟨xb, hxb⟩ : ∃ xb, xb = (d.f.E k).2.1 := ⟨_, rfl⟩
              rw [← hxa] at n0
              rw [← hxb] at n1
              have HEL : Hid (∀ wq, Below wm.heap.size wm wq → Calls Try.prog 11 #[.pointer (some ⟨g, 0, none⟩), .int .i64 (xa : Nat), .int .i64 (xb : Nat)] wq fun e w' => e = .returned (.tuple #[.int .i64 (k : Nat), .int .i64 0]) ∧ Hid (∃ d', Lw w1 w' g d' d (.slice aN d.t.nn cN) (.slice (some ⟨bE, 0, none⟩) d.f.ne cE) rg bW (.slice aL d.t.nn cL) d.t.nn lf ∧ d'.t = d.t ∧ d'.f.ne = k + 1 ∧ SameE d.f d'.f (k + 1))) := by
                intro wq hq
                have h := H3.out.1.below hq
                have hl := eq_lt HD.out.2.2 hlk
                rw [← hxa, ← hxb] at hl
                have ha : xa < d3.t.nn := by rw [H3.out.2.1]; exact hl.1
                have hb : xb < d3.t.nn := by rw [H3.out.2.1]; exact hl.2
                refine (Equal_any g d3 xa xb wq h.gw ha hb (by rw [H3.out.2.1]; omega) (by rw [H3.out.2.2.1]; omega)).mono ?_
                rintro e w' ⟨rfl, v', hG, hM, hF⟩
                refine ⟨by rw [H3.out.2.2.1], ⟨_, h.mv hM (fun b hb => Or.inl hb) hG (dE_sem h.sem ha hb) (dE_fh hF), H3.out.2.1, by show d3.f.ne + 1 = _; rw [H3.out.2.2.1], fun j hj => ?_⟩⟩
                show (upd d3.f.E d3.f.ne (xa, xb, d3.f.np) j).1 = _ ∧ (upd d3.f.E d3.f.ne (xa, xb, d3.f.np) j).2.1 = _
                rw [H3.out.2.2.1]
                by_cases e : j = k
                · subst e; rw [upd_same]; exact ⟨hxa, hxb⟩
                · rw [upd_other _ _ e]; exact H3.out.2.2.2 j (by omega)
              clear H3 hxa hxb
              go_wp2
              go_cut [13, 14] (fun v13 v14 wx => v13 = .int .i64 (k : Nat) ∧ v14 = .int .i64 0 ∧ Hid (∃ d', Lw w1 wx g d' d (.slice aN d.t.nn cN) (.slice (some ⟨bE, 0, none⟩) d.f.ne cE) rg bW (.slice aL d.t.nn cL) d.t.nn lf ∧ d'.t = d.t ∧ d'.f.ne = k + 1 ∧ SameE d.f d'.f (k + 1)))
              case first =>
                go_region_with (go_at_call 11; refine (HEL.out _ ?_).mono ?_; go_grown; rintro e w7 ⟨rfl, H7⟩)
                all_goals (go_wp2_with fail; go_meet; exact ⟨rfl, rfl, H7⟩)
              case rest =>
                obtain ⟨rfl, rfl, H7⟩ := hcut
                obtain ⟨d7, h7⟩ := H7.out
                have H8 : Hid _ := h7
                clear h7 H7 c0 c1 n0 n1 hlb hbE
                go_wp2
                go_roundw
                case rel => exact ⟨k + 1, d7, by go_num, by omega, by omega, H8.out⟩
                case measure => simp [intOf]; omega
            · have hlkI : ¬ ((k : Int) < (d.f.ne : Int)) := by omega
              obtain rfl : k = d.f.ne := by omega
              clear hmk hk2
              go_wp2
              clear c0 c1 hlb
              go_loopw [15] (fun v15 wr => ∃ (j : Nat) (d' : Gd), v15 = .int .i64 (j : Nat) ∧ j ≤ d.t.nn ∧ Hid (Lw w1 wr g d' d (.slice aN d.t.nn cN) (.slice aE d.f.ne cE) rg bW (.slice aL d.t.nn cL) d.t.nn lf ∧ d'.t = d.t ∧ d'.f.ne = d.f.ne ∧ SameE d.f d'.f d.f.ne)) (fun v _ => d.t.nn - (intOf v).toNat)
              case atStart => exact ⟨0, d3, rfl, Nat.zero_le _, H3.out⟩
              case round =>
                rename World => wn
                clear H3
                obtain ⟨j, d5, rfl, hj, H5⟩ := hrel
                obtain ⟨c0, c1, -, -⟩ := H5.out.1.bw.two
                have hlb := H5.out.1.bw.lt
                by_cases hlj : j < d.t.nn
                · have hljI : (j : Int) < (d.t.nn : Int) := by omega
                  go_wp2_with fail
                  refine (Find_any g d5 j wn H5.out.1.gw H5.out.1.sem (by rw [H5.out.2.1]; exact hlj) (by rw [H5.out.2.1]; omega) (by rw [H5.out.2.2.1]; omega)).mono ?_
                  rintro e w7 ⟨y, s, r, rfl, hL, hr, hns, hG, hM, hF⟩
                  rw [H5.out.2.1, H5.out.2.2.2.eqOf H5.out.2.2.1] at hL
                  obtain rfl := hL.one (HW.out j hlj)
                  have H7 : Hid (Lw w1 w7 g (dR d5 d5.f.ne y s) d (.slice aN d.t.nn cN) (.slice aE d.f.ne cE) rg bW (.slice aL d.t.nn cL) d.t.nn lf ∧ (dR d5 d5.f.ne y s).t = d.t ∧ (dR d5 d5.f.ne y s).f.ne = d.f.ne ∧ SameE d.f (dR d5 d5.f.ne y s).f d.f.ne) := ⟨H5.out.1.dR hr hG hM hF, H5.out.2⟩
                  generalize dR d5 d5.f.ne y s = d7 at H7
                  clear hL hr hns hG hM hF H5 c0 c1 hlb
                  obtain ⟨bL, cL', hvL, -, -⟩ := H7.out.1.list.open j hlj
                  injection hvL with hvL e2 e3
                  clear e2
                  subst hvL e3
                  have n0 := H7.out.1.list.cell (i := j) hlj (j := 0) (by omega)
                  simp only [Nat.add_zero, Nat.mul_one, List.getElem?_cons_zero] at n0
                  have hbL : bL < w7.heap.size := H7.out.1.list.lt rfl
                  go_wp2
                  go_roundw
                  case rel => exact ⟨j + 1, d7, by go_num, by omega, H7.out⟩
                  case measure => simp [intOf]; omega
                · have hljI : ¬ ((j : Int) < (d.t.nn : Int)) := by omega
                  have HBE : Hid (Below w.heap.size w wn) := HB1.out.trans (H5.out.1.bel.mono HB1.out.size)
                  go_wp2
                  go_ret
                  exact ⟨rfl, HBE.out⟩
end Euf
end Go.Proofs.Ytlonnhnfmcndfad
