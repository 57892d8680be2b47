/- The page's example is awake; no statement of the seat is proved here. -/
import Derived.Test.YtmnpefiaelpkfacEufWbJClasses
import Derived.Test.YtmnpefiaelpkfacJoin6Classes
namespace Go.Proofs.Ytmnpefiaelpkfac
open Go.RowKit
set_option linter.unusedVariables false
namespace Euf
abbrev PlayLaw : Prop := ∀ (aS : Option Addr) (cS : Nat) (ops : List OpS) (w : World), Scr w aS ops → ops.length ≤ maxLen → Calls Try.prog 5 #[.slice aS ops.length cS] w fun e w' => PlayEnd w (playA ops) e w'
theorem GSem.same {d : Gd} (hs : GSem d) {y : Ly} {s : Sx} (hr : Run d.f d.m d.s d.f.ne s) (hn : s.ns = d.f.np) {a b : Nat} (ha : a < d.t.nn) (hb : b < d.t.nn) : (s.S (d.f.W a)).cls = (s.S (d.f.W b)).cls ↔ Cong d.t.nn d.t.N (EqOf d.f) a b := by
  obtain ⟨k1, k2⟩ := hr.ok hs.ok.f hs.ok.cl hs.ok.inv
  have h9 : GSem (dR d d.f.ne y s) := dR_sem hs hr
  exact same_iff hs.ok.t hs.ok.f h9.sem k2 hn ha hb

set_option maxRecDepth 20000 in
set_option maxHeartbeats 16000000 in
theorem awake_by (hplay : PlayLaw) (w : World) : Calls Try.prog 4 #[] w fun e w' => e = .returned (.bool true) ∧ Below w.heap.size w w' := by
  have HPL : Hid PlayLaw := hplay
  clear hplay
  obtain ⟨W4, hW4, hS, hb4⟩ := aw_laid w
  unfold awC at hW4
  go_enter Try.func4, Try.ntmps4
  go_wp2_with fail
  rw [← hW4]
  clear hW4
  refine (HPL.out _ 6 awOps W4 hS (by decide)).mono ?_
  rw [aw_play]
  rintro e w1 ⟨g, d, aN, aE, cN, cE, rg, rfl, hP, hA⟩
  obtain ⟨e1, e2, -, -, -, -, -⟩ := aw_n hA
  have HP : Hid (Ply W4 w1 g d (.slice aN d.t.nn cN) (.slice aE d.f.ne cE) rg 60) := hP
  have HA : Hid (Abs d awA ∧ d.t.nn = 4 ∧ d.f.ne = 2 ∧ Below w.heap.size w W4) := ⟨hA, e1, e2, hb4⟩
  rw [e1, e2]
  clear hP hA hS hb4 e1 e2
  obtain ⟨W2, hW2⟩ : ∃ W2, W2 = w1.alloc (.cells #[.slice aN 4 cN, .slice aE 2 cE] 28 (0, 0)) := ⟨_, rfl⟩
  have hb2 : Below w1.heap.size w1 W2 := by rw [hW2]; go_grown
  go_wp2_with fail
  rw [← hW2]
  clear hW2
  have hG := HP.out.gw.below hb2
  refine (Same_any g d 0 1 W2 hG HP.out.sem.ok (by rw [HA.out.2.1]; omega) (by rw [HA.out.2.1]; omega) (by rw [HA.out.2.1]; omega) (by rw [HA.out.2.2.1]; omega)).mono ?_
  rintro e w3 ⟨y, s, rfl, hr, hns, hG3, hM3, hf3⟩
  have hsame : (s.S (d.f.W 0)).cls = (s.S (d.f.W 1)).cls := (HP.out.sem.same (y := y) hr hns (by rw [HA.out.2.1]; omega) (by rw [HA.out.2.1]; omega)).2 (aw_same HA.out.1)
  rw [decide_eq_true hsame]
  have HD : Hid (GSem (dR d d.f.ne y s) ∧ Abs (dR d d.f.ne y s) awA ∧ GW w3 g (dR d d.f.ne y s) ∧ Below w.heap.size w w3 ∧ ∀ b, Fh g (dR d d.f.ne y s) b → w.heap.size ≤ b) := by
    have hfg : ∀ b, Fg g d b → w.heap.size ≤ b := fun b hb => Nat.le_trans HA.out.2.2.2.size (HP.out.fh b (Or.inl hb))
    have hbl : Below w.heap.size w W2 := HA.out.2.2.2.trans ((HP.out.bel.mono HA.out.2.2.2.size).trans (hb2.mono (Nat.le_trans HA.out.2.2.2.size HP.out.bel.size)))
    refine ⟨dR_sem HP.out.sem hr, ⟨HA.out.1.nn, HA.out.1.N, HA.out.1.ne, HA.out.1.E⟩, hG3, hbl.trans (hM3.toBelow hbl.size hfg), ?_⟩
    rintro b (hb | hb)
    · rcases hf3 b hb with h9 | h9
      · exact hfg b h9
      · exact Nat.le_trans hbl.size h9
    · exact Nat.le_trans HA.out.2.2.2.size (HP.out.fh b (Or.inr hb))
  have HN : Hid (1 < (dR d d.f.ne y s).t.nn ∧ (dR d d.f.ne y s).t.nn ≤ 10000 ∧ (dR d d.f.ne y s).f.ne ≤ 10000) := ⟨by show 1 < d.t.nn; rw [HA.out.2.1]; omega, by show d.t.nn ≤ _; rw [HA.out.2.1]; omega, by show d.f.ne ≤ _; rw [HA.out.2.2.1]; omega⟩
  clear hG hr hns hG3 hM3 hf3 hsame hb2 HP HA HPL
  generalize dR d d.f.ne y s = D at HD HN
  go_wp2_with fail
  refine (Explain_any g D 1 0 w3 HD.out.2.2.1 HD.out.1 HN.out.1 (by have := HN.out.1; omega) HN.out.2.1 HN.out.2.2).mono ?_
  rintro e w5 ⟨y5, s5, hr5, hns5, hG5, hM5, hf5, hcase⟩
  have hsame : (s5.S (D.f.W 1)).cls = (s5.S (D.f.W 0)).cls := (HD.out.1.same (y := y5) hr5 hns5 HN.out.1 (by have := HN.out.1; omega)).2 (aw_same HD.out.2.1).symm
  rcases hcase with ⟨hne, -⟩ | ⟨-, v, l, rfl, ht, hol, -⟩
  · exact absurd hsame hne
  · have hl := aw_told HD.out.2.1 ht
    obtain ⟨av, cv, rfl, -, -, -, -⟩ := hol.shape
    rw [hl]
    have HB : Hid (Below w.heap.size w w5) := HD.out.2.2.2.1.trans (hM5.toBelow HD.out.2.2.2.1.size (fun b hb => HD.out.2.2.2.2 b (Or.inl hb)))
    clear hr5 hns5 hG5 hM5 hf5 hsame ht hol hl
    go_wp2
    go_ret
    exact ⟨rfl, HB.out⟩
end Euf
end Go.Proofs.Ytmnpefiaelpkfac
