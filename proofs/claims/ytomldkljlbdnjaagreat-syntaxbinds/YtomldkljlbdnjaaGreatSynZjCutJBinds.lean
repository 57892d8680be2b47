/- Methods of the reader: program. No statement of the seat is proved here. -/
import Derived.Test.YtomldkljlbdnjaaGreatJoin12Binds
import Derived.Test.YtomldkljlbdnjaaGreatJoin11Binds
import Derived.Deep.QuietTactic
import Derived.BigQuiet
namespace Go.Proofs.YtomldkljlbdnjaaGreat
open Go.RowKit
set_option linter.unusedVariables false
set_option linter.unusedSimpArgs false
namespace Syn
open Euf (OL App Stop)
open Lex (T TL tx bs tkC FV IsNm hide)
set_option maxRecDepth 4000 in
set_option maxHeartbeats 2000000 in
theorem program_sp (en g lo N : Nat) (hclass : ∀ m, m ≤ N → Sp 56 ShK .class_ en g lo m) (hblock : ∀ m, m ≤ N → Sp 57 (ShL 2) .block en g lo m) : Sp 26 ShR .program en g lo (N + 1) := by
  intro w dp st h hne
  have hgl := h.gl
  have hlw := h.lw
  have hgw := h.lt
  have HQ0 := hide h
  clear h
  obtain ⟨R, hRR⟩ : ∃ R, R = P en (N + 1) .program dp st := ⟨_, rfl⟩
  rw [← hRR] at hne ⊢
  simp only [P, wantP, nameP] at hRR
  obtain ⟨KK, hKK, hRR2⟩ : ∃ KK : List V → List T → Res, KK = (fun cs st2 => (P en N .block dp st2).to fun b st3 => if st3 = [] then .ok [.l 7 (gL cs 0), .l 2 (gL b 0)] st3 else .bad 110 (hd en st3).a) ∧ R = (P en N (.classes []) dp st).to KK := ⟨_, rfl, hRR⟩
  clear hRR
  have hRR := hRR2
  clear hRR2
  have HKK := hide hKK
  clear hKK
  have HRR := hide hRR
  clear hRR
  go_enter Tryz.func26, Tryz.ntmps26
  go_wp2
  go_loopg [5] N (fun gk sl wl => ∃ (rows0 : List (List V)) (q0L : Option Addr) (n0L c0L : Nat) (C0L : Nat → List Value) (stk : List T), gk ≤ N ∧ Hid (R = (P en gk (.classes rows0) dp stk).to KK ∧ n0L = rows0.length ∧ rows0.length + stk.length ≤ 300000 ∧ LF wl (fun b => (w.heap.size + 2 ≤ b)) 7 (.slice q0L n0L c0L) rows0 C0L ∧ Q wl g lo en dp stk ∧ Sat.Mv (fun b => b = g ∨ b = w.heap.size ∨ b = (w.heap.size + 1) ∨ (w.heap.size + 2 ≤ b)) w wl ∧ Blk 26 wl (w.heap.size) #[.slice none 0 0, .slice none 0 0] ∧ Blk 26 wl (w.heap.size + 1) #[.slice q0L n0L c0L, .slice none 0 0]))
  case atStart => exact ⟨[], none, 0, 0, (fun _ => []), st, Nat.le_refl _, ⟨HRR.out, rfl, (by have := HQ0.out.few; simp; omega), LF.nil _ _ 7, HQ0.out.mv (G := fun b => b = w.heap.size ∨ b = (w.heap.size + 1)) (show Sat.Mv (fun b => b = w.heap.size ∨ b = (w.heap.size + 1)) w _ from (by (repeat' (first | with_reducible exact Sat.Mv.refl _ _ | with_reducible refine Sat.Mv.alloc ?_ _ | with_reducible refine Sat.Mv.drew ?_ | with_reducible refine Sat.Mv.drewN ?_ _ | with_reducible refine Sat.Mv.set ?_ ?_ _)) <;> (first | exact Or.inl (Or.inl rfl) | exact Or.inl (Or.inr rfl) | exact Or.inl rfl | (refine Or.inr ?_; (try simp); omega) | (refine Or.inl ?_; (try simp); omega)))) (fun b hb => by have hb : b = w.heap.size ∨ b = (w.heap.size + 1) := hb; omega), (Mv.wide (G := fun b => b = g ∨ b = w.heap.size ∨ b = (w.heap.size + 1) ∨ (w.heap.size + 2 ≤ b)) (show Sat.Mv (fun b => b = w.heap.size ∨ b = (w.heap.size + 1)) w _ from (by (repeat' (first | with_reducible exact Sat.Mv.refl _ _ | with_reducible refine Sat.Mv.alloc ?_ _ | with_reducible refine Sat.Mv.drew ?_ | with_reducible refine Sat.Mv.drewN ?_ _ | with_reducible refine Sat.Mv.set ?_ ?_ _)) <;> (first | exact Or.inl (Or.inl rfl) | exact Or.inl (Or.inr rfl) | exact Or.inl rfl | (refine Or.inr ?_; (try simp); omega) | (refine Or.inl ?_; (try simp); omega)))) (fun b hb => by have hb : b = w.heap.size ∨ b = (w.heap.size + 1) := hb; show b = g ∨ b = w.heap.size ∨ b = (w.heap.size + 1) ∨ (w.heap.size + 2 ≤ b); omega)), (by (repeat' (first | with_reducible exact alloc2_blk _ (.cells #[] 0 (0, 0)) _ _ _ _ | with_reducible refine Blk.alloc ?_ _ | with_reducible refine Blk.drewN ?_ _ | with_reducible refine Blk.other ?_ ?_ _ | exact alloc2_blk _ (.cells #[] 0 (0, 0)) _ _ _ _)) <;> (first | (simp; omega) | simp | omega)), (by (repeat' (first | exact blk_new1 _ _ _ _ | with_reducible refine Blk.alloc ?_ _ | with_reducible refine Blk.drewN ?_ _ | with_reducible refine Blk.other ?_ ?_ _)) <;> (first | (simp; omega) | simp | omega))⟩⟩
  case round =>
    rename World => w1
    obtain ⟨rows0, q0L, n0L, c0L, C0L, stk, hkN, HREL⟩ := hrel
    clear HRR
    try clear HB
    have hRR := HREL.out.1
    have HN0 := hide HREL.out.2.1
    have HCNT := hide HREL.out.2.2.1
    have HLF := hide HREL.out.2.2.2.1
    have HQ1 := hide HREL.out.2.2.2.2.1
    have HS0 := hide HREL.out.2.2.2.2.2.1
    have HB := hide HREL.out.2.2.2.2.2.2.1
    have HL0 := hide HREL.out.2.2.2.2.2.2.2
    clear HREL
    have z0 := HS0.out.size
    have zB := HB.out.lt
    have hLl0 := HL0.out.lt
    have zL0 := hLl0
    obtain ⟨l0_0, l0_1, f0_0, f0_1⟩ := bk2 HL0.out
    cases gk with
    | zero => exact absurd hRR hne
    | succ m =>
    simp only [P, wantP, nameP] at hRR
    by_cases x1 : (Syn.hd en stk).x = ([109, 97, 105, 110] : List UInt8)
    case pos =>
      rw [if_pos x1] at hRR
      try rw [decide_eq_true x1] at hRR
      rw [HKK.out] at hRR
      simp only [Res.to_ok] at hRR
      have HC2 : Hid (∀ w1, Q w1 g lo en dp stk.tail → P en N .block dp stk.tail ≠ .out → Calls Tryz.prog 57 #[.pointer (some ⟨g, 0, none⟩)] w1 fun e w' => Ans (ShL 2) w1 g lo en dp e w' (P en N .block dp stk.tail)) := fun w1 q1 hn => hblock N (by omega) w1 dp stk.tail q1 hn
      generalize P en N .block dp stk.tail = E2 at hRR HC2
      cases E2 with
      | out => exact absurd hRR hne
      | bad cc a =>
        have Hx1 := hide x1
        clear x1
        have HRR := hide hRR
        clear hRR
        go_wp2_with fail
        refine (step_q (fun b => b = w.heap.size ∨ b = (w.heap.size + 1)) (wk := w1) ?_ HQ1.out (fun b hb => by have hb : b = w.heap.size ∨ b = (w.heap.size + 1) := hb; omega) (fun wz qz => passes_q ([109, 97, 105, 110] : List UInt8) (by decide) wz g lo en dp stk qz)).mono ?_
        · (repeat' (first | with_reducible exact Sat.Mv.refl _ _ | with_reducible refine Sat.Mv.alloc ?_ _ | with_reducible refine Sat.Mv.drew ?_ | with_reducible refine Sat.Mv.drewN ?_ _ | with_reducible refine Sat.Mv.set ?_ ?_ _)) <;> (first | exact Or.inl (Or.inl rfl) | exact Or.inl (Or.inr rfl) | exact Or.inl rfl | (refine Or.inr ?_; (try simp); omega) | (refine Or.inl ?_; (try simp); omega))
        rintro e w2 ⟨⟨he, q2, m2⟩, sg⟩
        rw [decide_eq_true Hx1.out] at he
        rw [if_pos Hx1.out] at q2
        subst he
        have z1 := m2.size
        try simp at z1
        have HS1 := hide (Mv.wide (G := fun b => b = g ∨ b = w.heap.size ∨ b = (w.heap.size + 1) ∨ (w.heap.size + 2 ≤ b)) (seg sg m2) (fun b hb => by have hb : b = g ∨ b = w.heap.size ∨ b = (w.heap.size + 1) := hb; show b = g ∨ b = w.heap.size ∨ b = (w.heap.size + 1) ∨ (w.heap.size + 2 ≤ b); omega))
        have HQ2 := hide q2
        have hLF := HLF.out.far (seg sg m2) (fun b hb hl hk => by have hk : b = g ∨ b = w.heap.size ∨ b = (w.heap.size + 1) := hk; have hb : (w.heap.size + 2 ≤ b) := hb; omega) (fun b k => k)
        clear HLF
        have HLF := hide hLF
        clear hLF
        have hB : Blk 26 w2 (w.heap.size) #[.slice none 0 0, .slice none 0 0] := m2.blk (by (repeat' (first | with_reducible exact HB.out | with_reducible refine Blk.alloc ?_ _ | with_reducible refine Blk.drewN ?_ _ | with_reducible refine Blk.other ?_ ?_ _ | exact HB.out)) <;> (first | (simp; omega) | simp | omega)) (by omega)
        clear HB
        have HB := hide hB
        clear hB
        have hL : Blk 26 w2 (w.heap.size + 1) #[.slice q0L n0L c0L, .slice none 0 0] := m2.blk (by (repeat' (first | with_reducible exact HL0.out | with_reducible refine Blk.alloc ?_ _ | with_reducible refine Blk.drewN ?_ _ | with_reducible refine Blk.other ?_ ?_ _ | exact HL0.out)) <;> (first | (simp; omega) | simp | omega)) (by omega)
        clear HL0 l0_0 l0_1 f0_0 f0_1 hLl0
        have HL0 := hide hL
        clear hL
        obtain ⟨l0_0, l0_1, f0_0, f0_1⟩ := bk2 HL0.out
        have hLl0 := HL0.out.lt
        clear m2 q2 sg
        go_wp2_with fail
        refine (step_q (fun b => b = w.heap.size ∨ b = (w.heap.size + 1)) (wk := w2) ?_ HQ2.out (fun b hb => by have hb : b = w.heap.size ∨ b = (w.heap.size + 1) := hb; omega) (fun wz qz => HC2.out wz qz (fun e => by cases e))).mono ?_
        · (repeat' (first | with_reducible exact Sat.Mv.refl _ _ | with_reducible refine Sat.Mv.alloc ?_ _ | with_reducible refine Sat.Mv.drew ?_ | with_reducible refine Sat.Mv.drewN ?_ _ | with_reducible refine Sat.Mv.set ?_ ?_ _)) <;> (first | exact Or.inl (Or.inl rfl) | exact Or.inl (Or.inr rfl) | exact Or.inl rfl | (refine Or.inr ?_; (try simp); omega) | (refine Or.inl ?_; (try simp); omega))
        rintro e w3 ⟨⟨m2, rfl⟩, sg⟩
        go_wp2
        refine ⟨rfl, ?_⟩
        rw [HRR.out]
        refine ⟨Mv.out (mvt (mvt HS0.out HS1.out) (Mv.wide (G := fun b => b = g ∨ b = w.heap.size ∨ b = (w.heap.size + 1) ∨ (w.heap.size + 2 ≤ b)) (seg sg m2) (fun b hb => by have hb : b = g ∨ b = w.heap.size ∨ b = (w.heap.size + 1) := hb; show b = g ∨ b = w.heap.size ∨ b = (w.heap.size + 1) ∨ (w.heap.size + 2 ≤ b); omega))) (fun b hb => by have hb : b = g ∨ b = w.heap.size ∨ b = (w.heap.size + 1) ∨ (w.heap.size + 2 ≤ b) := hb; omega), rfl⟩
      | ok r2 s2 =>
        try simp only [Res.to_ok] at hRR
        by_cases y0 : s2 = []
        case pos =>
          rw [if_pos y0] at hRR
          have Hy0 := hide y0
          clear y0
          have Hx1 := hide x1
          clear x1
          have HRR := hide hRR
          clear hRR
          go_wp2_with fail
          refine (step_q (fun b => b = w.heap.size ∨ b = (w.heap.size + 1)) (wk := w1) ?_ HQ1.out (fun b hb => by have hb : b = w.heap.size ∨ b = (w.heap.size + 1) := hb; omega) (fun wz qz => passes_q ([109, 97, 105, 110] : List UInt8) (by decide) wz g lo en dp stk qz)).mono ?_
          · (repeat' (first | with_reducible exact Sat.Mv.refl _ _ | with_reducible refine Sat.Mv.alloc ?_ _ | with_reducible refine Sat.Mv.drew ?_ | with_reducible refine Sat.Mv.drewN ?_ _ | with_reducible refine Sat.Mv.set ?_ ?_ _)) <;> (first | exact Or.inl (Or.inl rfl) | exact Or.inl (Or.inr rfl) | exact Or.inl rfl | (refine Or.inr ?_; (try simp); omega) | (refine Or.inl ?_; (try simp); omega))
          rintro e w2 ⟨⟨he, q2, m2⟩, sg⟩
          rw [decide_eq_true Hx1.out] at he
          rw [if_pos Hx1.out] at q2
          subst he
          have z1 := m2.size
          try simp at z1
          have HS1 := hide (Mv.wide (G := fun b => b = g ∨ b = w.heap.size ∨ b = (w.heap.size + 1) ∨ (w.heap.size + 2 ≤ b)) (seg sg m2) (fun b hb => by have hb : b = g ∨ b = w.heap.size ∨ b = (w.heap.size + 1) := hb; show b = g ∨ b = w.heap.size ∨ b = (w.heap.size + 1) ∨ (w.heap.size + 2 ≤ b); omega))
          have HQ2 := hide q2
          have hLF := HLF.out.far (seg sg m2) (fun b hb hl hk => by have hk : b = g ∨ b = w.heap.size ∨ b = (w.heap.size + 1) := hk; have hb : (w.heap.size + 2 ≤ b) := hb; omega) (fun b k => k)
          clear HLF
          have HLF := hide hLF
          clear hLF
          have hB : Blk 26 w2 (w.heap.size) #[.slice none 0 0, .slice none 0 0] := m2.blk (by (repeat' (first | with_reducible exact HB.out | with_reducible refine Blk.alloc ?_ _ | with_reducible refine Blk.drewN ?_ _ | with_reducible refine Blk.other ?_ ?_ _ | exact HB.out)) <;> (first | (simp; omega) | simp | omega)) (by omega)
          clear HB
          have HB := hide hB
          clear hB
          have hL : Blk 26 w2 (w.heap.size + 1) #[.slice q0L n0L c0L, .slice none 0 0] := m2.blk (by (repeat' (first | with_reducible exact HL0.out | with_reducible refine Blk.alloc ?_ _ | with_reducible refine Blk.drewN ?_ _ | with_reducible refine Blk.other ?_ ?_ _ | exact HL0.out)) <;> (first | (simp; omega) | simp | omega)) (by omega)
          clear HL0 l0_0 l0_1 f0_0 f0_1 hLl0
          have HL0 := hide hL
          clear hL
          obtain ⟨l0_0, l0_1, f0_0, f0_1⟩ := bk2 HL0.out
          have hLl0 := HL0.out.lt
          clear m2 q2 sg
          go_wp2_with fail
          refine (step_q (fun b => b = w.heap.size ∨ b = (w.heap.size + 1)) (wk := w2) ?_ HQ2.out (fun b hb => by have hb : b = w.heap.size ∨ b = (w.heap.size + 1) := hb; omega) (fun wz qz => HC2.out wz qz (fun e => by cases e))).mono ?_
          · (repeat' (first | with_reducible exact Sat.Mv.refl _ _ | with_reducible refine Sat.Mv.alloc ?_ _ | with_reducible refine Sat.Mv.drew ?_ | with_reducible refine Sat.Mv.drewN ?_ _ | with_reducible refine Sat.Mv.set ?_ ?_ _)) <;> (first | exact Or.inl (Or.inl rfl) | exact Or.inl (Or.inr rfl) | exact Or.inl rfl | (refine Or.inr ?_; (try simp); omega) | (refine Or.inl ?_; (try simp); omega))
          rintro e w3 ⟨⟨m2, q2, u, rfl, rows2, rfl, xA2⟩, sg⟩
          obtain ⟨qA2, cA2, rfl⟩ := xA2.slice
          have z2 := m2.size
          try simp at z2
          have HS2 := hide (Mv.wide (G := fun b => b = g ∨ b = w.heap.size ∨ b = (w.heap.size + 1) ∨ (w.heap.size + 2 ≤ b)) (seg sg m2) (fun b hb => by have hb : b = g ∨ b = w.heap.size ∨ b = (w.heap.size + 1) := hb; show b = g ∨ b = w.heap.size ∨ b = (w.heap.size + 1) ∨ (w.heap.size + 2 ≤ b); omega))
          have HQ3 := hide q2
          have hLF := HLF.out.far (seg sg m2) (fun b hb hl hk => by have hk : b = g ∨ b = w.heap.size ∨ b = (w.heap.size + 1) := hk; have hb : (w.heap.size + 2 ≤ b) := hb; omega) (fun b k => k)
          clear HLF
          have HLF := hide hLF
          clear hLF
          have HX2 := hide xA2
          clear xA2
          have hB : Blk 26 w3 (w.heap.size) #[.slice none 0 0, .slice none 0 0] := m2.blk (by (repeat' (first | with_reducible exact HB.out | with_reducible refine Blk.alloc ?_ _ | with_reducible refine Blk.drewN ?_ _ | with_reducible refine Blk.other ?_ ?_ _ | exact HB.out)) <;> (first | (simp; omega) | simp | omega)) (by omega)
          clear HB
          have HB := hide hB
          clear hB
          have hL : Blk 26 w3 (w.heap.size + 1) #[.slice q0L n0L c0L, .slice none 0 0] := m2.blk (by (repeat' (first | with_reducible exact HL0.out | with_reducible refine Blk.alloc ?_ _ | with_reducible refine Blk.drewN ?_ _ | with_reducible refine Blk.other ?_ ?_ _ | exact HL0.out)) <;> (first | (simp; omega) | simp | omega)) (by omega)
          clear HL0 l0_0 l0_1 f0_0 f0_1 hLl0
          have HL0 := hide hL
          clear hL
          obtain ⟨l0_0, l0_1, f0_0, f0_1⟩ := bk2 HL0.out
          have hLl0 := HL0.out.lt
          clear m2 q2 sg
          obtain ⟨q9, n9, c9, i9, hc0, hc2, hlt⟩ := HQ3.out.ends
          have hlt9 : ¬ (i9 : Int) < (n9 : Int) := by have := Hy0.out; exact hlt.1 this
          clear hlt
          go_wp2_with fail
          go_quiet (fail)
          go_wp2_with ((show wpList _ _ _ _ _ _); refine store_blk rfl 26 (.tmp 2) (.tmp 30) rfl (w.heap.size) _ rfl rfl 26 #[.slice none 0 0, .slice none 0 0] (by (repeat' (first | with_reducible exact HB.out | with_reducible refine Blk.alloc ?_ _ | with_reducible refine Blk.drewN ?_ _ | with_reducible refine Blk.other ?_ ?_ _ | exact HB.out)) <;> (first | (simp; omega) | simp | omega)) (by kernel_rfl) rfl rfl ?_; intro wf b2 m2; have HE := hide (show Sat.Mv (fun b => b = w.heap.size ∨ b = (w.heap.size + 1)) w3 wf from mvt (by (repeat' (first | with_reducible exact Sat.Mv.refl _ _ | with_reducible refine Sat.Mv.alloc ?_ _ | with_reducible refine Sat.Mv.drew ?_ | with_reducible refine Sat.Mv.drewN ?_ _ | with_reducible refine Sat.Mv.set ?_ ?_ _)) <;> (first | exact Or.inl (Or.inl rfl) | exact Or.inl (Or.inr rfl) | exact Or.inl rfl | (refine Or.inr ?_; (try simp); omega) | (refine Or.inl ?_; (try simp); omega))) (Mv.wide m2 (fun b hb => Or.inl hb))); have HM := hide m2; obtain ⟨c0, c1, k0, k1⟩ := bk2 b2; clear m2 b2)
          refine bodyPost_ret (v := .agg #[.slice q0L n0L c0L, .slice qA2 rows2.length cA2]) (by simp [results, Tryz.results26, go_sem, c0, c1]) rfl ?_
          rw [HRR.out]
          have HEp := HE
          clear HE
          have HE := hide (Mv.wide (G := fun b => b = w.heap.size ∨ b = (w.heap.size + 1) ∨ (w.heap.size + 2 ≤ b)) HEp.out (fun b hb => by have hb : b = w.heap.size ∨ b = (w.heap.size + 1) := hb; show b = w.heap.size ∨ b = (w.heap.size + 1) ∨ (w.heap.size + 2 ≤ b); omega))
          exact ans_fin (fun b => b = w.heap.size ∨ b = (w.heap.size + 1) ∨ (w.heap.size + 2 ≤ b)) HE.out (mvt (mvt HS0.out HS1.out) HS2.out) (fun b hb => by have hb : b = g ∨ b = w.heap.size ∨ b = (w.heap.size + 1) ∨ (w.heap.size + 2 ≤ b) := hb; omega) HQ3.out (fun b hb => by have hb : b = w.heap.size ∨ b = (w.heap.size + 1) ∨ (w.heap.size + 2 ≤ b) := hb; omega) ⟨_, _, _, _, rfl, rfl, HLF.out.x.far (G := fun b => b = w.heap.size ∨ b = (w.heap.size + 1)) HEp.out (fun b hb hl hk => by have hk : b = w.heap.size ∨ b = (w.heap.size + 1) := hk; have hb : (w.heap.size + 2 ≤ b) := hb; omega) (fun b hb => by have hb : (w.heap.size + 2 ≤ b) := hb; show w.heap.size ≤ b; omega), HX2.out.far (G := fun b => b = w.heap.size ∨ b = (w.heap.size + 1)) HEp.out (by intro b hb hl hk; (try simp at hb); have hk : b = w.heap.size ∨ b = (w.heap.size + 1) := hk; omega) (by intro b hb; (try simp at hb); show w.heap.size ≤ b; omega)⟩
        rw [if_neg y0] at hRR
        have Hy0 := hide y0
        clear y0
        have Hx1 := hide x1
        clear x1
        have HRR := hide hRR
        clear hRR
        go_wp2_with fail
        refine (step_q (fun b => b = w.heap.size ∨ b = (w.heap.size + 1)) (wk := w1) ?_ HQ1.out (fun b hb => by have hb : b = w.heap.size ∨ b = (w.heap.size + 1) := hb; omega) (fun wz qz => passes_q ([109, 97, 105, 110] : List UInt8) (by decide) wz g lo en dp stk qz)).mono ?_
        · (repeat' (first | with_reducible exact Sat.Mv.refl _ _ | with_reducible refine Sat.Mv.alloc ?_ _ | with_reducible refine Sat.Mv.drew ?_ | with_reducible refine Sat.Mv.drewN ?_ _ | with_reducible refine Sat.Mv.set ?_ ?_ _)) <;> (first | exact Or.inl (Or.inl rfl) | exact Or.inl (Or.inr rfl) | exact Or.inl rfl | (refine Or.inr ?_; (try simp); omega) | (refine Or.inl ?_; (try simp); omega))
        rintro e w2 ⟨⟨he, q2, m2⟩, sg⟩
        rw [decide_eq_true Hx1.out] at he
        rw [if_pos Hx1.out] at q2
        subst he
        have z1 := m2.size
        try simp at z1
        have HS1 := hide (Mv.wide (G := fun b => b = g ∨ b = w.heap.size ∨ b = (w.heap.size + 1) ∨ (w.heap.size + 2 ≤ b)) (seg sg m2) (fun b hb => by have hb : b = g ∨ b = w.heap.size ∨ b = (w.heap.size + 1) := hb; show b = g ∨ b = w.heap.size ∨ b = (w.heap.size + 1) ∨ (w.heap.size + 2 ≤ b); omega))
        have HQ2 := hide q2
        have hLF := HLF.out.far (seg sg m2) (fun b hb hl hk => by have hk : b = g ∨ b = w.heap.size ∨ b = (w.heap.size + 1) := hk; have hb : (w.heap.size + 2 ≤ b) := hb; omega) (fun b k => k)
        clear HLF
        have HLF := hide hLF
        clear hLF
        have hB : Blk 26 w2 (w.heap.size) #[.slice none 0 0, .slice none 0 0] := m2.blk (by (repeat' (first | with_reducible exact HB.out | with_reducible refine Blk.alloc ?_ _ | with_reducible refine Blk.drewN ?_ _ | with_reducible refine Blk.other ?_ ?_ _ | exact HB.out)) <;> (first | (simp; omega) | simp | omega)) (by omega)
        clear HB
        have HB := hide hB
        clear hB
        have hL : Blk 26 w2 (w.heap.size + 1) #[.slice q0L n0L c0L, .slice none 0 0] := m2.blk (by (repeat' (first | with_reducible exact HL0.out | with_reducible refine Blk.alloc ?_ _ | with_reducible refine Blk.drewN ?_ _ | with_reducible refine Blk.other ?_ ?_ _ | exact HL0.out)) <;> (first | (simp; omega) | simp | omega)) (by omega)
        clear HL0 l0_0 l0_1 f0_0 f0_1 hLl0
        have HL0 := hide hL
        clear hL
        obtain ⟨l0_0, l0_1, f0_0, f0_1⟩ := bk2 HL0.out
        have hLl0 := HL0.out.lt
        clear m2 q2 sg
        go_wp2_with fail
        refine (step_q (fun b => b = w.heap.size ∨ b = (w.heap.size + 1)) (wk := w2) ?_ HQ2.out (fun b hb => by have hb : b = w.heap.size ∨ b = (w.heap.size + 1) := hb; omega) (fun wz qz => HC2.out wz qz (fun e => by cases e))).mono ?_
        · (repeat' (first | with_reducible exact Sat.Mv.refl _ _ | with_reducible refine Sat.Mv.alloc ?_ _ | with_reducible refine Sat.Mv.drew ?_ | with_reducible refine Sat.Mv.drewN ?_ _ | with_reducible refine Sat.Mv.set ?_ ?_ _)) <;> (first | exact Or.inl (Or.inl rfl) | exact Or.inl (Or.inr rfl) | exact Or.inl rfl | (refine Or.inr ?_; (try simp); omega) | (refine Or.inl ?_; (try simp); omega))
        rintro e w3 ⟨⟨m2, q2, u, rfl, rows2, rfl, xA2⟩, sg⟩
        obtain ⟨qA2, cA2, rfl⟩ := xA2.slice
        have z2 := m2.size
        try simp at z2
        have HS2 := hide (Mv.wide (G := fun b => b = g ∨ b = w.heap.size ∨ b = (w.heap.size + 1) ∨ (w.heap.size + 2 ≤ b)) (seg sg m2) (fun b hb => by have hb : b = g ∨ b = w.heap.size ∨ b = (w.heap.size + 1) := hb; show b = g ∨ b = w.heap.size ∨ b = (w.heap.size + 1) ∨ (w.heap.size + 2 ≤ b); omega))
        have HQ3 := hide q2
        have hLF := HLF.out.far (seg sg m2) (fun b hb hl hk => by have hk : b = g ∨ b = w.heap.size ∨ b = (w.heap.size + 1) := hk; have hb : (w.heap.size + 2 ≤ b) := hb; omega) (fun b k => k)
        clear HLF
        have HLF := hide hLF
        clear hLF
        have HX2 := hide xA2
        clear xA2
        have hB : Blk 26 w3 (w.heap.size) #[.slice none 0 0, .slice none 0 0] := m2.blk (by (repeat' (first | with_reducible exact HB.out | with_reducible refine Blk.alloc ?_ _ | with_reducible refine Blk.drewN ?_ _ | with_reducible refine Blk.other ?_ ?_ _ | exact HB.out)) <;> (first | (simp; omega) | simp | omega)) (by omega)
        clear HB
        have HB := hide hB
        clear hB
        have hL : Blk 26 w3 (w.heap.size + 1) #[.slice q0L n0L c0L, .slice none 0 0] := m2.blk (by (repeat' (first | with_reducible exact HL0.out | with_reducible refine Blk.alloc ?_ _ | with_reducible refine Blk.drewN ?_ _ | with_reducible refine Blk.other ?_ ?_ _ | exact HL0.out)) <;> (first | (simp; omega) | simp | omega)) (by omega)
        clear HL0 l0_0 l0_1 f0_0 f0_1 hLl0
        have HL0 := hide hL
        clear hL
        obtain ⟨l0_0, l0_1, f0_0, f0_1⟩ := bk2 HL0.out
        have hLl0 := HL0.out.lt
        clear m2 q2 sg
        obtain ⟨q9, n9, c9, i9, hc0, hc2, hlt⟩ := HQ3.out.ends
        have hlt9 : (i9 : Int) < (n9 : Int) := by have := Hy0.out; exact Classical.byContradiction fun h => this (hlt.2 h)
        clear hlt
        go_wp2_with fail
        go_quiet (fail)
        go_wp2_with fail
        refine (step_q (fun b => b = w.heap.size ∨ b = (w.heap.size + 1)) (wk := w3) ?_ HQ3.out (fun b hb => by have hb : b = w.heap.size ∨ b = (w.heap.size + 1) := hb; omega) (fun wz qz => fault_q 110 wz g lo en dp s2 qz)).mono ?_
        · (repeat' (first | with_reducible exact Sat.Mv.refl _ _ | with_reducible refine Sat.Mv.alloc ?_ _ | with_reducible refine Sat.Mv.drew ?_ | with_reducible refine Sat.Mv.drewN ?_ _ | with_reducible refine Sat.Mv.set ?_ ?_ _)) <;> (first | exact Or.inl (Or.inl rfl) | exact Or.inl (Or.inr rfl) | exact Or.inl rfl | (refine Or.inr ?_; (try simp); omega) | (refine Or.inl ?_; (try simp); omega))
        rintro e w4 ⟨⟨rfl, b2⟩, sg⟩
        have m2 : MvR g _ w4 := Sat.Mv.below b2
        clear b2
        simp only [FV]
        go_wp2
        refine ⟨rfl, ?_⟩
        rw [HRR.out]
        refine ⟨Mv.out (mvt (mvt (mvt HS0.out HS1.out) HS2.out) (Mv.wide (G := fun b => b = g ∨ b = w.heap.size ∨ b = (w.heap.size + 1) ∨ (w.heap.size + 2 ≤ b)) (seg sg m2) (fun b hb => by have hb : b = g ∨ b = w.heap.size ∨ b = (w.heap.size + 1) := hb; show b = g ∨ b = w.heap.size ∨ b = (w.heap.size + 1) ∨ (w.heap.size + 2 ≤ b); omega))) (fun b hb => by have hb : b = g ∨ b = w.heap.size ∨ b = (w.heap.size + 1) ∨ (w.heap.size + 2 ≤ b) := hb; omega), rfl⟩
    rw [if_neg x1] at hRR
    try rw [decide_eq_false x1] at hRR
    have HC2 : Hid (∀ w1, Q w1 g lo en dp stk → P en m .class_ dp stk ≠ .out → Calls Tryz.prog 56 #[.pointer (some ⟨g, 0, none⟩)] w1 fun e w' => Ans ShK w1 g lo en dp e w' (P en m .class_ dp stk)) := fun w1 q1 hn => hclass m (by omega) w1 dp stk q1 hn
    have HP2 := hide <| P_len en m .class_ dp stk
    generalize P en m .class_ dp stk = E2 at hRR HC2 HP2
    cases E2 with
    | out => exact absurd hRR hne
    | bad cc a =>
      have Hx1 := hide x1
      clear x1
      have HRR := hide hRR
      clear hRR
      go_wp2_with fail
      refine (step_q (fun b => b = w.heap.size ∨ b = (w.heap.size + 1)) (wk := w1) ?_ HQ1.out (fun b hb => by have hb : b = w.heap.size ∨ b = (w.heap.size + 1) := hb; omega) (fun wz qz => passes_q ([109, 97, 105, 110] : List UInt8) (by decide) wz g lo en dp stk qz)).mono ?_
      · (repeat' (first | with_reducible exact Sat.Mv.refl _ _ | with_reducible refine Sat.Mv.alloc ?_ _ | with_reducible refine Sat.Mv.drew ?_ | with_reducible refine Sat.Mv.drewN ?_ _ | with_reducible refine Sat.Mv.set ?_ ?_ _)) <;> (first | exact Or.inl (Or.inl rfl) | exact Or.inl (Or.inr rfl) | exact Or.inl rfl | (refine Or.inr ?_; (try simp); omega) | (refine Or.inl ?_; (try simp); omega))
      rintro e w2 ⟨⟨he, q2, m2⟩, sg⟩
      rw [decide_eq_false Hx1.out] at he
      rw [if_neg Hx1.out] at q2
      subst he
      have z1 := m2.size
      try simp at z1
      have HS1 := hide (Mv.wide (G := fun b => b = g ∨ b = w.heap.size ∨ b = (w.heap.size + 1) ∨ (w.heap.size + 2 ≤ b)) (seg sg m2) (fun b hb => by have hb : b = g ∨ b = w.heap.size ∨ b = (w.heap.size + 1) := hb; show b = g ∨ b = w.heap.size ∨ b = (w.heap.size + 1) ∨ (w.heap.size + 2 ≤ b); omega))
      have HQ2 := hide q2
      have hLF := HLF.out.far (seg sg m2) (fun b hb hl hk => by have hk : b = g ∨ b = w.heap.size ∨ b = (w.heap.size + 1) := hk; have hb : (w.heap.size + 2 ≤ b) := hb; omega) (fun b k => k)
      clear HLF
      have HLF := hide hLF
      clear hLF
      have hB : Blk 26 w2 (w.heap.size) #[.slice none 0 0, .slice none 0 0] := m2.blk (by (repeat' (first | with_reducible exact HB.out | with_reducible refine Blk.alloc ?_ _ | with_reducible refine Blk.drewN ?_ _ | with_reducible refine Blk.other ?_ ?_ _ | exact HB.out)) <;> (first | (simp; omega) | simp | omega)) (by omega)
      clear HB
      have HB := hide hB
      clear hB
      have hL : Blk 26 w2 (w.heap.size + 1) #[.slice q0L n0L c0L, .slice none 0 0] := m2.blk (by (repeat' (first | with_reducible exact HL0.out | with_reducible refine Blk.alloc ?_ _ | with_reducible refine Blk.drewN ?_ _ | with_reducible refine Blk.other ?_ ?_ _ | exact HL0.out)) <;> (first | (simp; omega) | simp | omega)) (by omega)
      clear HL0 l0_0 l0_1 f0_0 f0_1 hLl0
      have HL0 := hide hL
      clear hL
      obtain ⟨l0_0, l0_1, f0_0, f0_1⟩ := bk2 HL0.out
      have hLl0 := HL0.out.lt
      clear m2 q2 sg
      go_wp2_with fail
      refine region_at ?_
      intro W hW
      have hMW : Sat.Mv (fun b => b = w.heap.size ∨ b = (w.heap.size + 1)) w2 W := by rw [hW]; (repeat' (first | with_reducible exact Sat.Mv.refl _ _ | with_reducible refine Sat.Mv.alloc ?_ _ | with_reducible refine Sat.Mv.drew ?_ | with_reducible refine Sat.Mv.drewN ?_ _ | with_reducible refine Sat.Mv.set ?_ ?_ _)) <;> (first | exact Or.inl (Or.inl rfl) | exact Or.inl (Or.inr rfl) | exact Or.inl rfl | (refine Or.inr ?_; (try simp); omega) | (refine Or.inl ?_; (try simp); omega))
      have hRB : Blk 26 W (w.heap.size) #[.slice none 0 0, .slice none 0 0] := by rw [hW]; (repeat' (first | with_reducible exact HB.out | with_reducible refine Blk.alloc ?_ _ | with_reducible refine Blk.drewN ?_ _ | with_reducible refine Blk.other ?_ ?_ _ | exact HB.out)) <;> (first | (simp; omega) | simp | omega)
      have hLB0 : Blk 26 W (w.heap.size + 1) #[.slice q0L n0L c0L, .slice none 0 0] := by rw [hW]; (repeat' (first | with_reducible exact HL0.out | with_reducible refine Blk.alloc ?_ _ | with_reducible refine Blk.drewN ?_ _ | with_reducible refine Blk.other ?_ ?_ _ | exact HL0.out)) <;> (first | (simp; omega) | simp | omega)
      have hLF := HLF.out.far hMW (fun b hb hl hk => by have hk : b = w.heap.size ∨ b = (w.heap.size + 1) := hk; have hb : (w.heap.size + 2 ≤ b) := hb; omega) (fun b k => k)
      clear HLF
      have HMW := hide hMW
      have HLF := hide hLF
      have HQW := hide (HQ2.out.mv hMW (fun b hb => by have hb : b = w.heap.size ∨ b = (w.heap.size + 1) := hb; omega))
      have hgW := HQW.out.lt
      have hWz := hMW.size
      clear hMW hLF hW
      have HRB := hide hRB
      have hrz := hRB.lt
      clear hRB
      have HLB0 := hide hLB0
      have hLz0 := hLB0.lt
      clear hLB0
      obtain ⟨Ph, hPhE⟩ : ∃ Ph : Phase, Ph = (fun i vs wz => (i < 3 → MvR g W wz) ∧ match i with | 0 => Q wz g lo en dp stk | _ => False) := ⟨_, rfl⟩
      refine wp_region_F (by kernel_rfl) [some 7, some 8, some 9, some 10, some 11, some 12, some 13, none] [none, none, none, none, none, none, none, some 7, some 8, some 9, some 10, some 11, some 12, some 13] (fun U => by kernel_rfl) [fun u => u = (.pointer (some ⟨w.heap.size + 1, 0, none⟩)), fun u => u = (.slice q0L n0L c0L), fun u => u = (.pointer (some ⟨g, 0, none⟩)), fun _ => True, fun _ => True, fun _ => True, fun u => u = (.pointer (some ⟨w.heap.size + 1, 0, none⟩)), fun _ => True] (PC [(3, some 10), (4, some 11), (5, some 12), (7, none)] Ph) (by kernel_rfl) (by decide) (by kernel_rfl) (by kernel_rfl) (fun U => PC.start (by rw [hPhE]; exact ⟨fun _ => Sat.Mv.below (Below.refl _ _).drew, HQW.out.below (Below.refl _ _).drew⟩)) ?_ ?_
      · refine StepsF.run rfl ?_ ?_
        · intro L U wr hC hP hlk hcl haf A K hFm hK
          clear haf
          have e3 : A.tmps[3]? = some (.pointer (some ⟨w.heap.size + 1, 0, none⟩)) := (hFm.old 3 (by decide)).trans (by kernel_rfl)
          have HC9 := hide hC
          clear hC
          refine ⟨?_⟩
          go_simp
          exact hK _ _ rfl (HC9.out.read (by decide) (by decide))
        refine StepsF.run rfl ?_ ?_
        · intro L U wr hC hP hlk hcl haf A K hFm hK
          simp [Aft, Region.binds] at haf
          have e7 : A.tmps[7]? = some (.pointer (some ⟨w.heap.size + 1, 0, none⟩)) := hFm.is 0 7 rfl (hP 0 7 (by simp [haf]) rfl)
          have hkb : L 5 = false := by cases h : L 5 with | false => rfl | true => have h9 := hcl 5 _ rfl h; simp [Aft, Region.binds, hlk] at h9
          obtain ⟨iz, vz, hiz, hPz⟩ := hC.at_ 2 (by decide) hkb
          rw [hPhE] at hPz
          have hMz : MvR g W wr := hPz.1 (by omega)
          clear hPz hiz
          have hLk := hMz.blk HLB0.out (by omega)
          obtain ⟨b9_0, b9_1, f9_0, f9_1⟩ := bk2 hLk
          clear hLk
          have HC9 := hide hC
          clear hC hMz
          refine ⟨?_⟩
          go_simp
          exact hK _ _ rfl (HC9.out.read (by decide) (by decide))
        refine StepsF.run rfl ?_ ?_
        · intro L U wr hC hP hlk hcl haf A K hFm hK
          clear haf
          have e0 : A.tmps[0]? = some (.pointer (some ⟨g, 0, none⟩)) := (hFm.old 0 (by decide)).trans (by kernel_rfl)
          have HC9 := hide hC
          clear hC
          refine ⟨?_⟩
          go_simp
          exact hK _ _ rfl (HC9.out.read (by decide) (by decide))
        refine StepsF.run rfl ?_ ?_
        · intro L U wr hC hP hlk hcl haf A K hFm hK
          simp [Aft, Region.binds] at haf
          obtain ⟨vs, hvs, hPh, hnx⟩ := hC.step 0 (by decide) hlk (Or.inl rfl) (by decide) (by decide)
          rw [hPhE] at hPh
          have e9 : A.tmps[9]? = some (.pointer (some ⟨g, 0, none⟩)) := hFm.is 2 9 rfl (hP 2 9 (by simp [haf]) rfl)
          clear hC
          refine ⟨?_⟩
          have HPh := hide hPh
          have Hnx := hide hnx
          clear hPh hnx
          go_simp
          refine (HC2.out wr HPh.out.2 (fun e => by cases e)).mono ?_
          rintro e w9 ⟨m9, rfl⟩
          obtain ⟨tm9, df9⟩ := A
          have hd9 : df9 = [] := hFm.def_
          subst hd9
          clear hFm hK
          go_simp
          refine ⟨rfl, ?_⟩
          rw [HRR.out]
          exact ⟨Mv.out (mvt (mvt HS0.out HS1.out) (Mv.wide (G := fun b => b = g ∨ b = w.heap.size ∨ b = (w.heap.size + 1) ∨ (w.heap.size + 2 ≤ b)) (seg HMW.out (MvR.to (HPh.out.1 (by decide)) m9)) (fun b hb => by have hb : b = g ∨ b = w.heap.size ∨ b = (w.heap.size + 1) := hb; show b = g ∨ b = w.heap.size ∨ b = (w.heap.size + 1) ∨ (w.heap.size + 2 ≤ b); omega))) (fun b hb => by have hb : b = g ∨ b = w.heap.size ∨ b = (w.heap.size + 1) ∨ (w.heap.size + 2 ≤ b) := hb; omega), rfl⟩
        refine StepsF.run rfl ?_ ?_
        · intro L U wr hC hP hlk hcl haf A K hFm hK
          simp [Aft, Region.binds] at haf
          obtain ⟨vs, hvs, hPh, hnx⟩ := hC.step 1 (by decide) hlk (Or.inr (by first | exact haf | exact haf.1 | exact haf.2 | simp [chN, haf])) (by decide) (by decide)
          rw [hPhE] at hPh
          have e10 : A.tmps[10]? = some (vs 0) := hFm.is 3 10 rfl (hvs 0 10 (by decide) rfl)
          clear hC
          exact hPh.2.elim
        refine StepsF.run rfl ?_ ?_
        · intro L U wr hC hP hlk hcl haf A K hFm hK
          simp [Aft, Region.binds] at haf
          obtain ⟨vs, hvs, hPh, hnx⟩ := hC.step 2 (by decide) hlk (Or.inr (by first | exact haf | exact haf.1 | exact haf.2 | simp [chN, haf])) (by decide) (by decide)
          rw [hPhE] at hPh
          have e8 : A.tmps[8]? = some (.slice q0L n0L c0L) := hFm.is 1 8 rfl (hP 1 8 (by simp [haf]) rfl)
          have e11 : A.tmps[11]? = some (vs 1) := hFm.is 4 11 rfl (hvs 1 11 (by decide) rfl)
          clear hC
          exact hPh.2.elim
        refine StepsF.run rfl ?_ ?_
        · intro L U wr hC hP hlk hcl haf A K hFm hK
          clear haf
          have e3 : A.tmps[3]? = some (.pointer (some ⟨w.heap.size + 1, 0, none⟩)) := (hFm.old 3 (by decide)).trans (by kernel_rfl)
          have HC9 := hide hC
          clear hC
          refine ⟨?_⟩
          go_simp
          exact hK _ _ rfl (HC9.out.read (by decide) (by decide))
        refine StepsF.run rfl ?_ StepsF.nil
        · intro L U wr hC hP hlk hcl haf A K hFm hK
          simp [Aft, Region.binds] at haf
          obtain ⟨vs, hvs, hPh, hnx⟩ := hC.step 3 (by decide) hlk (Or.inr (by first | exact haf | exact haf.1 | exact haf.2 | simp [chN, haf])) (by decide) (by decide)
          rw [hPhE] at hPh
          have e12 : A.tmps[12]? = some (vs 2) := hFm.is 5 12 rfl (hvs 2 12 (by decide) rfl)
          have e13 : A.tmps[13]? = some (.pointer (some ⟨w.heap.size + 1, 0, none⟩)) := hFm.is 6 13 rfl (hP 6 13 (by simp [haf]) rfl)
          clear hC
          exact hPh.2.elim
      intro L U2 w3 hall hC hP
      obtain ⟨vs, hvs, hPh⟩ := hC.fin (by decide) (hall 7 (by decide))
      rw [hPhE] at hPh
      clear hPhE hC hP hall
      simp only [setM_some, setM_none, setM_nil]
      exact hPh.2.elim
    | ok r2 s2 =>
      try simp only [Res.to_ok] at hRR
      have Hx1 := hide x1
      clear x1
      have HRR := hide hRR
      clear hRR
      go_wp2_with fail
      refine (step_q (fun b => b = w.heap.size ∨ b = (w.heap.size + 1)) (wk := w1) ?_ HQ1.out (fun b hb => by have hb : b = w.heap.size ∨ b = (w.heap.size + 1) := hb; omega) (fun wz qz => passes_q ([109, 97, 105, 110] : List UInt8) (by decide) wz g lo en dp stk qz)).mono ?_
      · (repeat' (first | with_reducible exact Sat.Mv.refl _ _ | with_reducible refine Sat.Mv.alloc ?_ _ | with_reducible refine Sat.Mv.drew ?_ | with_reducible refine Sat.Mv.drewN ?_ _ | with_reducible refine Sat.Mv.set ?_ ?_ _)) <;> (first | exact Or.inl (Or.inl rfl) | exact Or.inl (Or.inr rfl) | exact Or.inl rfl | (refine Or.inr ?_; (try simp); omega) | (refine Or.inl ?_; (try simp); omega))
      rintro e w2 ⟨⟨he, q2, m2⟩, sg⟩
      rw [decide_eq_false Hx1.out] at he
      rw [if_neg Hx1.out] at q2
      subst he
      have z1 := m2.size
      try simp at z1
      have HS1 := hide (Mv.wide (G := fun b => b = g ∨ b = w.heap.size ∨ b = (w.heap.size + 1) ∨ (w.heap.size + 2 ≤ b)) (seg sg m2) (fun b hb => by have hb : b = g ∨ b = w.heap.size ∨ b = (w.heap.size + 1) := hb; show b = g ∨ b = w.heap.size ∨ b = (w.heap.size + 1) ∨ (w.heap.size + 2 ≤ b); omega))
      have HQ2 := hide q2
      have hLF := HLF.out.far (seg sg m2) (fun b hb hl hk => by have hk : b = g ∨ b = w.heap.size ∨ b = (w.heap.size + 1) := hk; have hb : (w.heap.size + 2 ≤ b) := hb; omega) (fun b k => k)
      clear HLF
      have HLF := hide hLF
      clear hLF
      have hB : Blk 26 w2 (w.heap.size) #[.slice none 0 0, .slice none 0 0] := m2.blk (by (repeat' (first | with_reducible exact HB.out | with_reducible refine Blk.alloc ?_ _ | with_reducible refine Blk.drewN ?_ _ | with_reducible refine Blk.other ?_ ?_ _ | exact HB.out)) <;> (first | (simp; omega) | simp | omega)) (by omega)
      clear HB
      have HB := hide hB
      clear hB
      have hL : Blk 26 w2 (w.heap.size + 1) #[.slice q0L n0L c0L, .slice none 0 0] := m2.blk (by (repeat' (first | with_reducible exact HL0.out | with_reducible refine Blk.alloc ?_ _ | with_reducible refine Blk.drewN ?_ _ | with_reducible refine Blk.other ?_ ?_ _ | exact HL0.out)) <;> (first | (simp; omega) | simp | omega)) (by omega)
      clear HL0 l0_0 l0_1 f0_0 f0_1 hLl0
      have HL0 := hide hL
      clear hL
      obtain ⟨l0_0, l0_1, f0_0, f0_1⟩ := bk2 HL0.out
      have hLl0 := HL0.out.lt
      clear m2 q2 sg
      go_wp2_with fail
      refine region_at ?_
      intro W hW
      have hMW : Sat.Mv (fun b => b = w.heap.size ∨ b = (w.heap.size + 1)) w2 W := by rw [hW]; (repeat' (first | with_reducible exact Sat.Mv.refl _ _ | with_reducible refine Sat.Mv.alloc ?_ _ | with_reducible refine Sat.Mv.drew ?_ | with_reducible refine Sat.Mv.drewN ?_ _ | with_reducible refine Sat.Mv.set ?_ ?_ _)) <;> (first | exact Or.inl (Or.inl rfl) | exact Or.inl (Or.inr rfl) | exact Or.inl rfl | (refine Or.inr ?_; (try simp); omega) | (refine Or.inl ?_; (try simp); omega))
      have hRB : Blk 26 W (w.heap.size) #[.slice none 0 0, .slice none 0 0] := by rw [hW]; (repeat' (first | with_reducible exact HB.out | with_reducible refine Blk.alloc ?_ _ | with_reducible refine Blk.drewN ?_ _ | with_reducible refine Blk.other ?_ ?_ _ | exact HB.out)) <;> (first | (simp; omega) | simp | omega)
      have hLB0 : Blk 26 W (w.heap.size + 1) #[.slice q0L n0L c0L, .slice none 0 0] := by rw [hW]; (repeat' (first | with_reducible exact HL0.out | with_reducible refine Blk.alloc ?_ _ | with_reducible refine Blk.drewN ?_ _ | with_reducible refine Blk.other ?_ ?_ _ | exact HL0.out)) <;> (first | (simp; omega) | simp | omega)
      have hLF := HLF.out.far hMW (fun b hb hl hk => by have hk : b = w.heap.size ∨ b = (w.heap.size + 1) := hk; have hb : (w.heap.size + 2 ≤ b) := hb; omega) (fun b k => k)
      clear HLF
      have HMW := hide hMW
      have HLF := hide hLF
      have HQW := hide (HQ2.out.mv hMW (fun b hb => by have hb : b = w.heap.size ∨ b = (w.heap.size + 1) := hb; omega))
      have hgW := HQW.out.lt
      have hWz := hMW.size
      clear hMW hLF hW
      have HRB := hide hRB
      have hrz := hRB.lt
      clear hRB
      have HLB0 := hide hLB0
      have hLz0 := hLB0.lt
      clear hLB0
      obtain ⟨Ph, hPhE⟩ : ∃ Ph : Phase, Ph = (fun i vs wz => (i < 3 → MvR g W wz) ∧ match i with | 0 => Q wz g lo en dp stk | 1 => ∃ nm2 ifc2 sup2 abv2 fields2 invs2 ctors2 meths2 p2 qA2 cA2 qB2 cB2 qC2 cC2 qD2 cD2 qE2 cE2, r2 = (clR nm2 ifc2 sup2 abv2 fields2 invs2 ctors2 meths2 p2) ∧ vs 0 = .agg #[.string (tx nm2), .bool ifc2, .string (tx sup2), .slice qA2 abv2.length cA2, .slice qB2 fields2.length cB2, .slice qC2 invs2.length cC2, .slice qD2 ctors2.length cD2, .slice qE2 meths2.length cE2, .int .i64 (p2 : Nat)] ∧ MvR g W wz ∧ Q wz g lo en dp s2 ∧ X wz (fun b => W.heap.size ≤ b) (.slice qA2 abv2.length cA2) (.l 8 abv2) ∧ X wz (fun b => W.heap.size ≤ b) (.slice qB2 fields2.length cB2) (.l 4 fields2) ∧ X wz (fun b => W.heap.size ≤ b) (.slice qC2 invs2.length cC2) (.l 0 invs2) ∧ X wz (fun b => W.heap.size ≤ b) (.slice qD2 ctors2.length cD2) (.l 5 ctors2) ∧ X wz (fun b => W.heap.size ≤ b) (.slice qE2 meths2.length cE2) (.l 6 meths2) | 2 => ∃ nm2 ifc2 sup2 abv2 fields2 invs2 ctors2 meths2 p2 qA2 cA2 qB2 cB2 qC2 cC2 qD2 cD2 qE2 cE2, r2 = (clR nm2 ifc2 sup2 abv2 fields2 invs2 ctors2 meths2 p2) ∧ Euf.ONE5 78 [.string (tx nm2), .bool ifc2, .string (tx sup2), .slice qA2 abv2.length cA2, .slice qB2 fields2.length cB2, .slice qC2 invs2.length cC2, .slice qD2 ctors2.length cD2, .slice qE2 meths2.length cE2, .int .i64 (p2 : Nat)] (vs 1) wz ∧ MvR g W wz ∧ Q wz g lo en dp s2 ∧ X wz (fun b => W.heap.size ≤ b) (.slice qA2 abv2.length cA2) (.l 8 abv2) ∧ X wz (fun b => W.heap.size ≤ b) (.slice qB2 fields2.length cB2) (.l 4 fields2) ∧ X wz (fun b => W.heap.size ≤ b) (.slice qC2 invs2.length cC2) (.l 0 invs2) ∧ X wz (fun b => W.heap.size ≤ b) (.slice qD2 ctors2.length cD2) (.l 5 ctors2) ∧ X wz (fun b => W.heap.size ≤ b) (.slice qE2 meths2.length cE2) (.l 6 meths2) | 3 => ∃ nm2 ifc2 sup2 abv2 fields2 invs2 ctors2 meths2 p2, r2 = (clR nm2 ifc2 sup2 abv2 fields2 invs2 ctors2 meths2 p2) ∧ ∃ (q9 : Option Addr) (n9 c9 : Nat) (C9 : Nat → List Value), n9 = (rows0 : List (List V)).length + 1 ∧ vs 2 = .slice q9 n9 c9 ∧ LF wz (fun b => (w.heap.size + 2 ≤ b)) 7 (.slice q9 n9 c9) (rows0 ++ [(clR nm2 ifc2 sup2 abv2 fields2 invs2 ctors2 meths2 p2)]) C9 ∧ Sat.Mv (fun b => b = g ∨ (w.heap.size + 2 ≤ b)) W wz ∧ Q wz g lo en dp s2 | _ => ∃ nm2 ifc2 sup2 abv2 fields2 invs2 ctors2 meths2 p2, r2 = (clR nm2 ifc2 sup2 abv2 fields2 invs2 ctors2 meths2 p2) ∧ ∃ (q9 : Option Addr) (n9 c9 : Nat) (C9 : Nat → List Value), n9 = (rows0 : List (List V)).length + 1 ∧ LF wz (fun b => (w.heap.size + 2 ≤ b)) 7 (.slice q9 n9 c9) (rows0 ++ [(clR nm2 ifc2 sup2 abv2 fields2 invs2 ctors2 meths2 p2)]) C9 ∧ Sat.Mv (fun b => b = g ∨ b = w.heap.size + 1 ∨ (w.heap.size + 2 ≤ b)) W wz ∧ Q wz g lo en dp s2 ∧ Blk 26 wz (w.heap.size + 1) #[.slice q9 n9 c9, .slice none 0 0]) := ⟨_, rfl⟩
      refine wp_region_F (by kernel_rfl) [some 7, some 8, some 9, some 10, some 11, some 12, some 13, none] [none, none, none, none, none, none, none, some 7, some 8, some 9, some 10, some 11, some 12, some 13] (fun U => by kernel_rfl) [fun u => u = (.pointer (some ⟨w.heap.size + 1, 0, none⟩)), fun u => u = (.slice q0L n0L c0L), fun u => u = (.pointer (some ⟨g, 0, none⟩)), fun _ => True, fun _ => True, fun _ => True, fun u => u = (.pointer (some ⟨w.heap.size + 1, 0, none⟩)), fun _ => True] (PC [(3, some 10), (4, some 11), (5, some 12), (7, none)] Ph) (by kernel_rfl) (by decide) (by kernel_rfl) (by kernel_rfl) (fun U => PC.start (by rw [hPhE]; exact ⟨fun _ => Sat.Mv.below (Below.refl _ _).drew, HQW.out.below (Below.refl _ _).drew⟩)) ?_ ?_
      · refine StepsF.run rfl ?_ ?_
        · intro L U wr hC hP hlk hcl haf A K hFm hK
          clear haf
          have e3 : A.tmps[3]? = some (.pointer (some ⟨w.heap.size + 1, 0, none⟩)) := (hFm.old 3 (by decide)).trans (by kernel_rfl)
          have HC9 := hide hC
          clear hC
          refine ⟨?_⟩
          go_simp
          exact hK _ _ rfl (HC9.out.read (by decide) (by decide))
        refine StepsF.run rfl ?_ ?_
        · intro L U wr hC hP hlk hcl haf A K hFm hK
          simp [Aft, Region.binds] at haf
          have e7 : A.tmps[7]? = some (.pointer (some ⟨w.heap.size + 1, 0, none⟩)) := hFm.is 0 7 rfl (hP 0 7 (by simp [haf]) rfl)
          have hkb : L 5 = false := by cases h : L 5 with | false => rfl | true => have h9 := hcl 5 _ rfl h; simp [Aft, Region.binds, hlk] at h9
          obtain ⟨iz, vz, hiz, hPz⟩ := hC.at_ 2 (by decide) hkb
          rw [hPhE] at hPz
          have hMz : MvR g W wr := hPz.1 (by omega)
          clear hPz hiz
          have hLk := hMz.blk HLB0.out (by omega)
          obtain ⟨b9_0, b9_1, f9_0, f9_1⟩ := bk2 hLk
          clear hLk
          have HC9 := hide hC
          clear hC hMz
          refine ⟨?_⟩
          go_simp
          exact hK _ _ rfl (HC9.out.read (by decide) (by decide))
        refine StepsF.run rfl ?_ ?_
        · intro L U wr hC hP hlk hcl haf A K hFm hK
          clear haf
          have e0 : A.tmps[0]? = some (.pointer (some ⟨g, 0, none⟩)) := (hFm.old 0 (by decide)).trans (by kernel_rfl)
          have HC9 := hide hC
          clear hC
          refine ⟨?_⟩
          go_simp
          exact hK _ _ rfl (HC9.out.read (by decide) (by decide))
        refine StepsF.run rfl ?_ ?_
        · intro L U wr hC hP hlk hcl haf A K hFm hK
          simp [Aft, Region.binds] at haf
          obtain ⟨vs, hvs, hPh, hnx⟩ := hC.step 0 (by decide) hlk (Or.inl rfl) (by decide) (by decide)
          rw [hPhE] at hPh
          have e9 : A.tmps[9]? = some (.pointer (some ⟨g, 0, none⟩)) := hFm.is 2 9 rfl (hP 2 9 (by simp [haf]) rfl)
          clear hC
          refine ⟨?_⟩
          have HPh := hide hPh
          have Hnx := hide hnx
          clear hPh hnx
          go_simp
          refine (HC2.out wr HPh.out.2 (fun e => by cases e)).mono ?_
          rintro e w9 ⟨m9, q9, u, rfl, ⟨nm2, ifc2, sup2, abv2, fields2, invs2, ctors2, meths2, p2, A9, B9, C9, D9, E9, hr9, rfl, xA2, xB2, xC2, xD2, xE2⟩⟩
          obtain ⟨qA2, cA2, rfl⟩ := xA2.slice
          obtain ⟨qB2, cB2, rfl⟩ := xB2.slice
          obtain ⟨qC2, cC2, rfl⟩ := xC2.slice
          obtain ⟨qD2, cD2, rfl⟩ := xD2.slice
          obtain ⟨qE2, cE2, rfl⟩ := xE2.slice
          have m99 := MvR.to (HPh.out.1 (by decide)) m9
          have hz9 := (HPh.out.1 (by decide)).size
          go_simp
          exact hK _ _ trivial (Hnx.out _ _ (by rw [hPhE]; exact ⟨fun _ => m99, _, _, _, _, _, _, _, _, _, _, _, _, _, _, _, _, _, _, _, hr9, rfl, m99, q9, xA2.stay (fun b hb _ => ⟨rfl, Nat.le_trans hz9 hb⟩), xB2.stay (fun b hb _ => ⟨rfl, Nat.le_trans hz9 hb⟩), xC2.stay (fun b hb _ => ⟨rfl, Nat.le_trans hz9 hb⟩), xD2.stay (fun b hb _ => ⟨rfl, Nat.le_trans hz9 hb⟩), xE2.stay (fun b hb _ => ⟨rfl, Nat.le_trans hz9 hb⟩)⟩))
        refine StepsF.run rfl ?_ ?_
        · intro L U wr hC hP hlk hcl haf A K hFm hK
          simp [Aft, Region.binds] at haf
          obtain ⟨vs, hvs, hPh, hnx⟩ := hC.step 1 (by decide) hlk (Or.inr (by first | exact haf | exact haf.1 | exact haf.2 | simp [chN, haf])) (by decide) (by decide)
          rw [hPhE] at hPh
          have e10 : A.tmps[10]? = some (vs 0) := hFm.is 3 10 rfl (hvs 0 10 (by decide) rfl)
          clear hC
          obtain ⟨h3, nm2, ifc2, sup2, abv2, fields2, invs2, ctors2, meths2, p2, qA2, cA2, qB2, cB2, qC2, cC2, qD2, cD2, qE2, cE2, hr9, hv9, m9, q9, xA2, xB2, xC2, xD2, xE2⟩ := hPh
          rw [hv9] at e10
          have HZ := hide (And.intro hr9 (And.intro m9 (And.intro q9 (And.intro xA2 (And.intro xB2 (And.intro xC2 (And.intro xD2 xE2)))))))
          have Hnx := hide hnx
          clear h3 hr9 m9 q9 xA2 xB2 xC2 xD2 xE2 hnx hv9
          refine ⟨?_⟩
          go_simp
          exact hK _ _ trivial (Hnx.out _ _ (by rw [hPhE]; exact ⟨fun _ => Sat.Mv.alloc HZ.out.2.1 _, _, _, _, _, _, _, _, _, _, _, _, _, _, _, _, _, _, _, _, HZ.out.1, ⟨wr.heap.size, rfl, heap_alloc_new wr _⟩, Sat.Mv.alloc HZ.out.2.1 _, HZ.out.2.2.1.alloc _, HZ.out.2.2.2.1.stay (fun b hb hl => ⟨Below.heap_alloc wr _ b hl, hb⟩), HZ.out.2.2.2.2.1.stay (fun b hb hl => ⟨Below.heap_alloc wr _ b hl, hb⟩), HZ.out.2.2.2.2.2.1.stay (fun b hb hl => ⟨Below.heap_alloc wr _ b hl, hb⟩), HZ.out.2.2.2.2.2.2.1.stay (fun b hb hl => ⟨Below.heap_alloc wr _ b hl, hb⟩), HZ.out.2.2.2.2.2.2.2.stay (fun b hb hl => ⟨Below.heap_alloc wr _ b hl, hb⟩)⟩))
        refine StepsF.run rfl ?_ ?_
        · intro L U wr hC hP hlk hcl haf A K hFm hK
          simp [Aft, Region.binds] at haf
          obtain ⟨vs, hvs, hPh, hnx⟩ := hC.step 2 (by decide) hlk (Or.inr (by first | exact haf | exact haf.1 | exact haf.2 | simp [chN, haf])) (by decide) (by decide)
          rw [hPhE] at hPh
          have e8 : A.tmps[8]? = some (.slice q0L n0L c0L) := hFm.is 1 8 rfl (hP 1 8 (by simp [haf]) rfl)
          have e11 : A.tmps[11]? = some (vs 1) := hFm.is 4 11 rfl (hvs 1 11 (by decide) rfl)
          clear hC
          obtain ⟨h3, nm2, ifc2, sup2, abv2, fields2, invs2, ctors2, meths2, p2, qA2, cA2, qB2, cB2, qC2, cC2, qD2, cD2, qE2, cE2, hr9, ho9, m9, q9, xA2, xB2, xC2, xD2, xE2⟩ := hPh
          have hxr : XR wr (fun b => W.heap.size ≤ b) [.string (tx nm2), .bool ifc2, .string (tx sup2), .slice qA2 abv2.length cA2, .slice qB2 fields2.length cB2, .slice qC2 invs2.length cC2, .slice qD2 ctors2.length cD2, .slice qE2 meths2.length cE2, .int .i64 (p2 : Nat)] (clR nm2 ifc2 sup2 abv2 fields2 invs2 ctors2 meths2 p2) := (.cons (X.s _ _ _) (.cons (X.b _ _ _) (.cons (X.s _ _ _) (.cons xA2 (.cons xB2 (.cons xC2 (.cons xD2 (.cons xE2 (.cons (X.a _ _ _) .nil)))))))))
          have hlf := HLF.out.far m9 (fun b hb hl hk => by have hk : b = g := hk; have hb : (w.heap.size + 2 ≤ b) := hb; omega) (fun b k => k)
          have hown : ∀ b, (Value.ownBlock (.slice q0L n0L c0L)) = some b → b < W.heap.size := fun b hb => HLF.out.ol.lt hb
          have hown2 : ∀ b, (Value.ownBlock (.slice q0L n0L c0L)) = some b → (w.heap.size + 2 ≤ b) := fun b hb => HLF.out.own b hb
          have hz9 := m9.size
          refine ⟨?_⟩
          refine Euf.wp_push1 (.tmp 8) (.tmp 11) 23 rfl 9 78 _ 168 uK_list iK_elem (by decide) rfl (by decide) (.slice q0L n0L c0L) (rows0 : List (List V)).length C0L (by simp [Act.eval, e8]) hlf.ol hlf.len [.string (tx nm2), .bool ifc2, .string (tx sup2), .slice qA2 abv2.length cA2, .slice qB2 fields2.length cB2, .slice qC2 invs2.length cC2, .slice qD2 ctors2.length cD2, .slice qE2 meths2.length cE2, .int .i64 (p2 : Nat)] 78 (vs 1) ho9 (by simp [Act.eval, e11]) rfl (by intro u hu; simp at hu; rcases hu with rfl | rfl | rfl | rfl | rfl | rfl | rfl | rfl | rfl <;> rfl) (by have := HCNT.out; omega) (putC C0L (rows0 : List (List V)).length [.string (tx nm2), .bool ifc2, .string (tx sup2), .slice qA2 abv2.length cA2, .slice qB2 fields2.length cB2, .slice qC2 invs2.length cC2, .slice qD2 ctors2.length cD2, .slice qE2 meths2.length cE2, .int .i64 (p2 : Nat)]) (fun k hk => by unfold putC; rw [if_neg (by omega)]) (by unfold putC; rw [if_pos rfl]) ?_
          intro v9 w9 hol9 hap9 hne9
          have hlf9 := LF.push1 (F' := (fun b => (w.heap.size + 2 ≤ b))) hlf (fun b => W.heap.size ≤ b) rfl hxr hol9 hap9 (fun b k => k) (fun b hb => ⟨by have hb : W.heap.size ≤ b := hb; show (w.heap.size + 2 ≤ b); omega, fun k => by have := hown b k; have hb : W.heap.size ≤ b := hb; omega⟩) (fun b hb => by show (w.heap.size + 2 ≤ b); omega)
          obtain ⟨q9v, c9v, rfl⟩ := hlf9.shape
          have hm9 : Sat.Mv (fun b => b = g ∨ (w.heap.size + 2 ≤ b)) W w9 := Mv.appF (F := fun b => (w.heap.size + 2 ≤ b)) m9 hown2 hap9
          have hq9 := Q.mv q9 (Sat.Mv.app (F := fun b => (w.heap.size + 2 ≤ b)) (Sat.Mv.refl _ wr) hap9 (fun b hb => Or.inl (hown2 b hb))) (fun b hb => by have hb : (w.heap.size + 2 ≤ b) := hb; omega)
          obtain ⟨n9v, hn9⟩ : ∃ n9v, n9v = (rows0 ++ [(clR nm2 ifc2 sup2 abv2 fields2 invs2 ctors2 meths2 p2)]).length := ⟨_, rfl⟩
          rw [← hn9] at hlf9 ⊢
          exact hK _ _ trivial (hnx _ _ (by rw [hPhE]; exact ⟨(fun h => absurd h (by decide)), _, _, _, _, _, _, _, _, _, hr9, q9v, n9v, c9v, _, by rw [hn9]; simp <;> omega, rfl, hlf9, hm9, hq9⟩))
        refine StepsF.run rfl ?_ ?_
        · intro L U wr hC hP hlk hcl haf A K hFm hK
          clear haf
          have e3 : A.tmps[3]? = some (.pointer (some ⟨w.heap.size + 1, 0, none⟩)) := (hFm.old 3 (by decide)).trans (by kernel_rfl)
          have HC9 := hide hC
          clear hC
          refine ⟨?_⟩
          go_simp
          exact hK _ _ rfl (HC9.out.read (by decide) (by decide))
        refine StepsF.run rfl ?_ StepsF.nil
        · intro L U wr hC hP hlk hcl haf A K hFm hK
          simp [Aft, Region.binds] at haf
          obtain ⟨vs, hvs, hPh, hnx⟩ := hC.step 3 (by decide) hlk (Or.inr (by first | exact haf | exact haf.1 | exact haf.2 | simp [chN, haf])) (by decide) (by decide)
          rw [hPhE] at hPh
          have e12 : A.tmps[12]? = some (vs 2) := hFm.is 5 12 rfl (hvs 2 12 (by decide) rfl)
          have e13 : A.tmps[13]? = some (.pointer (some ⟨w.heap.size + 1, 0, none⟩)) := hFm.is 6 13 rfl (hP 6 13 (by simp [haf]) rfl)
          clear hC
          obtain ⟨h3, nm2, ifc2, sup2, abv2, fields2, invs2, ctors2, meths2, p2, hr9, q9v, n9v, c9v, C9, hn9, hv9, hlf9, hm9, hq9⟩ := hPh
          rw [hv9] at e12
          have hb9 : Blk 26 wr (w.heap.size + 1) #[.slice q0L n0L c0L, .slice none 0 0] := (hm9.other _ hLz0 (fun hk => by have hk : w.heap.size + 1 = g ∨ (w.heap.size + 2 ≤ (w.heap.size + 1)) := hk; omega)).trans HLB0.out
          obtain ⟨b9_0, b9_1, f9_0, f9_1⟩ := bk2 hb9
          have HZ := hide (And.intro hr9 (And.intro hn9 (And.intro hlf9 (And.intro hm9 (And.intro hq9 hb9)))))
          have Hnx := hide hnx
          have hl9 := hb9.lt
          clear h3 hr9 hn9 hlf9 hm9 hq9 hb9 hnx hv9
          refine ⟨?_⟩
          go_simp
          exact hK undef _ trivial (Hnx.out undef _ (by rw [hPhE]; exact ⟨(fun h => absurd h (by decide)), _, _, _, _, _, _, _, _, _, HZ.out.1, q9v, n9v, c9v, C9, HZ.out.2.1, HZ.out.2.2.1.far (Sat.Mv.set (F := fun b => b = w.heap.size + 1) (Sat.Mv.refl _ wr) (Or.inl rfl) _) (fun b hb hl hk => by have hk : b = w.heap.size + 1 := hk; have hb : (w.heap.size + 2 ≤ b) := hb; omega) (fun b k => k), Sat.Mv.set (Mv.wide HZ.out.2.2.2.1 (fun b hb => by have hb : b = g ∨ (w.heap.size + 2 ≤ b) := hb; show b = g ∨ b = w.heap.size + 1 ∨ (w.heap.size + 2 ≤ b); omega)) (Or.inl (Or.inr (Or.inl rfl))) _, HZ.out.2.2.2.2.1.set (by show lo ≤ w.heap.size + 1; omega) _, Blk.set HZ.out.2.2.2.2.2 0 _⟩))
      intro L U2 w3 hall hC hP
      obtain ⟨vs, hvs, hPh⟩ := hC.fin (by decide) (hall 7 (by decide))
      rw [hPhE] at hPh
      clear hPhE hC hP hall
      simp only [setM_some, setM_none, setM_nil]
      obtain ⟨-, nm2, ifc2, sup2, abv2, fields2, invs2, ctors2, meths2, p2, rfl, qL2, nL2, cL2, CL2, hn2, hlf9, hm9, hq9, hb9⟩ := hPh
      have HN2 := hide hn2
      clear hn2
      have z2 : w2.heap.size ≤ w3.heap.size := Nat.le_trans HMW.out.size hm9.size
      clear HLF
      have HLF := hide hlf9
      have HQ3 := hide hq9
      have HS2 := hide (mvt (Mv.wide (G := fun b => b = g ∨ b = w.heap.size ∨ b = (w.heap.size + 1) ∨ (w.heap.size + 2 ≤ b)) HMW.out (fun b hb => by have hb : b = w.heap.size ∨ b = (w.heap.size + 1) := hb; show b = g ∨ b = w.heap.size ∨ b = (w.heap.size + 1) ∨ (w.heap.size + 2 ≤ b); omega)) (Mv.wide hm9 (fun b hb => by have hb : b = g ∨ b = w.heap.size + 1 ∨ (w.heap.size + 2 ≤ b) := hb; show b = g ∨ b = w.heap.size ∨ b = (w.heap.size + 1) ∨ (w.heap.size + 2 ≤ b); omega)))
      have hB : Blk 26 w3 (w.heap.size) #[.slice none 0 0, .slice none 0 0] := (hm9.other _ hrz (fun hk => by have hk : w.heap.size = g ∨ w.heap.size = w.heap.size + 1 ∨ (w.heap.size + 2 ≤ (w.heap.size)) := hk; omega)).trans HRB.out
      clear HRB hrz
      clear HB
      have HB := hide hB
      clear hB
      clear HL0 l0_0 l0_1 f0_0 f0_1 hLl0
      have HL0 := hide hb9
      obtain ⟨l0_0, l0_1, f0_0, f0_1⟩ := bk2 HL0.out
      clear HLB0 hLz0
      have hLl0 := HL0.out.lt
      clear hm9 hq9 hlf9 hb9 hvs hgW hWz HMW HQW
      go_wp2
      go_roundg m
      case measure => omega
      case rel =>
        exact ⟨(rows0 ++ [(clR nm2 ifc2 sup2 abv2 fields2 invs2 ctors2 meths2 p2)]), qL2, nL2, cL2, CL2, s2, by omega, ⟨HRR.out, (by rw [HN2.out]; simp), (by have h9 := HP2.out _ _ rfl; simp only [kOf] at h9; have h7 := HCNT.out; simp; omega), HLF.out, HQ3.out, (mvt (mvt HS0.out HS1.out) HS2.out), HB.out, HL0.out⟩⟩
end Syn
end Go.Proofs.YtomldkljlbdnjaaGreat
