/- Methods of the reader: operands. No statement of the seat is proved here. -/
import Derived.Test.YtomldkljlbdnjaaGreatJoin12Binds
namespace Go.Proofs.YtomldkljlbdnjaaGreat
open Go.RowKit
set_option linter.unusedVariables false
set_option linter.unusedSimpArgs false
namespace Syn
open Euf (OL App Stop)
open Lex (T TL tx bs tkC FV IsNm hide)
set_option maxRecDepth 4000 in
set_option maxHeartbeats 2000000 in
theorem operands_sp (en g lo N : Nat) (k : Nat) (hk2 : 2 ≤ k) (hk7 : k ≤ 7) (hoperand : Sp 189 ShE .operand en g lo N) (hoperands : ∀ m, m ≤ N → ∀ k : Nat, 2 ≤ k → k ≤ 7 → SpA 183 #[.pointer (some ⟨g, 0, none⟩), .int .i64 (k : Int)] ShE (.operands k) en g lo m) : SpA 183 #[.pointer (some ⟨g, 0, none⟩), .int .i64 (k : Int)] ShE (.operands k) en g lo (N + 1) := by
  intro w dp st h hne
  have hgl := h.gl
  have hlw := h.lw
  have hgw := h.lt
  have HQ0 := hide h
  clear h
  obtain ⟨R, hRR⟩ : ∃ R, R = P en (N + 1) (.operands k) dp st := ⟨_, rfl⟩
  rw [← hRR] at hne ⊢
  simp only [P, wantP, nameP] at hRR
  by_cases y0 : k = 7
  case pos =>
    rw [if_pos y0] at hRR
    have HC0 : Hid (∀ w1, Q w1 g lo en dp st → P en N .operand dp st ≠ .out → Calls Tryz.prog 189 #[.pointer (some ⟨g, 0, none⟩)] w1 fun e w' => Ans ShE w1 g lo en dp e w' (P en N .operand dp st)) := fun w1 q1 hn => hoperand w1 dp st q1 hn
    generalize P en N .operand dp st = E0 at hRR HC0
    cases E0 with
    | out => exact absurd hRR hne
    | bad cc a =>
      have hI0 : (k : Int) = 7 := by omega
      have Hy0 := hide y0
      clear y0
      have HRR := hide hRR
      clear hRR
      go_enter Tryz.func183, Tryz.ntmps183
      go_wp2_with fail
      refine (step_q (fun b => b = w.heap.size) (wk := w) ?_ HQ0.out (fun b hb => by have hb : b = w.heap.size := hb; omega) (fun wz qz => HC0.out wz qz (fun e => by cases e))).mono ?_
      · (repeat' (first | with_reducible exact Sat.Mv.refl _ _ | with_reducible refine Sat.Mv.alloc ?_ _ | with_reducible refine Sat.Mv.drew ?_ | with_reducible refine Sat.Mv.drewN ?_ _ | with_reducible refine Sat.Mv.set ?_ ?_ _)) <;> (first | exact Or.inl (Or.inl rfl) | exact Or.inl (Or.inr rfl) | exact Or.inl rfl | (refine Or.inr ?_; (try simp); omega) | (refine Or.inl ?_; (try simp); omega))
      rintro e w1 ⟨⟨m2, rfl⟩, sg⟩
      go_wp2
      refine ⟨rfl, ?_⟩
      rw [HRR.out]
      refine ⟨Mv.out (seg sg m2) (fun b hb => by have hb : b = g ∨ b = w.heap.size := hb; omega), rfl⟩
    | ok r0 s0 =>
      try simp only [Res.to_ok] at hRR
      have hI0 : (k : Int) = 7 := by omega
      have Hy0 := hide y0
      clear y0
      have HRR := hide hRR
      clear hRR
      go_enter Tryz.func183, Tryz.ntmps183
      go_wp2_with fail
      refine (step_q (fun b => b = w.heap.size) (wk := w) ?_ HQ0.out (fun b hb => by have hb : b = w.heap.size := hb; omega) (fun wz qz => HC0.out wz qz (fun e => by cases e))).mono ?_
      · (repeat' (first | with_reducible exact Sat.Mv.refl _ _ | with_reducible refine Sat.Mv.alloc ?_ _ | with_reducible refine Sat.Mv.drew ?_ | with_reducible refine Sat.Mv.drewN ?_ _ | with_reducible refine Sat.Mv.set ?_ ?_ _)) <;> (first | exact Or.inl (Or.inl rfl) | exact Or.inl (Or.inr rfl) | exact Or.inl rfl | (refine Or.inr ?_; (try simp); omega) | (refine Or.inl ?_; (try simp); omega))
      rintro e w1 ⟨⟨m2, q2, u, rfl, op0, nm0, args0, tys0, p0, A0, B0, rfl, rfl, xA0, xB0⟩, sg⟩
      obtain ⟨qA0, cA0, rfl⟩ := xA0.slice
      obtain ⟨qB0, cB0, rfl⟩ := xB0.slice
      have z0 := m2.size
      try simp at z0
      have HS0 := hide (seg sg m2)
      have HQ1 := hide q2
      replace HS0 := hide (Mv.wide (G := fun b => b = g ∨ b = w.heap.size ∨ b = w1.heap.size) HS0.out (fun b hb => by have hb : b = g ∨ b = w.heap.size := hb; show b = g ∨ b = w.heap.size ∨ b = w1.heap.size; omega))
      have HX0 := hide (And.intro xA0 xB0)
      clear xA0 xB0
      have hB : Blk 49 w1 (w.heap.size) #[.string ByteArray.empty, .string ByteArray.empty, .slice none 0 0, .slice none 0 0, .int .i64 0] := m2.blk (by (repeat' (first | exact Blk.new _ _ _ | with_reducible refine Blk.alloc ?_ _ | with_reducible refine Blk.drewN ?_ _ | with_reducible refine Blk.other ?_ ?_ _)) <;> (first | (simp; omega) | simp | omega)) (by omega)
      have HB := hide hB
      clear hB
      clear m2 q2 sg
      go_wp2_with ((show wpList _ _ _ _ _ _); refine store_blk rfl 49 (.tmp 4) (.tmp 10) rfl (w.heap.size) _ rfl rfl 49 #[.string ByteArray.empty, .string ByteArray.empty, .slice none 0 0, .slice none 0 0, .int .i64 0] (by (repeat' (first | with_reducible exact HB.out | with_reducible refine Blk.alloc ?_ _ | with_reducible refine Blk.drewN ?_ _ | with_reducible refine Blk.other ?_ ?_ _ | exact HB.out)) <;> (first | (simp; omega) | simp | omega)) (by kernel_rfl) rfl rfl ?_; intro wf b2 m2; have HE := hide (show Sat.Mv (fun b => b = w.heap.size ∨ b = w1.heap.size) w1 wf from mvt (by (repeat' (first | with_reducible exact Sat.Mv.refl _ _ | with_reducible refine Sat.Mv.alloc ?_ _ | with_reducible refine Sat.Mv.drew ?_ | with_reducible refine Sat.Mv.drewN ?_ _ | with_reducible refine Sat.Mv.set ?_ ?_ _)) <;> (first | exact Or.inl (Or.inl rfl) | exact Or.inl (Or.inr rfl) | exact Or.inl rfl | (refine Or.inr ?_; (try simp); omega) | (refine Or.inl ?_; (try simp); omega))) (Mv.wide m2 (fun b hb => Or.inl hb))); have HM := hide m2; obtain ⟨c0, c1, c2, c3, c4, k0, k1, k2, k3, k4⟩ := bk5 b2; clear m2 b2)
      refine bodyPost_ret (v := .agg #[.string (tx op0), .string (tx nm0), .slice qA0 args0.length cA0, .slice qB0 tys0.length cB0, .int .i64 (p0 : Nat)]) (by simp [results, Tryz.results183, go_sem, c0, c1, c2, c3, c4]) rfl ?_
      rw [HRR.out]
      exact ans_fin (fun b => b = w.heap.size ∨ b = w1.heap.size) HE.out HS0.out (fun b hb => by have hb : b = g ∨ b = w.heap.size ∨ b = w1.heap.size := hb; omega) HQ1.out (fun b hb => by have hb : b = w.heap.size ∨ b = w1.heap.size := hb; omega) ⟨_, _, _, _, _, _, _, rfl, rfl, HX0.out.1.far (G := fun b => b = g ∨ b = w.heap.size ∨ b = w1.heap.size) (Mv.wide HE.out fun b k => Or.inr k) (by intro b hb hl hk; (try simp at hb); have hk : b = g ∨ b = w.heap.size ∨ b = w1.heap.size := hk; omega) (by intro b hb; (try simp at hb); show w.heap.size ≤ b; omega), HX0.out.2.far (G := fun b => b = g ∨ b = w.heap.size ∨ b = w1.heap.size) (Mv.wide HE.out fun b k => Or.inr k) (by intro b hb hl hk; (try simp at hb); have hk : b = g ∨ b = w.heap.size ∨ b = w1.heap.size := hk; omega) (by intro b hb; (try simp at hb); show w.heap.size ≤ b; omega)⟩
  rw [if_neg y0] at hRR
  have hk7 : k < 7 := by omega
  have hwk : wrap64 ((k : Int) + 1) = ((k + 1 : Nat) : Int) := by unfold wrap64; omega
  have hwk2 : IntKind.i64.wrap ((k : Int) + 1) = ((k + 1 : Nat) : Int) := by rw [IntKind.wrap_i64]; omega
  have HC0 : Hid (∀ w1, Q w1 g lo en dp st → P en N (.operands (k + 1)) dp st ≠ .out → Calls Tryz.prog 183 #[.pointer (some ⟨g, 0, none⟩), .int .i64 ((k + 1 : Nat) : Int)] w1 fun e w' => Ans ShE w1 g lo en dp e w' (P en N (.operands (k + 1)) dp st)) := fun w1 q1 hn => hoperands N (Nat.le_refl _) (k + 1) (by omega) (by omega) w1 dp st q1 hn
  generalize P en N (.operands (k + 1)) dp st = E0 at hRR HC0
  cases E0 with
  | out => exact absurd hRR hne
  | bad cc a =>
    have hI0 : ¬ (k : Int) = 7 := by omega
    have Hy0 := hide y0
    clear y0
    have HRR := hide hRR
    clear hRR
    go_enter Tryz.func183, Tryz.ntmps183
    go_wp2_with fail
    refine (step_q (fun b => b = w.heap.size) (wk := w) ?_ HQ0.out (fun b hb => by have hb : b = w.heap.size := hb; omega) (fun wz qz => HC0.out wz qz (fun e => by cases e))).mono ?_
    · (repeat' (first | with_reducible exact Sat.Mv.refl _ _ | with_reducible refine Sat.Mv.alloc ?_ _ | with_reducible refine Sat.Mv.drew ?_ | with_reducible refine Sat.Mv.drewN ?_ _ | with_reducible refine Sat.Mv.set ?_ ?_ _)) <;> (first | exact Or.inl (Or.inl rfl) | exact Or.inl (Or.inr rfl) | exact Or.inl rfl | (refine Or.inr ?_; (try simp); omega) | (refine Or.inl ?_; (try simp); omega))
    rintro e w1 ⟨⟨m2, rfl⟩, sg⟩
    go_wp2
    refine ⟨rfl, ?_⟩
    rw [HRR.out]
    refine ⟨Mv.out (seg sg m2) (fun b hb => by have hb : b = g ∨ b = w.heap.size := hb; omega), rfl⟩
  | ok r0 s0 =>
    try simp only [Res.to_ok] at hRR
    have hI0 : ¬ (k : Int) = 7 := by omega
    have Hy0 := hide y0
    clear y0
    have HRR := hide hRR
    clear hRR
    go_enter Tryz.func183, Tryz.ntmps183
    go_wp2_with fail
    refine (step_q (fun b => b = w.heap.size) (wk := w) ?_ HQ0.out (fun b hb => by have hb : b = w.heap.size := hb; omega) (fun wz qz => HC0.out wz qz (fun e => by cases e))).mono ?_
    · (repeat' (first | with_reducible exact Sat.Mv.refl _ _ | with_reducible refine Sat.Mv.alloc ?_ _ | with_reducible refine Sat.Mv.drew ?_ | with_reducible refine Sat.Mv.drewN ?_ _ | with_reducible refine Sat.Mv.set ?_ ?_ _)) <;> (first | exact Or.inl (Or.inl rfl) | exact Or.inl (Or.inr rfl) | exact Or.inl rfl | (refine Or.inr ?_; (try simp); omega) | (refine Or.inl ?_; (try simp); omega))
    rintro e w1 ⟨⟨m2, q2, u, rfl, op0, nm0, args0, tys0, p0, A0, B0, rfl, rfl, xA0, xB0⟩, sg⟩
    obtain ⟨qA0, cA0, rfl⟩ := xA0.slice
    obtain ⟨qB0, cB0, rfl⟩ := xB0.slice
    have z0 := m2.size
    try simp at z0
    have HS0 := hide (seg sg m2)
    have HQ1 := hide q2
    replace HS0 := hide (Mv.wide (G := fun b => b = g ∨ b = w.heap.size ∨ b = w1.heap.size) HS0.out (fun b hb => by have hb : b = g ∨ b = w.heap.size := hb; show b = g ∨ b = w.heap.size ∨ b = w1.heap.size; omega))
    have HX0 := hide (And.intro xA0 xB0)
    clear xA0 xB0
    have hB : Blk 49 w1 (w.heap.size) #[.string ByteArray.empty, .string ByteArray.empty, .slice none 0 0, .slice none 0 0, .int .i64 0] := m2.blk (by (repeat' (first | exact Blk.new _ _ _ | with_reducible refine Blk.alloc ?_ _ | with_reducible refine Blk.drewN ?_ _ | with_reducible refine Blk.other ?_ ?_ _)) <;> (first | (simp; omega) | simp | omega)) (by omega)
    have HB := hide hB
    clear hB
    clear m2 q2 sg
    go_wp2
    go_loopg [19] N (fun gk sl wl => ∃ (op1 : List UInt8) (nm1 : List UInt8) (args1 : List (List V)) (tys1 : List (List V)) (p1 : Nat) (qA1 : Option Addr) (cA1 : Nat) (qB1 : Option Addr) (cB1 : Nat) (stk : List T), gk ≤ N ∧ Hid (R = P en gk (.binl k (exR op1 nm1 args1 tys1 p1)) dp stk ∧ Q wl g lo en dp stk ∧ Sat.Mv (fun b => b = g ∨ b = w.heap.size ∨ b = w1.heap.size) w wl ∧ Blk 49 wl (w.heap.size) #[.string ByteArray.empty, .string ByteArray.empty, .slice none 0 0, .slice none 0 0, .int .i64 0] ∧ Blk 49 wl (w1.heap.size) #[.string (tx op1), .string (tx nm1), .slice qA1 args1.length cA1, .slice qB1 tys1.length cB1, .int .i64 (p1 : Nat)] ∧ X wl (fun b => w.heap.size + 1 ≤ b ∧ b ≠ w1.heap.size) (.slice qA1 args1.length cA1) (.l 0 args1) ∧ X wl (fun b => w.heap.size + 1 ≤ b ∧ b ≠ w1.heap.size) (.slice qB1 tys1.length cB1) (.l 1 tys1)))
    case atStart => exact ⟨op0, nm0, args0, tys0, p0, qA0, cA0, qB0, cB0, s0, Nat.le_refl _, ⟨HRR.out, HQ1.out.mv (G := fun b => b = w.heap.size ∨ b = w1.heap.size) (show Sat.Mv (fun b => b = w.heap.size ∨ b = w1.heap.size) w1 _ from (by (repeat' (first | with_reducible exact Sat.Mv.refl _ _ | with_reducible refine Sat.Mv.alloc ?_ _ | with_reducible refine Sat.Mv.drew ?_ | with_reducible refine Sat.Mv.drewN ?_ _ | with_reducible refine Sat.Mv.set ?_ ?_ _)) <;> (first | exact Or.inl (Or.inl rfl) | exact Or.inl (Or.inr rfl) | exact Or.inl rfl | (refine Or.inr ?_; (try simp); omega) | (refine Or.inl ?_; (try simp); omega)))) (fun b hb => by have hb : b = w.heap.size ∨ b = w1.heap.size := hb; omega), (mvt HS0.out (Mv.wide (show Sat.Mv (fun b => b = w.heap.size ∨ b = w1.heap.size) w1 _ from (by (repeat' (first | with_reducible exact Sat.Mv.refl _ _ | with_reducible refine Sat.Mv.alloc ?_ _ | with_reducible refine Sat.Mv.drew ?_ | with_reducible refine Sat.Mv.drewN ?_ _ | with_reducible refine Sat.Mv.set ?_ ?_ _)) <;> (first | exact Or.inl (Or.inl rfl) | exact Or.inl (Or.inr rfl) | exact Or.inl rfl | (refine Or.inr ?_; (try simp); omega) | (refine Or.inl ?_; (try simp); omega)))) (fun b k => Or.inr k))), (by (repeat' (first | with_reducible exact HB.out | with_reducible refine Blk.alloc ?_ _ | with_reducible refine Blk.drewN ?_ _ | with_reducible refine Blk.other ?_ ?_ _ | exact HB.out)) <;> (first | (simp; omega) | simp | omega)), (by (repeat' (first | exact Blk.new _ _ _ | with_reducible refine Blk.alloc ?_ _ | with_reducible refine Blk.drewN ?_ _ | with_reducible refine Blk.other ?_ ?_ _)) <;> (first | (simp; omega) | simp | omega)), (HX0.out.1.stay (fun b hb hl => ⟨(Mv.wide (G := fun b => b = g ∨ b = w.heap.size ∨ b = w1.heap.size) (show Sat.Mv (fun b => b = w.heap.size ∨ b = w1.heap.size) w1 _ from (by (repeat' (first | with_reducible exact Sat.Mv.refl _ _ | with_reducible refine Sat.Mv.alloc ?_ _ | with_reducible refine Sat.Mv.drew ?_ | with_reducible refine Sat.Mv.drewN ?_ _ | with_reducible refine Sat.Mv.set ?_ ?_ _)) <;> (first | exact Or.inl (Or.inl rfl) | exact Or.inl (Or.inr rfl) | exact Or.inl rfl | (refine Or.inr ?_; (try simp); omega) | (refine Or.inl ?_; (try simp); omega)))) (fun b k => Or.inr k)).other b hl (by intro hk; (try simp at hb); have hk : b = g ∨ b = w.heap.size ∨ b = w1.heap.size := hk; omega), by (try simp at hb); show w.heap.size + 1 ≤ b ∧ b ≠ w1.heap.size; omega⟩)), (HX0.out.2.stay (fun b hb hl => ⟨(Mv.wide (G := fun b => b = g ∨ b = w.heap.size ∨ b = w1.heap.size) (show Sat.Mv (fun b => b = w.heap.size ∨ b = w1.heap.size) w1 _ from (by (repeat' (first | with_reducible exact Sat.Mv.refl _ _ | with_reducible refine Sat.Mv.alloc ?_ _ | with_reducible refine Sat.Mv.drew ?_ | with_reducible refine Sat.Mv.drewN ?_ _ | with_reducible refine Sat.Mv.set ?_ ?_ _)) <;> (first | exact Or.inl (Or.inl rfl) | exact Or.inl (Or.inr rfl) | exact Or.inl rfl | (refine Or.inr ?_; (try simp); omega) | (refine Or.inl ?_; (try simp); omega)))) (fun b k => Or.inr k)).other b hl (by intro hk; (try simp at hb); have hk : b = g ∨ b = w.heap.size ∨ b = w1.heap.size := hk; omega), by (try simp at hb); show w.heap.size + 1 ≤ b ∧ b ≠ w1.heap.size; omega⟩))⟩⟩
    case round =>
      rename World => w2
      obtain ⟨op1, nm1, args1, tys1, p1, qA1, cA1, qB1, cB1, stk, hkN, HREL⟩ := hrel
      clear HRR
      try clear HB
      have hRR := HREL.out.1
      have HQ2 := hide HREL.out.2.1
      have HS1 := hide HREL.out.2.2.1
      have HB := hide HREL.out.2.2.2.1
      have HL0 := hide HREL.out.2.2.2.2.1
      have HX1 := hide HREL.out.2.2.2.2.2
      clear HREL
      have z1 := HS1.out.size
      have zB := HB.out.lt
      have hLl0 := HL0.out.lt
      have zL1 := hLl0
      obtain ⟨l0_0, l0_1, l0_2, l0_3, l0_4, f0_0, f0_1, f0_2, f0_3, f0_4⟩ := bk5 HL0.out
      cases gk with
      | zero => exact absurd hRR hne
      | succ m =>
      simp only [P, wantP, nameP] at hRR
      by_cases x3 : lvl (Syn.hd en stk).x = k
      case pos =>
        rw [if_pos x3] at hRR
        have HC5 : Hid (∀ w1, Q w1 g lo en dp stk.tail → P en m (.operands (k + 1)) dp stk.tail ≠ .out → Calls Tryz.prog 183 #[.pointer (some ⟨g, 0, none⟩), .int .i64 ((k + 1 : Nat) : Int)] w1 fun e w' => Ans ShE w1 g lo en dp e w' (P en m (.operands (k + 1)) dp stk.tail)) := fun w1 q1 hn => hoperands m (by omega) (k + 1) (by omega) (by omega) w1 dp stk.tail q1 hn
        generalize P en m (.operands (k + 1)) dp stk.tail = E5 at hRR HC5
        cases E5 with
        | out => exact absurd hRR hne
        | bad cc a =>
          have Hx3 := hide x3
          clear x3
          have HRR := hide hRR
          clear hRR
          go_wp2_with fail
          refine (step_q (fun b => b = w.heap.size ∨ b = w1.heap.size) (wk := w2) ?_ HQ2.out (fun b hb => by have hb : b = w.heap.size ∨ b = w1.heap.size := hb; omega) (fun wz qz => next_q wz g lo en dp stk qz)).mono ?_
          · (repeat' (first | with_reducible exact Sat.Mv.refl _ _ | with_reducible refine Sat.Mv.alloc ?_ _ | with_reducible refine Sat.Mv.drew ?_ | with_reducible refine Sat.Mv.drewN ?_ _ | with_reducible refine Sat.Mv.set ?_ ?_ _)) <;> (first | exact Or.inl (Or.inl rfl) | exact Or.inl (Or.inr rfl) | exact Or.inl rfl | (refine Or.inr ?_; (try simp); omega) | (refine Or.inl ?_; (try simp); omega))
          rintro e w3 ⟨⟨rfl, b2⟩, sg⟩
          have m2 : MvR g _ w3 := Sat.Mv.below b2
          have q2 : Q w3 g lo en dp stk := (HQ2.out.mv sg (fun b hb => by have hb : b = w.heap.size ∨ b = w1.heap.size := hb; omega)).below b2
          have z2 := m2.size
          try simp at z2
          have HS2 := hide (seg sg m2)
          have HQ3 := hide q2
          have hB : Blk 49 w3 (w.heap.size) #[.string ByteArray.empty, .string ByteArray.empty, .slice none 0 0, .slice none 0 0, .int .i64 0] := m2.blk (by (repeat' (first | with_reducible exact HB.out | with_reducible refine Blk.alloc ?_ _ | with_reducible refine Blk.drewN ?_ _ | with_reducible refine Blk.other ?_ ?_ _ | exact HB.out)) <;> (first | (simp; omega) | simp | omega)) (by omega)
          clear HB
          have HB := hide hB
          clear hB
          have hL : Blk 49 w3 (w1.heap.size) #[.string (tx op1), .string (tx nm1), .slice qA1 args1.length cA1, .slice qB1 tys1.length cB1, .int .i64 (p1 : Nat)] := m2.blk (by (repeat' (first | with_reducible exact HL0.out | with_reducible refine Blk.alloc ?_ _ | with_reducible refine Blk.drewN ?_ _ | with_reducible refine Blk.other ?_ ?_ _ | exact HL0.out)) <;> (first | (simp; omega) | simp | omega)) (by omega)
          clear HL0 l0_0 l0_1 l0_2 l0_3 l0_4 f0_0 f0_1 f0_2 f0_3 f0_4 hLl0
          have HL0 := hide hL
          clear hL
          obtain ⟨l0_0, l0_1, l0_2, l0_3, l0_4, f0_0, f0_1, f0_2, f0_3, f0_4⟩ := bk5 HL0.out
          have hLl0 := HL0.out.lt
          clear m2 q2 sg b2
          simp only [TV]
          have F12 := fun w => field_text (tx (Syn.hd en stk).x) (Syn.hd en stk).k (Syn.hd en stk).a w
          have F22 := fun w => field_place (tx (Syn.hd en stk).x) (Syn.hd en stk).k (Syn.hd en stk).a w
          go_wp2_with fail
          refine (step_q (fun b => b = w.heap.size ∨ b = w1.heap.size) (wk := w3) ?_ HQ3.out (fun b hb => by have hb : b = w.heap.size ∨ b = w1.heap.size := hb; omega) (fun wz qz => signLevel_any (Syn.hd en stk).x wz)).mono ?_
          · (repeat' (first | with_reducible exact Sat.Mv.refl _ _ | with_reducible refine Sat.Mv.alloc ?_ _ | with_reducible refine Sat.Mv.drew ?_ | with_reducible refine Sat.Mv.drewN ?_ _ | with_reducible refine Sat.Mv.set ?_ ?_ _)) <;> (first | exact Or.inl (Or.inl rfl) | exact Or.inl (Or.inr rfl) | exact Or.inl rfl | (refine Or.inr ?_; (try simp); omega) | (refine Or.inl ?_; (try simp); omega))
          have hJ3 : ((lvl (Syn.hd en stk).x : Nat) : Int) = (k : Int) := by have := Hx3.out; omega
          rintro e w4 ⟨⟨rfl, b2⟩, sg⟩
          have m2 : MvR g _ w4 := Sat.Mv.below b2
          have q2 : Q w4 g lo en dp stk := (HQ3.out.mv sg (fun b hb => by have hb : b = w.heap.size ∨ b = w1.heap.size := hb; omega)).below b2
          have z3 := m2.size
          try simp at z3
          have HS3 := hide (seg sg m2)
          have HQ4 := hide q2
          have hB : Blk 49 w4 (w.heap.size) #[.string ByteArray.empty, .string ByteArray.empty, .slice none 0 0, .slice none 0 0, .int .i64 0] := m2.blk (by (repeat' (first | with_reducible exact HB.out | with_reducible refine Blk.alloc ?_ _ | with_reducible refine Blk.drewN ?_ _ | with_reducible refine Blk.other ?_ ?_ _ | exact HB.out)) <;> (first | (simp; omega) | simp | omega)) (by omega)
          clear HB
          have HB := hide hB
          clear hB
          have hL : Blk 49 w4 (w1.heap.size) #[.string (tx op1), .string (tx nm1), .slice qA1 args1.length cA1, .slice qB1 tys1.length cB1, .int .i64 (p1 : Nat)] := m2.blk (by (repeat' (first | with_reducible exact HL0.out | with_reducible refine Blk.alloc ?_ _ | with_reducible refine Blk.drewN ?_ _ | with_reducible refine Blk.other ?_ ?_ _ | exact HL0.out)) <;> (first | (simp; omega) | simp | omega)) (by omega)
          clear HL0 l0_0 l0_1 l0_2 l0_3 l0_4 f0_0 f0_1 f0_2 f0_3 f0_4 hLl0
          have HL0 := hide hL
          clear hL
          obtain ⟨l0_0, l0_1, l0_2, l0_3, l0_4, f0_0, f0_1, f0_2, f0_3, f0_4⟩ := bk5 HL0.out
          have hLl0 := HL0.out.lt
          clear m2 q2 sg b2
          go_wp2_with fail
          refine (step_q (fun b => b = w.heap.size ∨ b = w1.heap.size) (wk := w4) ?_ HQ4.out (fun b hb => by have hb : b = w.heap.size ∨ b = w1.heap.size := hb; omega) (fun wz qz => take_q wz g lo en dp stk qz (by exact lvl_ne Hx3.out (by omega)))).mono ?_
          · (repeat' (first | with_reducible exact Sat.Mv.refl _ _ | with_reducible refine Sat.Mv.alloc ?_ _ | with_reducible refine Sat.Mv.drew ?_ | with_reducible refine Sat.Mv.drewN ?_ _ | with_reducible refine Sat.Mv.set ?_ ?_ _)) <;> (first | exact Or.inl (Or.inl rfl) | exact Or.inl (Or.inr rfl) | exact Or.inl rfl | (refine Or.inr ?_; (try simp); omega) | (refine Or.inl ?_; (try simp); omega))
          rintro e w5 ⟨⟨rfl, q2, m2⟩, sg⟩
          have z4 := m2.size
          try simp at z4
          have HS4 := hide (seg sg m2)
          have HQ5 := hide q2
          have hB : Blk 49 w5 (w.heap.size) #[.string ByteArray.empty, .string ByteArray.empty, .slice none 0 0, .slice none 0 0, .int .i64 0] := m2.blk (by (repeat' (first | with_reducible exact HB.out | with_reducible refine Blk.alloc ?_ _ | with_reducible refine Blk.drewN ?_ _ | with_reducible refine Blk.other ?_ ?_ _ | exact HB.out)) <;> (first | (simp; omega) | simp | omega)) (by omega)
          clear HB
          have HB := hide hB
          clear hB
          have hL : Blk 49 w5 (w1.heap.size) #[.string (tx op1), .string (tx nm1), .slice qA1 args1.length cA1, .slice qB1 tys1.length cB1, .int .i64 (p1 : Nat)] := m2.blk (by (repeat' (first | with_reducible exact HL0.out | with_reducible refine Blk.alloc ?_ _ | with_reducible refine Blk.drewN ?_ _ | with_reducible refine Blk.other ?_ ?_ _ | exact HL0.out)) <;> (first | (simp; omega) | simp | omega)) (by omega)
          clear HL0 l0_0 l0_1 l0_2 l0_3 l0_4 f0_0 f0_1 f0_2 f0_3 f0_4 hLl0
          have HL0 := hide hL
          clear hL
          obtain ⟨l0_0, l0_1, l0_2, l0_3, l0_4, f0_0, f0_1, f0_2, f0_3, f0_4⟩ := bk5 HL0.out
          have hLl0 := HL0.out.lt
          clear m2 q2 sg
          simp only [TV]
          have F14 := fun w => field_text (tx (Syn.hd en stk).x) (Syn.hd en stk).k (Syn.hd en stk).a w
          have F24 := fun w => field_place (tx (Syn.hd en stk).x) (Syn.hd en stk).k (Syn.hd en stk).a w
          go_wp2_with fail
          refine region_at ?_
          intro W hW
          have hMW : Sat.Mv (fun b => b = w.heap.size ∨ b = w1.heap.size) w5 W := by rw [hW]; (repeat' (first | with_reducible exact Sat.Mv.refl _ _ | with_reducible refine Sat.Mv.alloc ?_ _ | with_reducible refine Sat.Mv.drew ?_ | with_reducible refine Sat.Mv.drewN ?_ _ | with_reducible refine Sat.Mv.set ?_ ?_ _)) <;> (first | exact Or.inl (Or.inl rfl) | exact Or.inl (Or.inr rfl) | exact Or.inl rfl | (refine Or.inr ?_; (try simp); omega) | (refine Or.inl ?_; (try simp); omega))
          have hRB : Blk 49 W (w.heap.size) #[.string ByteArray.empty, .string ByteArray.empty, .slice none 0 0, .slice none 0 0, .int .i64 0] := by rw [hW]; (repeat' (first | with_reducible exact HB.out | with_reducible refine Blk.alloc ?_ _ | with_reducible refine Blk.drewN ?_ _ | with_reducible refine Blk.other ?_ ?_ _ | exact HB.out)) <;> (first | (simp; omega) | simp | omega)
          have hLB0 : Blk 49 W (w1.heap.size) #[.string (tx op1), .string (tx nm1), .slice qA1 args1.length cA1, .slice qB1 tys1.length cB1, .int .i64 (p1 : Nat)] := by rw [hW]; (repeat' (first | with_reducible exact HL0.out | with_reducible refine Blk.alloc ?_ _ | with_reducible refine Blk.drewN ?_ _ | with_reducible refine Blk.other ?_ ?_ _ | exact HL0.out)) <;> (first | (simp; omega) | simp | omega)
          have hLB1 : Blk 43 W (w5.heap.size) #[.int .i64 ((Syn.hd en stk).k : Nat), .string (tx (Syn.hd en stk).x), .int .i64 ((Syn.hd en stk).a : Nat)] := by rw [hW]; (repeat' (first | exact Blk.new _ _ _ | with_reducible refine Blk.alloc ?_ _ | with_reducible refine Blk.drewN ?_ _ | with_reducible refine Blk.other ?_ ?_ _)) <;> (first | (simp; omega) | simp | omega)
          have HXW := hide (And.intro (HX1.out.1.stay (w' := W) (fun b hb hl => ⟨(mvt (mvt (mvt HS2.out HS3.out) HS4.out) (Mv.wide (G := fun b => b = g ∨ b = w.heap.size ∨ b = w1.heap.size) hMW (fun b k => Or.inr k))).other b hl (by intro hk; (try simp at hb); have hk : b = g ∨ b = w.heap.size ∨ b = w1.heap.size := hk; omega), hb⟩)) (HX1.out.2.stay (w' := W) (fun b hb hl => ⟨(mvt (mvt (mvt HS2.out HS3.out) HS4.out) (Mv.wide (G := fun b => b = g ∨ b = w.heap.size ∨ b = w1.heap.size) hMW (fun b k => Or.inr k))).other b hl (by intro hk; (try simp at hb); have hk : b = g ∨ b = w.heap.size ∨ b = w1.heap.size := hk; omega), hb⟩)))
          have HMW := hide hMW
          have HRB := hide hRB
          have HQW := hide (HQ5.out.mv hMW (fun b hb => by have hb : b = w.heap.size ∨ b = w1.heap.size := hb; omega))
          have hgW := HQW.out.lt
          have hWz := hMW.size
          have hrz := hRB.lt
          clear hMW hRB hW
          have HLB0 := hide hLB0
          have hLz0 := hLB0.lt
          clear hLB0
          have HLB1 := hide hLB1
          have hLz1 := hLB1.lt
          clear hLB1
          obtain ⟨Ph, hPhE⟩ : ∃ Ph : Phase, Ph = (fun i vs wz => (i < 3 → MvR g W wz) ∧ match i with | 0 => Q wz g lo en dp stk.tail | _ => False) := ⟨_, rfl⟩
          refine wp_region_F (by kernel_rfl) [some 23, some 24, some 25, some 26, some 27, some 28, some 29, none] [none, none, none, none, none, none, none, none, none, none, none, none, none, none, none, none, none, none, none, none, none, none, none, some 23, some 24, some 25, some 26, some 27, some 28, some 29] (fun U => by kernel_rfl) [fun u => u = (.agg #[.string (tx op1), .string (tx nm1), .slice qA1 args1.length cA1, .slice qB1 tys1.length cB1, .int .i64 (p1 : Nat)]), fun u => u = (.agg #[.int .i64 ((Syn.hd en stk).k : Nat), .string (tx (Syn.hd en stk).x), .int .i64 ((Syn.hd en stk).a : Nat)]), fun u => u = (.pointer (some ⟨g, 0, none⟩)), fun u => u = (.int .i64 (k : Nat)), fun u => u = (.int .i64 ((k + 1 : Nat) : Int)), fun _ => True, fun _ => True, fun _ => True] (PC [(5, some 28), (6, some 29), (7, none)] Ph) (by kernel_rfl) (by decide) (by kernel_rfl) (by kernel_rfl) (fun U => PC.start (by rw [hPhE]; exact ⟨fun _ => Sat.Mv.below (Below.refl _ _).drew, HQW.out.below (Below.refl _ _).drew⟩)) ?_ ?_
          · refine StepsF.run rfl ?_ ?_
            · intro L U wr hC hP hlk hcl haf A K hFm hK
              clear haf
              have e5 : A.tmps[5]? = some (.pointer (some ⟨w1.heap.size, 0, none⟩)) := (hFm.old 5 (by decide)).trans (by kernel_rfl)
              have hkb : L 6 = false := by cases h : L 6 with | false => rfl | true => have h9 := hcl 6 _ rfl h; simp [Aft, Region.binds, hlk] at h9
              obtain ⟨iz, vz, hiz, hPz⟩ := hC.at_ 1 (by decide) hkb
              rw [hPhE] at hPz
              have hMz : MvR g W wr := hPz.1 (by omega)
              clear hPz hiz
              have hLk := hMz.blk HLB0.out (by omega)
              obtain ⟨b9_0, b9_1, b9_2, b9_3, b9_4, f9_0, f9_1, f9_2, f9_3, f9_4⟩ := bk5 hLk
              clear hLk
              have HC9 := hide hC
              clear hC hMz
              refine ⟨?_⟩
              go_simp
              exact hK _ _ rfl (HC9.out.read (by decide) (by decide))
            refine StepsF.run rfl ?_ ?_
            · intro L U wr hC hP hlk hcl haf A K hFm hK
              clear haf
              have e6 : A.tmps[6]? = some (.pointer (some ⟨w5.heap.size, 0, none⟩)) := (hFm.old 6 (by decide)).trans (by kernel_rfl)
              have hkb : L 6 = false := by cases h : L 6 with | false => rfl | true => have h9 := hcl 6 _ rfl h; simp [Aft, Region.binds, hlk] at h9
              obtain ⟨iz, vz, hiz, hPz⟩ := hC.at_ 1 (by decide) hkb
              rw [hPhE] at hPz
              have hMz : MvR g W wr := hPz.1 (by omega)
              clear hPz hiz
              have hLk := hMz.blk HLB1.out (by omega)
              obtain ⟨b9_0, b9_1, b9_2, f9_0, f9_1, f9_2⟩ := bk3 hLk
              clear hLk
              have HC9 := hide hC
              clear hC hMz
              refine ⟨?_⟩
              go_simp
              exact hK _ _ rfl (HC9.out.read (by decide) (by decide))
            refine StepsF.run rfl ?_ ?_
            · intro L U wr hC hP hlk hcl haf A K hFm hK
              clear haf
              have e0 : A.tmps[0]? = some (.pointer (some ⟨g, 0, none⟩)) := (hFm.old 0 (by decide)).trans (by kernel_rfl)
              have HC9 := hide hC
              clear hC
              refine ⟨?_⟩
              go_simp
              exact hK _ _ rfl (HC9.out.read (by decide) (by decide))
            refine StepsF.run rfl ?_ ?_
            · intro L U wr hC hP hlk hcl haf A K hFm hK
              clear haf
              have e1 : A.tmps[1]? = some (.int .i64 (k : Nat)) := (hFm.old 1 (by decide)).trans (by kernel_rfl)
              have HC9 := hide hC
              clear hC
              refine ⟨?_⟩
              go_simp
              exact hK _ _ rfl (HC9.out.read (by decide) (by decide))
            refine StepsF.run rfl ?_ ?_
            · intro L U wr hC hP hlk hcl haf A K hFm hK
              simp [Aft, Region.binds] at haf
              have e26 : A.tmps[26]? = some (.int .i64 (k : Nat)) := hFm.is 3 26 rfl (hP 3 26 (by simp [haf]) rfl)
              have HC9 := hide hC
              clear hC
              refine ⟨?_⟩
              go_simp
              exact hK _ _ rfl (HC9.out.read (by decide) (by decide))
            refine StepsF.run rfl ?_ ?_
            · intro L U wr hC hP hlk hcl haf A K hFm hK
              simp [Aft, Region.binds] at haf
              obtain ⟨vs, hvs, hPh, hnx⟩ := hC.step 0 (by decide) hlk (Or.inl rfl) (by decide) (by decide)
              rw [hPhE] at hPh
              have e25 : A.tmps[25]? = some (.pointer (some ⟨g, 0, none⟩)) := hFm.is 2 25 rfl (hP 2 25 (by simp [haf]) rfl)
              have e27 : A.tmps[27]? = some (.int .i64 ((k + 1 : Nat) : Int)) := hFm.is 4 27 rfl (hP 4 27 (by simp [haf]) rfl)
              clear hC
              refine ⟨?_⟩
              have HPh := hide hPh
              have Hnx := hide hnx
              clear hPh hnx
              go_simp
              refine (HC5.out wr HPh.out.2 (fun e => by cases e)).mono ?_
              rintro e w9 ⟨m9, rfl⟩
              obtain ⟨tm9, df9⟩ := A
              have hd9 : df9 = [] := hFm.def_
              subst hd9
              clear hFm hK
              go_simp
              refine ⟨rfl, ?_⟩
              rw [HRR.out]
              exact ⟨Mv.out (mvt (mvt (mvt (mvt HS1.out HS2.out) HS3.out) HS4.out) (seg HMW.out (MvR.to (HPh.out.1 (by decide)) m9))) (fun b hb => by have hb : b = g ∨ b = w.heap.size ∨ b = w1.heap.size := hb; omega), rfl⟩
            refine StepsF.run rfl ?_ ?_
            · intro L U wr hC hP hlk hcl haf A K hFm hK
              simp [Aft, Region.binds] at haf
              obtain ⟨vs, hvs, hPh, hnx⟩ := hC.step 1 (by decide) hlk (Or.inr (by first | exact haf | exact haf.1 | exact haf.2 | simp [chN, haf])) (by decide) (by decide)
              rw [hPhE] at hPh
              have e23 : A.tmps[23]? = some (.agg #[.string (tx op1), .string (tx nm1), .slice qA1 args1.length cA1, .slice qB1 tys1.length cB1, .int .i64 (p1 : Nat)]) := hFm.is 0 23 rfl (hP 0 23 (by simp [haf]) rfl)
              have e24 : A.tmps[24]? = some (.agg #[.int .i64 ((Syn.hd en stk).k : Nat), .string (tx (Syn.hd en stk).x), .int .i64 ((Syn.hd en stk).a : Nat)]) := hFm.is 1 24 rfl (hP 1 24 (by simp [haf]) rfl)
              have e28 : A.tmps[28]? = some (vs 0) := hFm.is 5 28 rfl (hvs 0 28 (by decide) rfl)
              clear hC
              exact hPh.2.elim
            refine StepsF.run rfl ?_ StepsF.nil
            · intro L U wr hC hP hlk hcl haf A K hFm hK
              simp [Aft, Region.binds] at haf
              obtain ⟨vs, hvs, hPh, hnx⟩ := hC.step 2 (by decide) hlk (Or.inr (by first | exact haf | exact haf.1 | exact haf.2 | simp [chN, haf])) (by decide) (by decide)
              rw [hPhE] at hPh
              have e29 : A.tmps[29]? = some (vs 1) := hFm.is 6 29 rfl (hvs 1 29 (by decide) rfl)
              have e5 : A.tmps[5]? = some (.pointer (some ⟨w1.heap.size, 0, none⟩)) := (hFm.old 5 (by decide)).trans (by kernel_rfl)
              clear hC
              exact hPh.2.elim
          intro L U5 w6 hall hC hP
          obtain ⟨vs, hvs, hPh⟩ := hC.fin (by decide) (hall 7 (by decide))
          rw [hPhE] at hPh
          clear hPhE hC hP hall
          simp only [setM_some, setM_none, setM_nil]
          exact hPh.2.elim
        | ok r5 s5 =>
          try simp only [Res.to_ok] at hRR
          by_cases y1 : k = 4
          case pos =>
            rw [if_pos y1] at hRR
            have Hy1 := hide y1
            clear y1
            have Hx3 := hide x3
            clear x3
            have HRR := hide hRR
            clear hRR
            go_wp2_with fail
            refine (step_q (fun b => b = w.heap.size ∨ b = w1.heap.size) (wk := w2) ?_ HQ2.out (fun b hb => by have hb : b = w.heap.size ∨ b = w1.heap.size := hb; omega) (fun wz qz => next_q wz g lo en dp stk qz)).mono ?_
            · (repeat' (first | with_reducible exact Sat.Mv.refl _ _ | with_reducible refine Sat.Mv.alloc ?_ _ | with_reducible refine Sat.Mv.drew ?_ | with_reducible refine Sat.Mv.drewN ?_ _ | with_reducible refine Sat.Mv.set ?_ ?_ _)) <;> (first | exact Or.inl (Or.inl rfl) | exact Or.inl (Or.inr rfl) | exact Or.inl rfl | (refine Or.inr ?_; (try simp); omega) | (refine Or.inl ?_; (try simp); omega))
            rintro e w3 ⟨⟨rfl, b2⟩, sg⟩
            have m2 : MvR g _ w3 := Sat.Mv.below b2
            have q2 : Q w3 g lo en dp stk := (HQ2.out.mv sg (fun b hb => by have hb : b = w.heap.size ∨ b = w1.heap.size := hb; omega)).below b2
            have z2 := m2.size
            try simp at z2
            have HS2 := hide (seg sg m2)
            have HQ3 := hide q2
            have hB : Blk 49 w3 (w.heap.size) #[.string ByteArray.empty, .string ByteArray.empty, .slice none 0 0, .slice none 0 0, .int .i64 0] := m2.blk (by (repeat' (first | with_reducible exact HB.out | with_reducible refine Blk.alloc ?_ _ | with_reducible refine Blk.drewN ?_ _ | with_reducible refine Blk.other ?_ ?_ _ | exact HB.out)) <;> (first | (simp; omega) | simp | omega)) (by omega)
            clear HB
            have HB := hide hB
            clear hB
            have hL : Blk 49 w3 (w1.heap.size) #[.string (tx op1), .string (tx nm1), .slice qA1 args1.length cA1, .slice qB1 tys1.length cB1, .int .i64 (p1 : Nat)] := m2.blk (by (repeat' (first | with_reducible exact HL0.out | with_reducible refine Blk.alloc ?_ _ | with_reducible refine Blk.drewN ?_ _ | with_reducible refine Blk.other ?_ ?_ _ | exact HL0.out)) <;> (first | (simp; omega) | simp | omega)) (by omega)
            clear HL0 l0_0 l0_1 l0_2 l0_3 l0_4 f0_0 f0_1 f0_2 f0_3 f0_4 hLl0
            have HL0 := hide hL
            clear hL
            obtain ⟨l0_0, l0_1, l0_2, l0_3, l0_4, f0_0, f0_1, f0_2, f0_3, f0_4⟩ := bk5 HL0.out
            have hLl0 := HL0.out.lt
            clear m2 q2 sg b2
            simp only [TV]
            have F12 := fun w => field_text (tx (Syn.hd en stk).x) (Syn.hd en stk).k (Syn.hd en stk).a w
            have F22 := fun w => field_place (tx (Syn.hd en stk).x) (Syn.hd en stk).k (Syn.hd en stk).a w
            go_wp2_with fail
            refine (step_q (fun b => b = w.heap.size ∨ b = w1.heap.size) (wk := w3) ?_ HQ3.out (fun b hb => by have hb : b = w.heap.size ∨ b = w1.heap.size := hb; omega) (fun wz qz => signLevel_any (Syn.hd en stk).x wz)).mono ?_
            · (repeat' (first | with_reducible exact Sat.Mv.refl _ _ | with_reducible refine Sat.Mv.alloc ?_ _ | with_reducible refine Sat.Mv.drew ?_ | with_reducible refine Sat.Mv.drewN ?_ _ | with_reducible refine Sat.Mv.set ?_ ?_ _)) <;> (first | exact Or.inl (Or.inl rfl) | exact Or.inl (Or.inr rfl) | exact Or.inl rfl | (refine Or.inr ?_; (try simp); omega) | (refine Or.inl ?_; (try simp); omega))
            have hJ3 : ((lvl (Syn.hd en stk).x : Nat) : Int) = (k : Int) := by have := Hx3.out; omega
            rintro e w4 ⟨⟨rfl, b2⟩, sg⟩
            have m2 : MvR g _ w4 := Sat.Mv.below b2
            have q2 : Q w4 g lo en dp stk := (HQ3.out.mv sg (fun b hb => by have hb : b = w.heap.size ∨ b = w1.heap.size := hb; omega)).below b2
            have z3 := m2.size
            try simp at z3
            have HS3 := hide (seg sg m2)
            have HQ4 := hide q2
            have hB : Blk 49 w4 (w.heap.size) #[.string ByteArray.empty, .string ByteArray.empty, .slice none 0 0, .slice none 0 0, .int .i64 0] := m2.blk (by (repeat' (first | with_reducible exact HB.out | with_reducible refine Blk.alloc ?_ _ | with_reducible refine Blk.drewN ?_ _ | with_reducible refine Blk.other ?_ ?_ _ | exact HB.out)) <;> (first | (simp; omega) | simp | omega)) (by omega)
            clear HB
            have HB := hide hB
            clear hB
            have hL : Blk 49 w4 (w1.heap.size) #[.string (tx op1), .string (tx nm1), .slice qA1 args1.length cA1, .slice qB1 tys1.length cB1, .int .i64 (p1 : Nat)] := m2.blk (by (repeat' (first | with_reducible exact HL0.out | with_reducible refine Blk.alloc ?_ _ | with_reducible refine Blk.drewN ?_ _ | with_reducible refine Blk.other ?_ ?_ _ | exact HL0.out)) <;> (first | (simp; omega) | simp | omega)) (by omega)
            clear HL0 l0_0 l0_1 l0_2 l0_3 l0_4 f0_0 f0_1 f0_2 f0_3 f0_4 hLl0
            have HL0 := hide hL
            clear hL
            obtain ⟨l0_0, l0_1, l0_2, l0_3, l0_4, f0_0, f0_1, f0_2, f0_3, f0_4⟩ := bk5 HL0.out
            have hLl0 := HL0.out.lt
            clear m2 q2 sg b2
            go_wp2_with fail
            refine (step_q (fun b => b = w.heap.size ∨ b = w1.heap.size) (wk := w4) ?_ HQ4.out (fun b hb => by have hb : b = w.heap.size ∨ b = w1.heap.size := hb; omega) (fun wz qz => take_q wz g lo en dp stk qz (by exact lvl_ne Hx3.out (by omega)))).mono ?_
            · (repeat' (first | with_reducible exact Sat.Mv.refl _ _ | with_reducible refine Sat.Mv.alloc ?_ _ | with_reducible refine Sat.Mv.drew ?_ | with_reducible refine Sat.Mv.drewN ?_ _ | with_reducible refine Sat.Mv.set ?_ ?_ _)) <;> (first | exact Or.inl (Or.inl rfl) | exact Or.inl (Or.inr rfl) | exact Or.inl rfl | (refine Or.inr ?_; (try simp); omega) | (refine Or.inl ?_; (try simp); omega))
            rintro e w5 ⟨⟨rfl, q2, m2⟩, sg⟩
            have z4 := m2.size
            try simp at z4
            have HS4 := hide (seg sg m2)
            have HQ5 := hide q2
            have hB : Blk 49 w5 (w.heap.size) #[.string ByteArray.empty, .string ByteArray.empty, .slice none 0 0, .slice none 0 0, .int .i64 0] := m2.blk (by (repeat' (first | with_reducible exact HB.out | with_reducible refine Blk.alloc ?_ _ | with_reducible refine Blk.drewN ?_ _ | with_reducible refine Blk.other ?_ ?_ _ | exact HB.out)) <;> (first | (simp; omega) | simp | omega)) (by omega)
            clear HB
            have HB := hide hB
            clear hB
            have hL : Blk 49 w5 (w1.heap.size) #[.string (tx op1), .string (tx nm1), .slice qA1 args1.length cA1, .slice qB1 tys1.length cB1, .int .i64 (p1 : Nat)] := m2.blk (by (repeat' (first | with_reducible exact HL0.out | with_reducible refine Blk.alloc ?_ _ | with_reducible refine Blk.drewN ?_ _ | with_reducible refine Blk.other ?_ ?_ _ | exact HL0.out)) <;> (first | (simp; omega) | simp | omega)) (by omega)
            clear HL0 l0_0 l0_1 l0_2 l0_3 l0_4 f0_0 f0_1 f0_2 f0_3 f0_4 hLl0
            have HL0 := hide hL
            clear hL
            obtain ⟨l0_0, l0_1, l0_2, l0_3, l0_4, f0_0, f0_1, f0_2, f0_3, f0_4⟩ := bk5 HL0.out
            have hLl0 := HL0.out.lt
            clear m2 q2 sg
            simp only [TV]
            have F14 := fun w => field_text (tx (Syn.hd en stk).x) (Syn.hd en stk).k (Syn.hd en stk).a w
            have F24 := fun w => field_place (tx (Syn.hd en stk).x) (Syn.hd en stk).k (Syn.hd en stk).a w
            go_wp2_with fail
            refine region_at ?_
            intro W hW
            have hMW : Sat.Mv (fun b => b = w.heap.size ∨ b = w1.heap.size) w5 W := by rw [hW]; (repeat' (first | with_reducible exact Sat.Mv.refl _ _ | with_reducible refine Sat.Mv.alloc ?_ _ | with_reducible refine Sat.Mv.drew ?_ | with_reducible refine Sat.Mv.drewN ?_ _ | with_reducible refine Sat.Mv.set ?_ ?_ _)) <;> (first | exact Or.inl (Or.inl rfl) | exact Or.inl (Or.inr rfl) | exact Or.inl rfl | (refine Or.inr ?_; (try simp); omega) | (refine Or.inl ?_; (try simp); omega))
            have hRB : Blk 49 W (w.heap.size) #[.string ByteArray.empty, .string ByteArray.empty, .slice none 0 0, .slice none 0 0, .int .i64 0] := by rw [hW]; (repeat' (first | with_reducible exact HB.out | with_reducible refine Blk.alloc ?_ _ | with_reducible refine Blk.drewN ?_ _ | with_reducible refine Blk.other ?_ ?_ _ | exact HB.out)) <;> (first | (simp; omega) | simp | omega)
            have hLB0 : Blk 49 W (w1.heap.size) #[.string (tx op1), .string (tx nm1), .slice qA1 args1.length cA1, .slice qB1 tys1.length cB1, .int .i64 (p1 : Nat)] := by rw [hW]; (repeat' (first | with_reducible exact HL0.out | with_reducible refine Blk.alloc ?_ _ | with_reducible refine Blk.drewN ?_ _ | with_reducible refine Blk.other ?_ ?_ _ | exact HL0.out)) <;> (first | (simp; omega) | simp | omega)
            have hLB1 : Blk 43 W (w5.heap.size) #[.int .i64 ((Syn.hd en stk).k : Nat), .string (tx (Syn.hd en stk).x), .int .i64 ((Syn.hd en stk).a : Nat)] := by rw [hW]; (repeat' (first | exact Blk.new _ _ _ | with_reducible refine Blk.alloc ?_ _ | with_reducible refine Blk.drewN ?_ _ | with_reducible refine Blk.other ?_ ?_ _)) <;> (first | (simp; omega) | simp | omega)
            have HXW := hide (And.intro (HX1.out.1.stay (w' := W) (fun b hb hl => ⟨(mvt (mvt (mvt HS2.out HS3.out) HS4.out) (Mv.wide (G := fun b => b = g ∨ b = w.heap.size ∨ b = w1.heap.size) hMW (fun b k => Or.inr k))).other b hl (by intro hk; (try simp at hb); have hk : b = g ∨ b = w.heap.size ∨ b = w1.heap.size := hk; omega), hb⟩)) (HX1.out.2.stay (w' := W) (fun b hb hl => ⟨(mvt (mvt (mvt HS2.out HS3.out) HS4.out) (Mv.wide (G := fun b => b = g ∨ b = w.heap.size ∨ b = w1.heap.size) hMW (fun b k => Or.inr k))).other b hl (by intro hk; (try simp at hb); have hk : b = g ∨ b = w.heap.size ∨ b = w1.heap.size := hk; omega), hb⟩)))
            have HMW := hide hMW
            have HRB := hide hRB
            have HQW := hide (HQ5.out.mv hMW (fun b hb => by have hb : b = w.heap.size ∨ b = w1.heap.size := hb; omega))
            have hgW := HQW.out.lt
            have hWz := hMW.size
            have hrz := hRB.lt
            clear hMW hRB hW
            have HLB0 := hide hLB0
            have hLz0 := hLB0.lt
            clear hLB0
            have HLB1 := hide hLB1
            have hLz1 := hLB1.lt
            clear hLB1
            obtain ⟨Ph, hPhE⟩ : ∃ Ph : Phase, Ph = (fun i vs wz => (i < 3 → MvR g W wz) ∧ match i with | 0 => Q wz g lo en dp stk.tail | 1 => ∃ op5 nm5 args5 tys5 p5 qA5 cA5 qB5 cB5, r5 = (exR op5 nm5 args5 tys5 p5) ∧ vs 0 = .agg #[.string (tx op5), .string (tx nm5), .slice qA5 args5.length cA5, .slice qB5 tys5.length cB5, .int .i64 (p5 : Nat)] ∧ MvR g W wz ∧ Q wz g lo en dp s5 ∧ X wz (fun b => W.heap.size ≤ b) (.slice qA5 args5.length cA5) (.l 0 args5) ∧ X wz (fun b => W.heap.size ≤ b) (.slice qB5 tys5.length cB5) (.l 1 tys5) | 2 => ∃ op5 nm5 args5 tys5 p5, r5 = (exR op5 nm5 args5 tys5 p5) ∧ ∃ bq9 : Nat, vs 1 = .agg #[.string (tx (Syn.hd en stk).x), .string { data := #[] }, .slice (some ⟨bq9, 0, none⟩) 2 2, .slice none 0 0, .int .i64 ((Syn.hd en stk).a : Nat)] ∧ MvR g W wz ∧ Q wz g lo en dp s5 ∧ X wz (fun b => w.heap.size + 1 ≤ b ∧ b ≠ w1.heap.size) (.slice (some ⟨bq9, 0, none⟩) 2 2) (.l 0 [(exR op1 nm1 args1 tys1 p1), (exR op5 nm5 args5 tys5 p5)]) | _ => ∃ op5 nm5 args5 tys5 p5, r5 = (exR op5 nm5 args5 tys5 p5) ∧ ∃ (bq9 : Nat) (wy : World), Blk 49 wz (w1.heap.size) #[.string (tx (Syn.hd en stk).x), .string { data := #[] }, .slice (some ⟨bq9, 0, none⟩) 2 2, .slice none 0 0, .int .i64 ((Syn.hd en stk).a : Nat)] ∧ Sat.Mv (fun b => b = w1.heap.size) wy wz ∧ MvR g W wy ∧ Q wy g lo en dp s5 ∧ X wy (fun b => w.heap.size + 1 ≤ b ∧ b ≠ w1.heap.size) (.slice (some ⟨bq9, 0, none⟩) 2 2) (.l 0 [(exR op1 nm1 args1 tys1 p1), (exR op5 nm5 args5 tys5 p5)])) := ⟨_, rfl⟩
            refine wp_region_F (by kernel_rfl) [some 23, some 24, some 25, some 26, some 27, some 28, some 29, none] [none, none, none, none, none, none, none, none, none, none, none, none, none, none, none, none, none, none, none, none, none, none, none, some 23, some 24, some 25, some 26, some 27, some 28, some 29] (fun U => by kernel_rfl) [fun u => u = (.agg #[.string (tx op1), .string (tx nm1), .slice qA1 args1.length cA1, .slice qB1 tys1.length cB1, .int .i64 (p1 : Nat)]), fun u => u = (.agg #[.int .i64 ((Syn.hd en stk).k : Nat), .string (tx (Syn.hd en stk).x), .int .i64 ((Syn.hd en stk).a : Nat)]), fun u => u = (.pointer (some ⟨g, 0, none⟩)), fun u => u = (.int .i64 (k : Nat)), fun u => u = (.int .i64 ((k + 1 : Nat) : Int)), fun _ => True, fun _ => True, fun _ => True] (PC [(5, some 28), (6, some 29), (7, none)] Ph) (by kernel_rfl) (by decide) (by kernel_rfl) (by kernel_rfl) (fun U => PC.start (by rw [hPhE]; exact ⟨fun _ => Sat.Mv.below (Below.refl _ _).drew, HQW.out.below (Below.refl _ _).drew⟩)) ?_ ?_
            · refine StepsF.run rfl ?_ ?_
              · intro L U wr hC hP hlk hcl haf A K hFm hK
                clear haf
                have e5 : A.tmps[5]? = some (.pointer (some ⟨w1.heap.size, 0, none⟩)) := (hFm.old 5 (by decide)).trans (by kernel_rfl)
                have hkb : L 6 = false := by cases h : L 6 with | false => rfl | true => have h9 := hcl 6 _ rfl h; simp [Aft, Region.binds, hlk] at h9
                obtain ⟨iz, vz, hiz, hPz⟩ := hC.at_ 1 (by decide) hkb
                rw [hPhE] at hPz
                have hMz : MvR g W wr := hPz.1 (by omega)
                clear hPz hiz
                have hLk := hMz.blk HLB0.out (by omega)
                obtain ⟨b9_0, b9_1, b9_2, b9_3, b9_4, f9_0, f9_1, f9_2, f9_3, f9_4⟩ := bk5 hLk
                clear hLk
                have HC9 := hide hC
                clear hC hMz
                refine ⟨?_⟩
                go_simp
                exact hK _ _ rfl (HC9.out.read (by decide) (by decide))
              refine StepsF.run rfl ?_ ?_
              · intro L U wr hC hP hlk hcl haf A K hFm hK
                clear haf
                have e6 : A.tmps[6]? = some (.pointer (some ⟨w5.heap.size, 0, none⟩)) := (hFm.old 6 (by decide)).trans (by kernel_rfl)
                have hkb : L 6 = false := by cases h : L 6 with | false => rfl | true => have h9 := hcl 6 _ rfl h; simp [Aft, Region.binds, hlk] at h9
                obtain ⟨iz, vz, hiz, hPz⟩ := hC.at_ 1 (by decide) hkb
                rw [hPhE] at hPz
                have hMz : MvR g W wr := hPz.1 (by omega)
                clear hPz hiz
                have hLk := hMz.blk HLB1.out (by omega)
                obtain ⟨b9_0, b9_1, b9_2, f9_0, f9_1, f9_2⟩ := bk3 hLk
                clear hLk
                have HC9 := hide hC
                clear hC hMz
                refine ⟨?_⟩
                go_simp
                exact hK _ _ rfl (HC9.out.read (by decide) (by decide))
              refine StepsF.run rfl ?_ ?_
              · intro L U wr hC hP hlk hcl haf A K hFm hK
                clear haf
                have e0 : A.tmps[0]? = some (.pointer (some ⟨g, 0, none⟩)) := (hFm.old 0 (by decide)).trans (by kernel_rfl)
                have HC9 := hide hC
                clear hC
                refine ⟨?_⟩
                go_simp
                exact hK _ _ rfl (HC9.out.read (by decide) (by decide))
              refine StepsF.run rfl ?_ ?_
              · intro L U wr hC hP hlk hcl haf A K hFm hK
                clear haf
                have e1 : A.tmps[1]? = some (.int .i64 (k : Nat)) := (hFm.old 1 (by decide)).trans (by kernel_rfl)
                have HC9 := hide hC
                clear hC
                refine ⟨?_⟩
                go_simp
                exact hK _ _ rfl (HC9.out.read (by decide) (by decide))
              refine StepsF.run rfl ?_ ?_
              · intro L U wr hC hP hlk hcl haf A K hFm hK
                simp [Aft, Region.binds] at haf
                have e26 : A.tmps[26]? = some (.int .i64 (k : Nat)) := hFm.is 3 26 rfl (hP 3 26 (by simp [haf]) rfl)
                have HC9 := hide hC
                clear hC
                refine ⟨?_⟩
                go_simp
                exact hK _ _ rfl (HC9.out.read (by decide) (by decide))
              refine StepsF.run rfl ?_ ?_
              · intro L U wr hC hP hlk hcl haf A K hFm hK
                simp [Aft, Region.binds] at haf
                obtain ⟨vs, hvs, hPh, hnx⟩ := hC.step 0 (by decide) hlk (Or.inl rfl) (by decide) (by decide)
                rw [hPhE] at hPh
                have e25 : A.tmps[25]? = some (.pointer (some ⟨g, 0, none⟩)) := hFm.is 2 25 rfl (hP 2 25 (by simp [haf]) rfl)
                have e27 : A.tmps[27]? = some (.int .i64 ((k + 1 : Nat) : Int)) := hFm.is 4 27 rfl (hP 4 27 (by simp [haf]) rfl)
                clear hC
                refine ⟨?_⟩
                have HPh := hide hPh
                have Hnx := hide hnx
                clear hPh hnx
                go_simp
                refine (HC5.out wr HPh.out.2 (fun e => by cases e)).mono ?_
                rintro e w9 ⟨m9, q9, u, rfl, op5, nm5, args5, tys5, p5, A5, B5, rfl, rfl, xA5, xB5⟩
                obtain ⟨qA5, cA5, rfl⟩ := xA5.slice
                obtain ⟨qB5, cB5, rfl⟩ := xB5.slice
                have m99 := MvR.to (HPh.out.1 (by decide)) m9
                have hz9 := (HPh.out.1 (by decide)).size
                go_simp
                exact hK _ _ trivial (Hnx.out _ _ (by rw [hPhE]; exact ⟨fun _ => m99, _, _, _, _, _, _, _, _, _, rfl, rfl, m99, q9, xA5.stay (fun b hb _ => ⟨rfl, Nat.le_trans hz9 hb⟩), xB5.stay (fun b hb _ => ⟨rfl, Nat.le_trans hz9 hb⟩)⟩))
              refine StepsF.run rfl ?_ ?_
              · intro L U wr hC hP hlk hcl haf A K hFm hK
                simp [Aft, Region.binds] at haf
                obtain ⟨vs, hvs, hPh, hnx⟩ := hC.step 1 (by decide) hlk (Or.inr (by first | exact haf | exact haf.1 | exact haf.2 | simp [chN, haf])) (by decide) (by decide)
                rw [hPhE] at hPh
                have e23 : A.tmps[23]? = some (.agg #[.string (tx op1), .string (tx nm1), .slice qA1 args1.length cA1, .slice qB1 tys1.length cB1, .int .i64 (p1 : Nat)]) := hFm.is 0 23 rfl (hP 0 23 (by simp [haf]) rfl)
                have e24 : A.tmps[24]? = some (.agg #[.int .i64 ((Syn.hd en stk).k : Nat), .string (tx (Syn.hd en stk).x), .int .i64 ((Syn.hd en stk).a : Nat)]) := hFm.is 1 24 rfl (hP 1 24 (by simp [haf]) rfl)
                have e28 : A.tmps[28]? = some (vs 0) := hFm.is 5 28 rfl (hvs 0 28 (by decide) rfl)
                clear hC
                obtain ⟨h3, op5, nm5, args5, tys5, p5, qA5, cA5, qB5, cB5, hr9, hv9, m9, q9, xA5, xB5⟩ := hPh
                rw [hv9] at e28
                have hz9 := m9.size
                have hb9 := between_any wr (w.heap.size + 1) (w1.heap.size) (by omega) (Syn.hd en stk) op1 nm1 args1 tys1 p1 qA1 qB1 cA1 cB1 op5 nm5 args5 tys5 p5 qA5 qB5 cA5 cB5 (by omega) (HXW.out.1.stay (fun b hb hl => ⟨m9.other b hl (fun hk => by have hk : b = g := hk; have hb : w.heap.size + 1 ≤ b ∧ b ≠ w1.heap.size := hb; omega), hb⟩)) (HXW.out.2.stay (fun b hb hl => ⟨m9.other b hl (fun hk => by have hk : b = g := hk; have hb : w.heap.size + 1 ≤ b ∧ b ≠ w1.heap.size := hb; omega), hb⟩)) (xA5.stay (fun b hb _ => ⟨rfl, by have hb : W.heap.size ≤ b := hb; show w.heap.size + 1 ≤ b ∧ b ≠ w1.heap.size; omega⟩)) (xB5.stay (fun b hb _ => ⟨rfl, by have hb : W.heap.size ≤ b := hb; show w.heap.size + 1 ≤ b ∧ b ≠ w1.heap.size; omega⟩))
                simp only [TV] at hb9
                have HBT := hide hb9
                have HZ := hide (And.intro hr9 (And.intro m9 q9))
                have Hnx := hide hnx
                clear h3 hr9 m9 q9 xA5 xB5 hnx hv9 hb9
                refine ⟨?_⟩
                go_simp
                refine HBT.out.mono ?_
                rintro e w9 ⟨hw9, bq, hbq, hbl, rfl, hx9⟩
                have m99 := MvR.to HZ.out.2.1 (Sat.Mv.below hw9)
                have q99 := HZ.out.2.2.below hw9
                go_simp
                exact hK _ _ trivial (Hnx.out _ _ (by rw [hPhE]; exact ⟨fun _ => m99, _, _, _, _, _, HZ.out.1, bq, rfl, m99, q99, hx9⟩))
              refine StepsF.run rfl ?_ StepsF.nil
              · intro L U wr hC hP hlk hcl haf A K hFm hK
                simp [Aft, Region.binds] at haf
                obtain ⟨vs, hvs, hPh, hnx⟩ := hC.step 2 (by decide) hlk (Or.inr (by first | exact haf | exact haf.1 | exact haf.2 | simp [chN, haf])) (by decide) (by decide)
                rw [hPhE] at hPh
                have e29 : A.tmps[29]? = some (vs 1) := hFm.is 6 29 rfl (hvs 1 29 (by decide) rfl)
                have e5 : A.tmps[5]? = some (.pointer (some ⟨w1.heap.size, 0, none⟩)) := (hFm.old 5 (by decide)).trans (by kernel_rfl)
                clear hC
                obtain ⟨h3, op5, nm5, args5, tys5, p5, hr9, bq, hv9, hz9⟩ := hPh
                rw [hv9] at e29
                have hb9 := (h3 (by decide)).blk HLB0.out (by omega)
                refine ⟨?_⟩
                refine op_list 49 (.tmp 5) (.tmp 29) rfl (w1.heap.size) #[.string (tx (Syn.hd en stk).x), .string { data := #[] }, .slice (some ⟨bq, 0, none⟩) 2 2, .slice none 0 0, .int .i64 ((Syn.hd en stk).a : Nat)] (by simp [Act.eval, e5]) (by simp [Act.eval, e29]) 49 #[.string (tx op1), .string (tx nm1), .slice qA1 args1.length cA1, .slice qB1 tys1.length cB1, .int .i64 (p1 : Nat)] hb9 (by kernel_rfl) rfl rfl ?_
                exact hK _ _ trivial (hnx _ _ (by rw [hPhE]; exact ⟨(fun h => absurd h (by decide)), _, _, _, _, _, hr9, bq, wr, setRow_heap wr (w1.heap.size) _ _ 49 (0, 0) hb9, ⟨rfl, rfl, rfl, by simp [World.setRow], fun k _ hk => setRow_other wr (w1.heap.size) k _ hk⟩, hz9⟩))
            intro L U5 w6 hall hC hP
            obtain ⟨vs, hvs, hPh⟩ := hC.fin (by decide) (hall 7 (by decide))
            rw [hPhE] at hPh
            clear hPhE hC hP hall
            simp only [setM_some, setM_none, setM_nil]
            obtain ⟨-, op5, nm5, args5, tys5, p5, rfl, bq5, wy, hB9, hM9, m9, q9, x9⟩ := hPh
            have hzy := m9.size
            have z5 : w5.heap.size ≤ w6.heap.size := Nat.le_trans hWz (Nat.le_trans m9.size hM9.size)
            have hBc : Blk 49 w6 (w.heap.size) #[.string ByteArray.empty, .string ByteArray.empty, .slice none 0 0, .slice none 0 0, .int .i64 0] := (hM9.other _ (by omega) (fun hk => by have hk : w.heap.size = w1.heap.size := hk; omega)).trans (m9.blk HRB.out (by omega))
            have HS5 := hide (mvt (seg HMW.out m9) (Mv.wide (G := fun b => b = g ∨ b = w.heap.size ∨ b = w1.heap.size) hM9 (fun b hb => by have hb : b = w1.heap.size := hb; show b = g ∨ b = w.heap.size ∨ b = w1.heap.size; omega)))
            have HQ6 := hide (q9.mv hM9 (fun b hb => by have hb : b = w1.heap.size := hb; omega))
            have HX5 := hide (x9.far hM9 (fun b hb hl hk => by have hk : b = w1.heap.size := hk; exact hb.2 hk) (fun b hb => hb))
            clear HB HL0 l0_0 l0_1 l0_2 l0_3 l0_4 f0_0 f0_1 f0_2 f0_3 f0_4 hLl0
            have HB := hide hBc
            have HL0 := hide hB9
            have hLl0 := HL0.out.lt
            obtain ⟨l0_0, l0_1, l0_2, l0_3, l0_4, f0_0, f0_1, f0_2, f0_3, f0_4⟩ := bk5 HL0.out
            clear hBc hB9 hM9 m9 q9 x9 hvs HMW HRB HQW HXW HLB0 HLB1 hLz0 hLz1
            have hI1 : (k : Int) = 4 := by have := Hy1.out; omega
            go_wp2_with ((show wpList _ _ _ _ _ _); refine store_blk rfl 49 (.tmp 4) (.tmp 32) rfl (w.heap.size) _ rfl rfl 49 #[.string ByteArray.empty, .string ByteArray.empty, .slice none 0 0, .slice none 0 0, .int .i64 0] (by (repeat' (first | with_reducible exact HB.out | with_reducible refine Blk.alloc ?_ _ | with_reducible refine Blk.drewN ?_ _ | with_reducible refine Blk.other ?_ ?_ _ | exact HB.out)) <;> (first | (simp; omega) | simp | omega)) (by kernel_rfl) rfl rfl ?_; intro wf b2 m2; have HE := hide (show Sat.Mv (fun b => b = w.heap.size ∨ b = w1.heap.size) w6 wf from mvt (by (repeat' (first | with_reducible exact Sat.Mv.refl _ _ | with_reducible refine Sat.Mv.alloc ?_ _ | with_reducible refine Sat.Mv.drew ?_ | with_reducible refine Sat.Mv.drewN ?_ _ | with_reducible refine Sat.Mv.set ?_ ?_ _)) <;> (first | exact Or.inl (Or.inl rfl) | exact Or.inl (Or.inr rfl) | exact Or.inl rfl | (refine Or.inr ?_; (try simp); omega) | (refine Or.inl ?_; (try simp); omega))) (Mv.wide m2 (fun b hb => Or.inl hb))); have HM := hide m2; obtain ⟨c0, c1, c2, c3, c4, k0, k1, k2, k3, k4⟩ := bk5 b2; clear m2 b2)
            refine bodyPost_ret (v := .agg #[.string (tx (Syn.hd en stk).x), .string { data := #[] }, .slice (some ⟨bq5, 0, none⟩) 2 2, .slice none 0 0, .int .i64 ((Syn.hd en stk).a : Nat)]) (by simp [results, Tryz.results183, go_sem, c0, c1, c2, c3, c4]) rfl ?_
            rw [HRR.out]
            exact ans_fin (fun b => b = w.heap.size ∨ b = w1.heap.size) HE.out (mvt (mvt (mvt (mvt HS1.out HS2.out) HS3.out) HS4.out) HS5.out) (fun b hb => by have hb : b = g ∨ b = w.heap.size ∨ b = w1.heap.size := hb; omega) HQ6.out (fun b hb => by have hb : b = w.heap.size ∨ b = w1.heap.size := hb; omega) ⟨_, _, _, _, _, _, _, rfl, rfl, HX5.out.far (G := fun b => b = g ∨ b = w.heap.size ∨ b = w1.heap.size) (Mv.wide HE.out fun b k => Or.inr k) (by intro b hb hl hk; (try simp at hb); have hk : b = g ∨ b = w.heap.size ∨ b = w1.heap.size := hk; omega) (by intro b hb; (try simp at hb); show w.heap.size ≤ b; omega), X.nil _ _ _⟩
          rw [if_neg y1] at hRR
          have Hy1 := hide y1
          clear y1
          have Hx3 := hide x3
          clear x3
          have HRR := hide hRR
          clear hRR
          go_wp2_with fail
          refine (step_q (fun b => b = w.heap.size ∨ b = w1.heap.size) (wk := w2) ?_ HQ2.out (fun b hb => by have hb : b = w.heap.size ∨ b = w1.heap.size := hb; omega) (fun wz qz => next_q wz g lo en dp stk qz)).mono ?_
          · (repeat' (first | with_reducible exact Sat.Mv.refl _ _ | with_reducible refine Sat.Mv.alloc ?_ _ | with_reducible refine Sat.Mv.drew ?_ | with_reducible refine Sat.Mv.drewN ?_ _ | with_reducible refine Sat.Mv.set ?_ ?_ _)) <;> (first | exact Or.inl (Or.inl rfl) | exact Or.inl (Or.inr rfl) | exact Or.inl rfl | (refine Or.inr ?_; (try simp); omega) | (refine Or.inl ?_; (try simp); omega))
          rintro e w3 ⟨⟨rfl, b2⟩, sg⟩
          have m2 : MvR g _ w3 := Sat.Mv.below b2
          have q2 : Q w3 g lo en dp stk := (HQ2.out.mv sg (fun b hb => by have hb : b = w.heap.size ∨ b = w1.heap.size := hb; omega)).below b2
          have z2 := m2.size
          try simp at z2
          have HS2 := hide (seg sg m2)
          have HQ3 := hide q2
          have hB : Blk 49 w3 (w.heap.size) #[.string ByteArray.empty, .string ByteArray.empty, .slice none 0 0, .slice none 0 0, .int .i64 0] := m2.blk (by (repeat' (first | with_reducible exact HB.out | with_reducible refine Blk.alloc ?_ _ | with_reducible refine Blk.drewN ?_ _ | with_reducible refine Blk.other ?_ ?_ _ | exact HB.out)) <;> (first | (simp; omega) | simp | omega)) (by omega)
          clear HB
          have HB := hide hB
          clear hB
          have hL : Blk 49 w3 (w1.heap.size) #[.string (tx op1), .string (tx nm1), .slice qA1 args1.length cA1, .slice qB1 tys1.length cB1, .int .i64 (p1 : Nat)] := m2.blk (by (repeat' (first | with_reducible exact HL0.out | with_reducible refine Blk.alloc ?_ _ | with_reducible refine Blk.drewN ?_ _ | with_reducible refine Blk.other ?_ ?_ _ | exact HL0.out)) <;> (first | (simp; omega) | simp | omega)) (by omega)
          clear HL0 l0_0 l0_1 l0_2 l0_3 l0_4 f0_0 f0_1 f0_2 f0_3 f0_4 hLl0
          have HL0 := hide hL
          clear hL
          obtain ⟨l0_0, l0_1, l0_2, l0_3, l0_4, f0_0, f0_1, f0_2, f0_3, f0_4⟩ := bk5 HL0.out
          have hLl0 := HL0.out.lt
          clear m2 q2 sg b2
          simp only [TV]
          have F12 := fun w => field_text (tx (Syn.hd en stk).x) (Syn.hd en stk).k (Syn.hd en stk).a w
          have F22 := fun w => field_place (tx (Syn.hd en stk).x) (Syn.hd en stk).k (Syn.hd en stk).a w
          go_wp2_with fail
          refine (step_q (fun b => b = w.heap.size ∨ b = w1.heap.size) (wk := w3) ?_ HQ3.out (fun b hb => by have hb : b = w.heap.size ∨ b = w1.heap.size := hb; omega) (fun wz qz => signLevel_any (Syn.hd en stk).x wz)).mono ?_
          · (repeat' (first | with_reducible exact Sat.Mv.refl _ _ | with_reducible refine Sat.Mv.alloc ?_ _ | with_reducible refine Sat.Mv.drew ?_ | with_reducible refine Sat.Mv.drewN ?_ _ | with_reducible refine Sat.Mv.set ?_ ?_ _)) <;> (first | exact Or.inl (Or.inl rfl) | exact Or.inl (Or.inr rfl) | exact Or.inl rfl | (refine Or.inr ?_; (try simp); omega) | (refine Or.inl ?_; (try simp); omega))
          have hJ3 : ((lvl (Syn.hd en stk).x : Nat) : Int) = (k : Int) := by have := Hx3.out; omega
          rintro e w4 ⟨⟨rfl, b2⟩, sg⟩
          have m2 : MvR g _ w4 := Sat.Mv.below b2
          have q2 : Q w4 g lo en dp stk := (HQ3.out.mv sg (fun b hb => by have hb : b = w.heap.size ∨ b = w1.heap.size := hb; omega)).below b2
          have z3 := m2.size
          try simp at z3
          have HS3 := hide (seg sg m2)
          have HQ4 := hide q2
          have hB : Blk 49 w4 (w.heap.size) #[.string ByteArray.empty, .string ByteArray.empty, .slice none 0 0, .slice none 0 0, .int .i64 0] := m2.blk (by (repeat' (first | with_reducible exact HB.out | with_reducible refine Blk.alloc ?_ _ | with_reducible refine Blk.drewN ?_ _ | with_reducible refine Blk.other ?_ ?_ _ | exact HB.out)) <;> (first | (simp; omega) | simp | omega)) (by omega)
          clear HB
          have HB := hide hB
          clear hB
          have hL : Blk 49 w4 (w1.heap.size) #[.string (tx op1), .string (tx nm1), .slice qA1 args1.length cA1, .slice qB1 tys1.length cB1, .int .i64 (p1 : Nat)] := m2.blk (by (repeat' (first | with_reducible exact HL0.out | with_reducible refine Blk.alloc ?_ _ | with_reducible refine Blk.drewN ?_ _ | with_reducible refine Blk.other ?_ ?_ _ | exact HL0.out)) <;> (first | (simp; omega) | simp | omega)) (by omega)
          clear HL0 l0_0 l0_1 l0_2 l0_3 l0_4 f0_0 f0_1 f0_2 f0_3 f0_4 hLl0
          have HL0 := hide hL
          clear hL
          obtain ⟨l0_0, l0_1, l0_2, l0_3, l0_4, f0_0, f0_1, f0_2, f0_3, f0_4⟩ := bk5 HL0.out
          have hLl0 := HL0.out.lt
          clear m2 q2 sg b2
          go_wp2_with fail
          refine (step_q (fun b => b = w.heap.size ∨ b = w1.heap.size) (wk := w4) ?_ HQ4.out (fun b hb => by have hb : b = w.heap.size ∨ b = w1.heap.size := hb; omega) (fun wz qz => take_q wz g lo en dp stk qz (by exact lvl_ne Hx3.out (by omega)))).mono ?_
          · (repeat' (first | with_reducible exact Sat.Mv.refl _ _ | with_reducible refine Sat.Mv.alloc ?_ _ | with_reducible refine Sat.Mv.drew ?_ | with_reducible refine Sat.Mv.drewN ?_ _ | with_reducible refine Sat.Mv.set ?_ ?_ _)) <;> (first | exact Or.inl (Or.inl rfl) | exact Or.inl (Or.inr rfl) | exact Or.inl rfl | (refine Or.inr ?_; (try simp); omega) | (refine Or.inl ?_; (try simp); omega))
          rintro e w5 ⟨⟨rfl, q2, m2⟩, sg⟩
          have z4 := m2.size
          try simp at z4
          have HS4 := hide (seg sg m2)
          have HQ5 := hide q2
          have hB : Blk 49 w5 (w.heap.size) #[.string ByteArray.empty, .string ByteArray.empty, .slice none 0 0, .slice none 0 0, .int .i64 0] := m2.blk (by (repeat' (first | with_reducible exact HB.out | with_reducible refine Blk.alloc ?_ _ | with_reducible refine Blk.drewN ?_ _ | with_reducible refine Blk.other ?_ ?_ _ | exact HB.out)) <;> (first | (simp; omega) | simp | omega)) (by omega)
          clear HB
          have HB := hide hB
          clear hB
          have hL : Blk 49 w5 (w1.heap.size) #[.string (tx op1), .string (tx nm1), .slice qA1 args1.length cA1, .slice qB1 tys1.length cB1, .int .i64 (p1 : Nat)] := m2.blk (by (repeat' (first | with_reducible exact HL0.out | with_reducible refine Blk.alloc ?_ _ | with_reducible refine Blk.drewN ?_ _ | with_reducible refine Blk.other ?_ ?_ _ | exact HL0.out)) <;> (first | (simp; omega) | simp | omega)) (by omega)
          clear HL0 l0_0 l0_1 l0_2 l0_3 l0_4 f0_0 f0_1 f0_2 f0_3 f0_4 hLl0
          have HL0 := hide hL
          clear hL
          obtain ⟨l0_0, l0_1, l0_2, l0_3, l0_4, f0_0, f0_1, f0_2, f0_3, f0_4⟩ := bk5 HL0.out
          have hLl0 := HL0.out.lt
          clear m2 q2 sg
          simp only [TV]
          have F14 := fun w => field_text (tx (Syn.hd en stk).x) (Syn.hd en stk).k (Syn.hd en stk).a w
          have F24 := fun w => field_place (tx (Syn.hd en stk).x) (Syn.hd en stk).k (Syn.hd en stk).a w
          go_wp2_with fail
          refine region_at ?_
          intro W hW
          have hMW : Sat.Mv (fun b => b = w.heap.size ∨ b = w1.heap.size) w5 W := by rw [hW]; (repeat' (first | with_reducible exact Sat.Mv.refl _ _ | with_reducible refine Sat.Mv.alloc ?_ _ | with_reducible refine Sat.Mv.drew ?_ | with_reducible refine Sat.Mv.drewN ?_ _ | with_reducible refine Sat.Mv.set ?_ ?_ _)) <;> (first | exact Or.inl (Or.inl rfl) | exact Or.inl (Or.inr rfl) | exact Or.inl rfl | (refine Or.inr ?_; (try simp); omega) | (refine Or.inl ?_; (try simp); omega))
          have hRB : Blk 49 W (w.heap.size) #[.string ByteArray.empty, .string ByteArray.empty, .slice none 0 0, .slice none 0 0, .int .i64 0] := by rw [hW]; (repeat' (first | with_reducible exact HB.out | with_reducible refine Blk.alloc ?_ _ | with_reducible refine Blk.drewN ?_ _ | with_reducible refine Blk.other ?_ ?_ _ | exact HB.out)) <;> (first | (simp; omega) | simp | omega)
          have hLB0 : Blk 49 W (w1.heap.size) #[.string (tx op1), .string (tx nm1), .slice qA1 args1.length cA1, .slice qB1 tys1.length cB1, .int .i64 (p1 : Nat)] := by rw [hW]; (repeat' (first | with_reducible exact HL0.out | with_reducible refine Blk.alloc ?_ _ | with_reducible refine Blk.drewN ?_ _ | with_reducible refine Blk.other ?_ ?_ _ | exact HL0.out)) <;> (first | (simp; omega) | simp | omega)
          have hLB1 : Blk 43 W (w5.heap.size) #[.int .i64 ((Syn.hd en stk).k : Nat), .string (tx (Syn.hd en stk).x), .int .i64 ((Syn.hd en stk).a : Nat)] := by rw [hW]; (repeat' (first | exact Blk.new _ _ _ | with_reducible refine Blk.alloc ?_ _ | with_reducible refine Blk.drewN ?_ _ | with_reducible refine Blk.other ?_ ?_ _)) <;> (first | (simp; omega) | simp | omega)
          have HXW := hide (And.intro (HX1.out.1.stay (w' := W) (fun b hb hl => ⟨(mvt (mvt (mvt HS2.out HS3.out) HS4.out) (Mv.wide (G := fun b => b = g ∨ b = w.heap.size ∨ b = w1.heap.size) hMW (fun b k => Or.inr k))).other b hl (by intro hk; (try simp at hb); have hk : b = g ∨ b = w.heap.size ∨ b = w1.heap.size := hk; omega), hb⟩)) (HX1.out.2.stay (w' := W) (fun b hb hl => ⟨(mvt (mvt (mvt HS2.out HS3.out) HS4.out) (Mv.wide (G := fun b => b = g ∨ b = w.heap.size ∨ b = w1.heap.size) hMW (fun b k => Or.inr k))).other b hl (by intro hk; (try simp at hb); have hk : b = g ∨ b = w.heap.size ∨ b = w1.heap.size := hk; omega), hb⟩)))
          have HMW := hide hMW
          have HRB := hide hRB
          have HQW := hide (HQ5.out.mv hMW (fun b hb => by have hb : b = w.heap.size ∨ b = w1.heap.size := hb; omega))
          have hgW := HQW.out.lt
          have hWz := hMW.size
          have hrz := hRB.lt
          clear hMW hRB hW
          have HLB0 := hide hLB0
          have hLz0 := hLB0.lt
          clear hLB0
          have HLB1 := hide hLB1
          have hLz1 := hLB1.lt
          clear hLB1
          obtain ⟨Ph, hPhE⟩ : ∃ Ph : Phase, Ph = (fun i vs wz => (i < 3 → MvR g W wz) ∧ match i with | 0 => Q wz g lo en dp stk.tail | 1 => ∃ op5 nm5 args5 tys5 p5 qA5 cA5 qB5 cB5, r5 = (exR op5 nm5 args5 tys5 p5) ∧ vs 0 = .agg #[.string (tx op5), .string (tx nm5), .slice qA5 args5.length cA5, .slice qB5 tys5.length cB5, .int .i64 (p5 : Nat)] ∧ MvR g W wz ∧ Q wz g lo en dp s5 ∧ X wz (fun b => W.heap.size ≤ b) (.slice qA5 args5.length cA5) (.l 0 args5) ∧ X wz (fun b => W.heap.size ≤ b) (.slice qB5 tys5.length cB5) (.l 1 tys5) | 2 => ∃ op5 nm5 args5 tys5 p5, r5 = (exR op5 nm5 args5 tys5 p5) ∧ ∃ bq9 : Nat, vs 1 = .agg #[.string (tx (Syn.hd en stk).x), .string { data := #[] }, .slice (some ⟨bq9, 0, none⟩) 2 2, .slice none 0 0, .int .i64 ((Syn.hd en stk).a : Nat)] ∧ MvR g W wz ∧ Q wz g lo en dp s5 ∧ X wz (fun b => w.heap.size + 1 ≤ b ∧ b ≠ w1.heap.size) (.slice (some ⟨bq9, 0, none⟩) 2 2) (.l 0 [(exR op1 nm1 args1 tys1 p1), (exR op5 nm5 args5 tys5 p5)]) | _ => ∃ op5 nm5 args5 tys5 p5, r5 = (exR op5 nm5 args5 tys5 p5) ∧ ∃ (bq9 : Nat) (wy : World), Blk 49 wz (w1.heap.size) #[.string (tx (Syn.hd en stk).x), .string { data := #[] }, .slice (some ⟨bq9, 0, none⟩) 2 2, .slice none 0 0, .int .i64 ((Syn.hd en stk).a : Nat)] ∧ Sat.Mv (fun b => b = w1.heap.size) wy wz ∧ MvR g W wy ∧ Q wy g lo en dp s5 ∧ X wy (fun b => w.heap.size + 1 ≤ b ∧ b ≠ w1.heap.size) (.slice (some ⟨bq9, 0, none⟩) 2 2) (.l 0 [(exR op1 nm1 args1 tys1 p1), (exR op5 nm5 args5 tys5 p5)])) := ⟨_, rfl⟩
          refine wp_region_F (by kernel_rfl) [some 23, some 24, some 25, some 26, some 27, some 28, some 29, none] [none, none, none, none, none, none, none, none, none, none, none, none, none, none, none, none, none, none, none, none, none, none, none, some 23, some 24, some 25, some 26, some 27, some 28, some 29] (fun U => by kernel_rfl) [fun u => u = (.agg #[.string (tx op1), .string (tx nm1), .slice qA1 args1.length cA1, .slice qB1 tys1.length cB1, .int .i64 (p1 : Nat)]), fun u => u = (.agg #[.int .i64 ((Syn.hd en stk).k : Nat), .string (tx (Syn.hd en stk).x), .int .i64 ((Syn.hd en stk).a : Nat)]), fun u => u = (.pointer (some ⟨g, 0, none⟩)), fun u => u = (.int .i64 (k : Nat)), fun u => u = (.int .i64 ((k + 1 : Nat) : Int)), fun _ => True, fun _ => True, fun _ => True] (PC [(5, some 28), (6, some 29), (7, none)] Ph) (by kernel_rfl) (by decide) (by kernel_rfl) (by kernel_rfl) (fun U => PC.start (by rw [hPhE]; exact ⟨fun _ => Sat.Mv.below (Below.refl _ _).drew, HQW.out.below (Below.refl _ _).drew⟩)) ?_ ?_
          · refine StepsF.run rfl ?_ ?_
            · intro L U wr hC hP hlk hcl haf A K hFm hK
              clear haf
              have e5 : A.tmps[5]? = some (.pointer (some ⟨w1.heap.size, 0, none⟩)) := (hFm.old 5 (by decide)).trans (by kernel_rfl)
              have hkb : L 6 = false := by cases h : L 6 with | false => rfl | true => have h9 := hcl 6 _ rfl h; simp [Aft, Region.binds, hlk] at h9
              obtain ⟨iz, vz, hiz, hPz⟩ := hC.at_ 1 (by decide) hkb
              rw [hPhE] at hPz
              have hMz : MvR g W wr := hPz.1 (by omega)
              clear hPz hiz
              have hLk := hMz.blk HLB0.out (by omega)
              obtain ⟨b9_0, b9_1, b9_2, b9_3, b9_4, f9_0, f9_1, f9_2, f9_3, f9_4⟩ := bk5 hLk
              clear hLk
              have HC9 := hide hC
              clear hC hMz
              refine ⟨?_⟩
              go_simp
              exact hK _ _ rfl (HC9.out.read (by decide) (by decide))
            refine StepsF.run rfl ?_ ?_
            · intro L U wr hC hP hlk hcl haf A K hFm hK
              clear haf
              have e6 : A.tmps[6]? = some (.pointer (some ⟨w5.heap.size, 0, none⟩)) := (hFm.old 6 (by decide)).trans (by kernel_rfl)
              have hkb : L 6 = false := by cases h : L 6 with | false => rfl | true => have h9 := hcl 6 _ rfl h; simp [Aft, Region.binds, hlk] at h9
              obtain ⟨iz, vz, hiz, hPz⟩ := hC.at_ 1 (by decide) hkb
              rw [hPhE] at hPz
              have hMz : MvR g W wr := hPz.1 (by omega)
              clear hPz hiz
              have hLk := hMz.blk HLB1.out (by omega)
              obtain ⟨b9_0, b9_1, b9_2, f9_0, f9_1, f9_2⟩ := bk3 hLk
              clear hLk
              have HC9 := hide hC
              clear hC hMz
              refine ⟨?_⟩
              go_simp
              exact hK _ _ rfl (HC9.out.read (by decide) (by decide))
            refine StepsF.run rfl ?_ ?_
            · intro L U wr hC hP hlk hcl haf A K hFm hK
              clear haf
              have e0 : A.tmps[0]? = some (.pointer (some ⟨g, 0, none⟩)) := (hFm.old 0 (by decide)).trans (by kernel_rfl)
              have HC9 := hide hC
              clear hC
              refine ⟨?_⟩
              go_simp
              exact hK _ _ rfl (HC9.out.read (by decide) (by decide))
            refine StepsF.run rfl ?_ ?_
            · intro L U wr hC hP hlk hcl haf A K hFm hK
              clear haf
              have e1 : A.tmps[1]? = some (.int .i64 (k : Nat)) := (hFm.old 1 (by decide)).trans (by kernel_rfl)
              have HC9 := hide hC
              clear hC
              refine ⟨?_⟩
              go_simp
              exact hK _ _ rfl (HC9.out.read (by decide) (by decide))
            refine StepsF.run rfl ?_ ?_
            · intro L U wr hC hP hlk hcl haf A K hFm hK
              simp [Aft, Region.binds] at haf
              have e26 : A.tmps[26]? = some (.int .i64 (k : Nat)) := hFm.is 3 26 rfl (hP 3 26 (by simp [haf]) rfl)
              have HC9 := hide hC
              clear hC
              refine ⟨?_⟩
              go_simp
              exact hK _ _ rfl (HC9.out.read (by decide) (by decide))
            refine StepsF.run rfl ?_ ?_
            · intro L U wr hC hP hlk hcl haf A K hFm hK
              simp [Aft, Region.binds] at haf
              obtain ⟨vs, hvs, hPh, hnx⟩ := hC.step 0 (by decide) hlk (Or.inl rfl) (by decide) (by decide)
              rw [hPhE] at hPh
              have e25 : A.tmps[25]? = some (.pointer (some ⟨g, 0, none⟩)) := hFm.is 2 25 rfl (hP 2 25 (by simp [haf]) rfl)
              have e27 : A.tmps[27]? = some (.int .i64 ((k + 1 : Nat) : Int)) := hFm.is 4 27 rfl (hP 4 27 (by simp [haf]) rfl)
              clear hC
              refine ⟨?_⟩
              have HPh := hide hPh
              have Hnx := hide hnx
              clear hPh hnx
              go_simp
              refine (HC5.out wr HPh.out.2 (fun e => by cases e)).mono ?_
              rintro e w9 ⟨m9, q9, u, rfl, op5, nm5, args5, tys5, p5, A5, B5, rfl, rfl, xA5, xB5⟩
              obtain ⟨qA5, cA5, rfl⟩ := xA5.slice
              obtain ⟨qB5, cB5, rfl⟩ := xB5.slice
              have m99 := MvR.to (HPh.out.1 (by decide)) m9
              have hz9 := (HPh.out.1 (by decide)).size
              go_simp
              exact hK _ _ trivial (Hnx.out _ _ (by rw [hPhE]; exact ⟨fun _ => m99, _, _, _, _, _, _, _, _, _, rfl, rfl, m99, q9, xA5.stay (fun b hb _ => ⟨rfl, Nat.le_trans hz9 hb⟩), xB5.stay (fun b hb _ => ⟨rfl, Nat.le_trans hz9 hb⟩)⟩))
            refine StepsF.run rfl ?_ ?_
            · intro L U wr hC hP hlk hcl haf A K hFm hK
              simp [Aft, Region.binds] at haf
              obtain ⟨vs, hvs, hPh, hnx⟩ := hC.step 1 (by decide) hlk (Or.inr (by first | exact haf | exact haf.1 | exact haf.2 | simp [chN, haf])) (by decide) (by decide)
              rw [hPhE] at hPh
              have e23 : A.tmps[23]? = some (.agg #[.string (tx op1), .string (tx nm1), .slice qA1 args1.length cA1, .slice qB1 tys1.length cB1, .int .i64 (p1 : Nat)]) := hFm.is 0 23 rfl (hP 0 23 (by simp [haf]) rfl)
              have e24 : A.tmps[24]? = some (.agg #[.int .i64 ((Syn.hd en stk).k : Nat), .string (tx (Syn.hd en stk).x), .int .i64 ((Syn.hd en stk).a : Nat)]) := hFm.is 1 24 rfl (hP 1 24 (by simp [haf]) rfl)
              have e28 : A.tmps[28]? = some (vs 0) := hFm.is 5 28 rfl (hvs 0 28 (by decide) rfl)
              clear hC
              obtain ⟨h3, op5, nm5, args5, tys5, p5, qA5, cA5, qB5, cB5, hr9, hv9, m9, q9, xA5, xB5⟩ := hPh
              rw [hv9] at e28
              have hz9 := m9.size
              have hb9 := between_any wr (w.heap.size + 1) (w1.heap.size) (by omega) (Syn.hd en stk) op1 nm1 args1 tys1 p1 qA1 qB1 cA1 cB1 op5 nm5 args5 tys5 p5 qA5 qB5 cA5 cB5 (by omega) (HXW.out.1.stay (fun b hb hl => ⟨m9.other b hl (fun hk => by have hk : b = g := hk; have hb : w.heap.size + 1 ≤ b ∧ b ≠ w1.heap.size := hb; omega), hb⟩)) (HXW.out.2.stay (fun b hb hl => ⟨m9.other b hl (fun hk => by have hk : b = g := hk; have hb : w.heap.size + 1 ≤ b ∧ b ≠ w1.heap.size := hb; omega), hb⟩)) (xA5.stay (fun b hb _ => ⟨rfl, by have hb : W.heap.size ≤ b := hb; show w.heap.size + 1 ≤ b ∧ b ≠ w1.heap.size; omega⟩)) (xB5.stay (fun b hb _ => ⟨rfl, by have hb : W.heap.size ≤ b := hb; show w.heap.size + 1 ≤ b ∧ b ≠ w1.heap.size; omega⟩))
              simp only [TV] at hb9
              have HBT := hide hb9
              have HZ := hide (And.intro hr9 (And.intro m9 q9))
              have Hnx := hide hnx
              clear h3 hr9 m9 q9 xA5 xB5 hnx hv9 hb9
              refine ⟨?_⟩
              go_simp
              refine HBT.out.mono ?_
              rintro e w9 ⟨hw9, bq, hbq, hbl, rfl, hx9⟩
              have m99 := MvR.to HZ.out.2.1 (Sat.Mv.below hw9)
              have q99 := HZ.out.2.2.below hw9
              go_simp
              exact hK _ _ trivial (Hnx.out _ _ (by rw [hPhE]; exact ⟨fun _ => m99, _, _, _, _, _, HZ.out.1, bq, rfl, m99, q99, hx9⟩))
            refine StepsF.run rfl ?_ StepsF.nil
            · intro L U wr hC hP hlk hcl haf A K hFm hK
              simp [Aft, Region.binds] at haf
              obtain ⟨vs, hvs, hPh, hnx⟩ := hC.step 2 (by decide) hlk (Or.inr (by first | exact haf | exact haf.1 | exact haf.2 | simp [chN, haf])) (by decide) (by decide)
              rw [hPhE] at hPh
              have e29 : A.tmps[29]? = some (vs 1) := hFm.is 6 29 rfl (hvs 1 29 (by decide) rfl)
              have e5 : A.tmps[5]? = some (.pointer (some ⟨w1.heap.size, 0, none⟩)) := (hFm.old 5 (by decide)).trans (by kernel_rfl)
              clear hC
              obtain ⟨h3, op5, nm5, args5, tys5, p5, hr9, bq, hv9, hz9⟩ := hPh
              rw [hv9] at e29
              have hb9 := (h3 (by decide)).blk HLB0.out (by omega)
              refine ⟨?_⟩
              refine op_list 49 (.tmp 5) (.tmp 29) rfl (w1.heap.size) #[.string (tx (Syn.hd en stk).x), .string { data := #[] }, .slice (some ⟨bq, 0, none⟩) 2 2, .slice none 0 0, .int .i64 ((Syn.hd en stk).a : Nat)] (by simp [Act.eval, e5]) (by simp [Act.eval, e29]) 49 #[.string (tx op1), .string (tx nm1), .slice qA1 args1.length cA1, .slice qB1 tys1.length cB1, .int .i64 (p1 : Nat)] hb9 (by kernel_rfl) rfl rfl ?_
              exact hK _ _ trivial (hnx _ _ (by rw [hPhE]; exact ⟨(fun h => absurd h (by decide)), _, _, _, _, _, hr9, bq, wr, setRow_heap wr (w1.heap.size) _ _ 49 (0, 0) hb9, ⟨rfl, rfl, rfl, by simp [World.setRow], fun k _ hk => setRow_other wr (w1.heap.size) k _ hk⟩, hz9⟩))
          intro L U5 w6 hall hC hP
          obtain ⟨vs, hvs, hPh⟩ := hC.fin (by decide) (hall 7 (by decide))
          rw [hPhE] at hPh
          clear hPhE hC hP hall
          simp only [setM_some, setM_none, setM_nil]
          obtain ⟨-, op5, nm5, args5, tys5, p5, rfl, bq5, wy, hB9, hM9, m9, q9, x9⟩ := hPh
          have hzy := m9.size
          have z5 : w5.heap.size ≤ w6.heap.size := Nat.le_trans hWz (Nat.le_trans m9.size hM9.size)
          have hBc : Blk 49 w6 (w.heap.size) #[.string ByteArray.empty, .string ByteArray.empty, .slice none 0 0, .slice none 0 0, .int .i64 0] := (hM9.other _ (by omega) (fun hk => by have hk : w.heap.size = w1.heap.size := hk; omega)).trans (m9.blk HRB.out (by omega))
          have HS5 := hide (mvt (seg HMW.out m9) (Mv.wide (G := fun b => b = g ∨ b = w.heap.size ∨ b = w1.heap.size) hM9 (fun b hb => by have hb : b = w1.heap.size := hb; show b = g ∨ b = w.heap.size ∨ b = w1.heap.size; omega)))
          have HQ6 := hide (q9.mv hM9 (fun b hb => by have hb : b = w1.heap.size := hb; omega))
          have HX5 := hide (x9.far hM9 (fun b hb hl hk => by have hk : b = w1.heap.size := hk; exact hb.2 hk) (fun b hb => hb))
          clear HB HL0 l0_0 l0_1 l0_2 l0_3 l0_4 f0_0 f0_1 f0_2 f0_3 f0_4 hLl0
          have HB := hide hBc
          have HL0 := hide hB9
          have hLl0 := HL0.out.lt
          obtain ⟨l0_0, l0_1, l0_2, l0_3, l0_4, f0_0, f0_1, f0_2, f0_3, f0_4⟩ := bk5 HL0.out
          clear hBc hB9 hM9 m9 q9 x9 hvs HMW HRB HQW HXW HLB0 HLB1 hLz0 hLz1
          have hI1 : ¬ (k : Int) = 4 := by have := Hy1.out; omega
          go_wp2
          go_roundg m
          case measure => omega
          case rel =>
            exact ⟨(Syn.hd en stk).x, [], [exR op1 nm1 args1 tys1 p1, exR op5 nm5 args5 tys5 p5], [], (Syn.hd en stk).a, some ⟨bq5, 0, none⟩, 2, none, 0, s5, by omega, ⟨HRR.out, HQ6.out.mv (G := fun b => b = w.heap.size ∨ b = w1.heap.size) (show Sat.Mv (fun b => b = w.heap.size ∨ b = w1.heap.size) w6 _ from (by (repeat' (first | with_reducible exact Sat.Mv.refl _ _ | with_reducible refine Sat.Mv.alloc ?_ _ | with_reducible refine Sat.Mv.drew ?_ | with_reducible refine Sat.Mv.drewN ?_ _ | with_reducible refine Sat.Mv.set ?_ ?_ _)) <;> (first | exact Or.inl (Or.inl rfl) | exact Or.inl (Or.inr rfl) | exact Or.inl rfl | (refine Or.inr ?_; (try simp); omega) | (refine Or.inl ?_; (try simp); omega)))) (fun b hb => by have hb : b = w.heap.size ∨ b = w1.heap.size := hb; omega), mvt (mvt (mvt (mvt (mvt HS1.out HS2.out) HS3.out) HS4.out) HS5.out) (Mv.wide (show Sat.Mv (fun b => b = w.heap.size ∨ b = w1.heap.size) w6 _ from (by (repeat' (first | with_reducible exact Sat.Mv.refl _ _ | with_reducible refine Sat.Mv.alloc ?_ _ | with_reducible refine Sat.Mv.drew ?_ | with_reducible refine Sat.Mv.drewN ?_ _ | with_reducible refine Sat.Mv.set ?_ ?_ _)) <;> (first | exact Or.inl (Or.inl rfl) | exact Or.inl (Or.inr rfl) | exact Or.inl rfl | (refine Or.inr ?_; (try simp); omega) | (refine Or.inl ?_; (try simp); omega)))) (fun b k => Or.inr k)), (by (repeat' (first | with_reducible exact HB.out | with_reducible refine Blk.alloc ?_ _ | with_reducible refine Blk.drewN ?_ _ | with_reducible refine Blk.other ?_ ?_ _ | exact HB.out)) <;> (first | (simp; omega) | simp | omega)), (by (repeat' (first | with_reducible exact HL0.out | with_reducible refine Blk.alloc ?_ _ | with_reducible refine Blk.drewN ?_ _ | with_reducible refine Blk.other ?_ ?_ _ | exact HL0.out)) <;> (first | (simp; omega) | simp | omega)), (HX5.out.stay (fun b hb hl => ⟨(Mv.wide (G := fun b => b = g ∨ b = w.heap.size ∨ b = w1.heap.size) (show Sat.Mv (fun b => b = w.heap.size ∨ b = w1.heap.size) w6 _ from (by (repeat' (first | with_reducible exact Sat.Mv.refl _ _ | with_reducible refine Sat.Mv.alloc ?_ _ | with_reducible refine Sat.Mv.drew ?_ | with_reducible refine Sat.Mv.drewN ?_ _ | with_reducible refine Sat.Mv.set ?_ ?_ _)) <;> (first | exact Or.inl (Or.inl rfl) | exact Or.inl (Or.inr rfl) | exact Or.inl rfl | (refine Or.inr ?_; (try simp); omega) | (refine Or.inl ?_; (try simp); omega)))) (fun b k => Or.inr k)).other b hl (by intro hk; (try simp at hb); have hk : b = g ∨ b = w.heap.size ∨ b = w1.heap.size := hk; omega), by (try simp at hb); show w.heap.size + 1 ≤ b ∧ b ≠ w1.heap.size; omega⟩)), X.nil _ _ _⟩⟩
      rw [if_neg x3] at hRR
      have Hx3 := hide x3
      clear x3
      have HRR := hide hRR
      clear hRR
      go_wp2_with fail
      refine (step_q (fun b => b = w.heap.size ∨ b = w1.heap.size) (wk := w2) ?_ HQ2.out (fun b hb => by have hb : b = w.heap.size ∨ b = w1.heap.size := hb; omega) (fun wz qz => next_q wz g lo en dp stk qz)).mono ?_
      · (repeat' (first | with_reducible exact Sat.Mv.refl _ _ | with_reducible refine Sat.Mv.alloc ?_ _ | with_reducible refine Sat.Mv.drew ?_ | with_reducible refine Sat.Mv.drewN ?_ _ | with_reducible refine Sat.Mv.set ?_ ?_ _)) <;> (first | exact Or.inl (Or.inl rfl) | exact Or.inl (Or.inr rfl) | exact Or.inl rfl | (refine Or.inr ?_; (try simp); omega) | (refine Or.inl ?_; (try simp); omega))
      rintro e w3 ⟨⟨rfl, b2⟩, sg⟩
      have m2 : MvR g _ w3 := Sat.Mv.below b2
      have q2 : Q w3 g lo en dp stk := (HQ2.out.mv sg (fun b hb => by have hb : b = w.heap.size ∨ b = w1.heap.size := hb; omega)).below b2
      have z2 := m2.size
      try simp at z2
      have HS2 := hide (seg sg m2)
      have HQ3 := hide q2
      have hB : Blk 49 w3 (w.heap.size) #[.string ByteArray.empty, .string ByteArray.empty, .slice none 0 0, .slice none 0 0, .int .i64 0] := m2.blk (by (repeat' (first | with_reducible exact HB.out | with_reducible refine Blk.alloc ?_ _ | with_reducible refine Blk.drewN ?_ _ | with_reducible refine Blk.other ?_ ?_ _ | exact HB.out)) <;> (first | (simp; omega) | simp | omega)) (by omega)
      clear HB
      have HB := hide hB
      clear hB
      have hL : Blk 49 w3 (w1.heap.size) #[.string (tx op1), .string (tx nm1), .slice qA1 args1.length cA1, .slice qB1 tys1.length cB1, .int .i64 (p1 : Nat)] := m2.blk (by (repeat' (first | with_reducible exact HL0.out | with_reducible refine Blk.alloc ?_ _ | with_reducible refine Blk.drewN ?_ _ | with_reducible refine Blk.other ?_ ?_ _ | exact HL0.out)) <;> (first | (simp; omega) | simp | omega)) (by omega)
      clear HL0 l0_0 l0_1 l0_2 l0_3 l0_4 f0_0 f0_1 f0_2 f0_3 f0_4 hLl0
      have HL0 := hide hL
      clear hL
      obtain ⟨l0_0, l0_1, l0_2, l0_3, l0_4, f0_0, f0_1, f0_2, f0_3, f0_4⟩ := bk5 HL0.out
      have hLl0 := HL0.out.lt
      clear m2 q2 sg b2
      simp only [TV]
      have F12 := fun w => field_text (tx (Syn.hd en stk).x) (Syn.hd en stk).k (Syn.hd en stk).a w
      have F22 := fun w => field_place (tx (Syn.hd en stk).x) (Syn.hd en stk).k (Syn.hd en stk).a w
      go_wp2_with fail
      refine (step_q (fun b => b = w.heap.size ∨ b = w1.heap.size) (wk := w3) ?_ HQ3.out (fun b hb => by have hb : b = w.heap.size ∨ b = w1.heap.size := hb; omega) (fun wz qz => signLevel_any (Syn.hd en stk).x wz)).mono ?_
      · (repeat' (first | with_reducible exact Sat.Mv.refl _ _ | with_reducible refine Sat.Mv.alloc ?_ _ | with_reducible refine Sat.Mv.drew ?_ | with_reducible refine Sat.Mv.drewN ?_ _ | with_reducible refine Sat.Mv.set ?_ ?_ _)) <;> (first | exact Or.inl (Or.inl rfl) | exact Or.inl (Or.inr rfl) | exact Or.inl rfl | (refine Or.inr ?_; (try simp); omega) | (refine Or.inl ?_; (try simp); omega))
      have hJ3 : ¬ ((lvl (Syn.hd en stk).x : Nat) : Int) = (k : Int) := by have := Hx3.out; omega
      rintro e w4 ⟨⟨rfl, b2⟩, sg⟩
      have m2 : MvR g _ w4 := Sat.Mv.below b2
      have q2 : Q w4 g lo en dp stk := (HQ3.out.mv sg (fun b hb => by have hb : b = w.heap.size ∨ b = w1.heap.size := hb; omega)).below b2
      have z3 := m2.size
      try simp at z3
      have HS3 := hide (seg sg m2)
      have HQ4 := hide q2
      have hB : Blk 49 w4 (w.heap.size) #[.string ByteArray.empty, .string ByteArray.empty, .slice none 0 0, .slice none 0 0, .int .i64 0] := m2.blk (by (repeat' (first | with_reducible exact HB.out | with_reducible refine Blk.alloc ?_ _ | with_reducible refine Blk.drewN ?_ _ | with_reducible refine Blk.other ?_ ?_ _ | exact HB.out)) <;> (first | (simp; omega) | simp | omega)) (by omega)
      clear HB
      have HB := hide hB
      clear hB
      have hL : Blk 49 w4 (w1.heap.size) #[.string (tx op1), .string (tx nm1), .slice qA1 args1.length cA1, .slice qB1 tys1.length cB1, .int .i64 (p1 : Nat)] := m2.blk (by (repeat' (first | with_reducible exact HL0.out | with_reducible refine Blk.alloc ?_ _ | with_reducible refine Blk.drewN ?_ _ | with_reducible refine Blk.other ?_ ?_ _ | exact HL0.out)) <;> (first | (simp; omega) | simp | omega)) (by omega)
      clear HL0 l0_0 l0_1 l0_2 l0_3 l0_4 f0_0 f0_1 f0_2 f0_3 f0_4 hLl0
      have HL0 := hide hL
      clear hL
      obtain ⟨l0_0, l0_1, l0_2, l0_3, l0_4, f0_0, f0_1, f0_2, f0_3, f0_4⟩ := bk5 HL0.out
      have hLl0 := HL0.out.lt
      clear m2 q2 sg b2
      go_wp2_with ((show wpList _ _ _ _ _ _); refine store_blk rfl 49 (.tmp 4) (.tmp 32) rfl (w.heap.size) _ rfl rfl 49 #[.string ByteArray.empty, .string ByteArray.empty, .slice none 0 0, .slice none 0 0, .int .i64 0] (by (repeat' (first | with_reducible exact HB.out | with_reducible refine Blk.alloc ?_ _ | with_reducible refine Blk.drewN ?_ _ | with_reducible refine Blk.other ?_ ?_ _ | exact HB.out)) <;> (first | (simp; omega) | simp | omega)) (by kernel_rfl) rfl rfl ?_; intro wf b2 m2; have HE := hide (show Sat.Mv (fun b => b = w.heap.size ∨ b = w1.heap.size) w4 wf from mvt (by (repeat' (first | with_reducible exact Sat.Mv.refl _ _ | with_reducible refine Sat.Mv.alloc ?_ _ | with_reducible refine Sat.Mv.drew ?_ | with_reducible refine Sat.Mv.drewN ?_ _ | with_reducible refine Sat.Mv.set ?_ ?_ _)) <;> (first | exact Or.inl (Or.inl rfl) | exact Or.inl (Or.inr rfl) | exact Or.inl rfl | (refine Or.inr ?_; (try simp); omega) | (refine Or.inl ?_; (try simp); omega))) (Mv.wide m2 (fun b hb => Or.inl hb))); have HM := hide m2; obtain ⟨c0, c1, c2, c3, c4, k0, k1, k2, k3, k4⟩ := bk5 b2; clear m2 b2)
      refine bodyPost_ret (v := .agg #[.string (tx op1), .string (tx nm1), .slice qA1 args1.length cA1, .slice qB1 tys1.length cB1, .int .i64 (p1 : Nat)]) (by simp [results, Tryz.results183, go_sem, c0, c1, c2, c3, c4]) rfl ?_
      rw [HRR.out]
      exact ans_fin (fun b => b = w.heap.size ∨ b = w1.heap.size) HE.out (mvt (mvt HS1.out HS2.out) HS3.out) (fun b hb => by have hb : b = g ∨ b = w.heap.size ∨ b = w1.heap.size := hb; omega) HQ4.out (fun b hb => by have hb : b = w.heap.size ∨ b = w1.heap.size := hb; omega) ⟨_, _, _, _, _, _, _, rfl, rfl, HX1.out.1.far (G := fun b => b = g ∨ b = w.heap.size ∨ b = w1.heap.size) (mvt (mvt HS2.out HS3.out) (Mv.wide HE.out fun b k => Or.inr k)) (by intro b hb hl hk; (try simp at hb); have hk : b = g ∨ b = w.heap.size ∨ b = w1.heap.size := hk; omega) (by intro b hb; (try simp at hb); show w.heap.size ≤ b; omega), HX1.out.2.far (G := fun b => b = g ∨ b = w.heap.size ∨ b = w1.heap.size) (mvt (mvt HS2.out HS3.out) (Mv.wide HE.out fun b k => Or.inr k)) (by intro b hb hl hk; (try simp at hb); have hk : b = g ∨ b = w.heap.size ∨ b = w1.heap.size := hk; omega) (by intro b hb; (try simp at hb); show w.heap.size ≤ b; omega)⟩
end Syn
end Go.Proofs.YtomldkljlbdnjaaGreat
