/- Methods of the reader: lastExpr, inRound. No statement of the seat is proved here. -/
import Derived.Test.YtomldkljlbdnjaaGreatJoin10Binds
namespace Go.Proofs.YtomldkljlbdnjaaGreat
open Go.RowKit
set_option linter.unusedVariables false
set_option linter.unusedSimpArgs false
namespace Syn
open Euf (OL App Stop)
open Lex (T TL tx bs tkC FV IsNm hide)
set_option maxRecDepth 4000 in
set_option maxHeartbeats 2000000 in
theorem lastExpr_sp (en g lo N : Nat) (hexpr : Sp 157 ShE .expr en g lo N) : Sp 139 (ShL 0) .lastExpr en g lo (N + 1) := by
  intro w dp st h hne
  have hgl := h.gl
  have hlw := h.lw
  have hgw := h.lt
  have HQ0 := hide h
  clear h
  obtain ⟨R, hRR⟩ : ∃ R, R = P en (N + 1) .lastExpr dp st := ⟨_, rfl⟩
  rw [← hRR] at hne ⊢
  simp only [P, wantP, nameP] at hRR
  have HC0 : Hid (∀ w1, Q w1 g lo en dp st → P en N .expr dp st ≠ .out → Calls Tryz.prog 157 #[.pointer (some ⟨g, 0, none⟩)] w1 fun e w' => Ans ShE w1 g lo en dp e w' (P en N .expr dp st)) := fun w1 q1 hn => hexpr w1 dp st q1 hn
  generalize P en N .expr dp st = E0 at hRR HC0
  cases E0 with
  | out => exact absurd hRR hne
  | bad cc a =>
    have HRR := hide hRR
    clear hRR
    go_enter Tryz.func139, Tryz.ntmps139
    go_wp2_with fail
    refine (step_q (fun b => b < 0) (wk := w) ?_ HQ0.out (fun b hb => by have hb : b < 0 := hb; omega) (fun wz qz => HC0.out wz qz (fun e => by cases e))).mono ?_
    · (repeat' (first | with_reducible exact Sat.Mv.refl _ _ | with_reducible refine Sat.Mv.alloc ?_ _ | with_reducible refine Sat.Mv.drew ?_ | with_reducible refine Sat.Mv.drewN ?_ _ | with_reducible refine Sat.Mv.set ?_ ?_ _)) <;> (first | exact Or.inl (Or.inl rfl) | exact Or.inl (Or.inr rfl) | exact Or.inl rfl | (refine Or.inr ?_; (try simp); omega) | (refine Or.inl ?_; (try simp); omega))
    rintro e w1 ⟨⟨m2, rfl⟩, sg⟩
    go_wp2
    refine ⟨rfl, ?_⟩
    rw [HRR.out]
    refine ⟨Mv.out (seg sg m2) (fun b hb => by have hb : b = g ∨ b < 0 := hb; omega), rfl⟩
  | ok r0 s0 =>
    try simp only [Res.to_ok] at hRR
    by_cases x1 : (Syn.hd en s0).x = ([59] : List UInt8)
    case neg =>
      rw [if_neg x1] at hRR
      have Hx1 := hide x1
      clear x1
      have HRR := hide hRR
      clear hRR
      go_enter Tryz.func139, Tryz.ntmps139
      go_wp2_with fail
      refine (step_q (fun b => b < 0) (wk := w) ?_ HQ0.out (fun b hb => by have hb : b < 0 := hb; omega) (fun wz qz => HC0.out wz qz (fun e => by cases e))).mono ?_
      · (repeat' (first | with_reducible exact Sat.Mv.refl _ _ | with_reducible refine Sat.Mv.alloc ?_ _ | with_reducible refine Sat.Mv.drew ?_ | with_reducible refine Sat.Mv.drewN ?_ _ | with_reducible refine Sat.Mv.set ?_ ?_ _)) <;> (first | exact Or.inl (Or.inl rfl) | exact Or.inl (Or.inr rfl) | exact Or.inl rfl | (refine Or.inr ?_; (try simp); omega) | (refine Or.inl ?_; (try simp); omega))
      rintro e w1 ⟨⟨m2, q2, u, rfl, op0, nm0, args0, tys0, p0, A0, B0, rfl, rfl, xA0, xB0⟩, sg⟩
      obtain ⟨qA0, cA0, rfl⟩ := xA0.slice
      obtain ⟨qB0, cB0, rfl⟩ := xB0.slice
      have z0 := m2.size
      try simp at z0
      have HS0 := hide (seg sg m2)
      have HQ1 := hide q2
      have HX0 := hide (And.intro xA0 xB0)
      clear xA0 xB0
      clear m2 q2 sg
      go_wp2_with fail
      refine (step_q (fun b => b < 0) (wk := w1) ?_ HQ1.out (fun b hb => by have hb : b < 0 := hb; omega) (fun wz qz => want_q ([59] : List UInt8) (by decide) wz g lo en dp s0 qz)).mono ?_
      · (repeat' (first | with_reducible exact Sat.Mv.refl _ _ | with_reducible refine Sat.Mv.alloc ?_ _ | with_reducible refine Sat.Mv.drew ?_ | with_reducible refine Sat.Mv.drewN ?_ _ | with_reducible refine Sat.Mv.set ?_ ?_ _)) <;> (first | exact Or.inl (Or.inl rfl) | exact Or.inl (Or.inr rfl) | exact Or.inl rfl | (refine Or.inr ?_; (try simp); omega) | (refine Or.inl ?_; (try simp); omega))
      rintro e w2 ⟨⟨m2, ⟨hyes, -, -⟩ | ⟨-, rfl⟩⟩, sg⟩
      case inl => exact absurd hyes Hx1.out
      go_wp2
      refine ⟨rfl, ?_⟩
      rw [HRR.out]
      refine ⟨Mv.out (mvt HS0.out (seg sg m2)) (fun b hb => by have hb : b = g ∨ b < 0 := hb; omega), rfl⟩
    rw [if_pos x1] at hRR
    have Hx1 := hide x1
    clear x1
    have HRR := hide hRR
    clear hRR
    go_enter Tryz.func139, Tryz.ntmps139
    go_wp2_with fail
    refine (step_q (fun b => b < 0) (wk := w) ?_ HQ0.out (fun b hb => by have hb : b < 0 := hb; omega) (fun wz qz => HC0.out wz qz (fun e => by cases e))).mono ?_
    · (repeat' (first | with_reducible exact Sat.Mv.refl _ _ | with_reducible refine Sat.Mv.alloc ?_ _ | with_reducible refine Sat.Mv.drew ?_ | with_reducible refine Sat.Mv.drewN ?_ _ | with_reducible refine Sat.Mv.set ?_ ?_ _)) <;> (first | exact Or.inl (Or.inl rfl) | exact Or.inl (Or.inr rfl) | exact Or.inl rfl | (refine Or.inr ?_; (try simp); omega) | (refine Or.inl ?_; (try simp); omega))
    rintro e w1 ⟨⟨m2, q2, u, rfl, op0, nm0, args0, tys0, p0, A0, B0, rfl, rfl, xA0, xB0⟩, sg⟩
    obtain ⟨qA0, cA0, rfl⟩ := xA0.slice
    obtain ⟨qB0, cB0, rfl⟩ := xB0.slice
    have z0 := m2.size
    try simp at z0
    have HS0 := hide (seg sg m2)
    have HQ1 := hide q2
    have HX0 := hide (And.intro xA0 xB0)
    clear xA0 xB0
    clear m2 q2 sg
    go_wp2_with fail
    refine (step_q (fun b => b < 0) (wk := w1) ?_ HQ1.out (fun b hb => by have hb : b < 0 := hb; omega) (fun wz qz => want_q ([59] : List UInt8) (by decide) wz g lo en dp s0 qz)).mono ?_
    · (repeat' (first | with_reducible exact Sat.Mv.refl _ _ | with_reducible refine Sat.Mv.alloc ?_ _ | with_reducible refine Sat.Mv.drew ?_ | with_reducible refine Sat.Mv.drewN ?_ _ | with_reducible refine Sat.Mv.set ?_ ?_ _)) <;> (first | exact Or.inl (Or.inl rfl) | exact Or.inl (Or.inr rfl) | exact Or.inl rfl | (refine Or.inr ?_; (try simp); omega) | (refine Or.inl ?_; (try simp); omega))
    rintro e w2 ⟨⟨m2, ⟨-, rfl, q2⟩ | ⟨hno, -⟩⟩, sg⟩
    case inr => exact absurd Hx1.out hno
    have z1 := m2.size
    try simp at z1
    have HS1 := hide (seg sg m2)
    have HQ2 := hide q2
    have hL : Blk 49 w2 (w1.heap.size) #[.string (tx op0), .string (tx nm0), .slice qA0 args0.length cA0, .slice qB0 tys0.length cB0, .int .i64 (p0 : Nat)] := m2.blk (by (repeat' (first | exact Blk.new _ _ _ | with_reducible refine Blk.alloc ?_ _ | with_reducible refine Blk.drewN ?_ _ | with_reducible refine Blk.other ?_ ?_ _)) <;> (first | (simp; omega) | simp | omega)) (by omega)
    have HL0 := hide hL
    clear hL
    obtain ⟨l0_0, l0_1, l0_2, l0_3, l0_4, f0_0, f0_1, f0_2, f0_3, f0_4⟩ := bk5 HL0.out
    clear m2 q2 sg
    go_wp2
    go_ret
    rw [HRR.out]
    refine ans_fin (fun b => b < 0) (wk := w2) ?_ (mvt HS0.out HS1.out) (fun b hb => by have hb : b = g ∨ b < 0 := hb; omega) HQ2.out (fun b hb => by have hb : b < 0 := hb; omega) ?_
    · (repeat' (first | with_reducible exact Sat.Mv.refl _ _ | with_reducible refine Sat.Mv.alloc ?_ _ | with_reducible refine Sat.Mv.drew ?_ | with_reducible refine Sat.Mv.drewN ?_ _ | with_reducible refine Sat.Mv.set ?_ ?_ _)) <;> (first | exact Or.inl (Or.inl rfl) | exact Or.inl (Or.inr rfl) | exact Or.inl rfl | (refine Or.inr ?_; (try simp); omega) | (refine Or.inl ?_; (try simp); omega))
    · exact ⟨_, rfl, (LS.one _ w.heap.size 0 [.string (tx op0), .string (tx nm0), .slice qA0 args0.length cA0, .slice qB0 tys0.length cB0, .int .i64 (p0 : Nat)] (exR op0 nm0 args0 tys0 p0) (by (try simp); omega) rfl (.cons (X.s _ _ _) (.cons (X.s _ _ _) (.cons (HX0.out.1.far (G := fun b => b = g ∨ b < 0) (mvt HS1.out (by (repeat' (first | with_reducible exact Sat.Mv.refl _ _ | with_reducible refine Sat.Mv.alloc ?_ _ | with_reducible refine Sat.Mv.drew ?_ | with_reducible refine Sat.Mv.drewN ?_ _ | with_reducible refine Sat.Mv.set ?_ ?_ _)) <;> (first | exact Or.inl (Or.inl rfl) | exact Or.inl (Or.inr rfl) | exact Or.inl rfl | (refine Or.inr ?_; (try simp); omega) | (refine Or.inl ?_; (try simp); omega)))) (by intro b hb hl hk; (try simp at hb); have hk : b = g ∨ b < 0 := hk; omega) (by intro b hb; (try simp at hb); show w.heap.size ≤ b; omega)) (.cons (HX0.out.2.far (G := fun b => b = g ∨ b < 0) (mvt HS1.out (by (repeat' (first | with_reducible exact Sat.Mv.refl _ _ | with_reducible refine Sat.Mv.alloc ?_ _ | with_reducible refine Sat.Mv.drew ?_ | with_reducible refine Sat.Mv.drewN ?_ _ | with_reducible refine Sat.Mv.set ?_ ?_ _)) <;> (first | exact Or.inl (Or.inl rfl) | exact Or.inl (Or.inr rfl) | exact Or.inl rfl | (refine Or.inr ?_; (try simp); omega) | (refine Or.inl ?_; (try simp); omega)))) (by intro b hb hl hk; (try simp at hb); have hk : b = g ∨ b < 0 := hk; omega) (by intro b hb; (try simp at hb); show w.heap.size ≤ b; omega)) (.cons (X.a _ _ _) .nil)))))).x⟩
set_option maxRecDepth 4000 in
set_option maxHeartbeats 2000000 in
theorem inRound_sp (en g lo N : Nat) (hexpr : Sp 157 ShE .expr en g lo N) : Sp 177 (ShL 0) .inRound en g lo (N + 1) := by
  intro w dp st h hne
  have hgl := h.gl
  have hlw := h.lw
  have hgw := h.lt
  have HQ0 := hide h
  clear h
  obtain ⟨R, hRR⟩ : ∃ R, R = P en (N + 1) .inRound dp st := ⟨_, rfl⟩
  rw [← hRR] at hne ⊢
  simp only [P, wantP, nameP] at hRR
  by_cases x0 : (Syn.hd en st).x = ([40] : List UInt8)
  case neg =>
    rw [if_neg x0] at hRR
    have Hx0 := hide x0
    clear x0
    have HRR := hide hRR
    clear hRR
    go_enter Tryz.func177, Tryz.ntmps177
    go_wp2_with fail
    refine (step_q (fun b => b < 0) (wk := w) ?_ HQ0.out (fun b hb => by have hb : b < 0 := hb; omega) (fun wz qz => want_q ([40] : List UInt8) (by decide) wz g lo en dp st qz)).mono ?_
    · (repeat' (first | with_reducible exact Sat.Mv.refl _ _ | with_reducible refine Sat.Mv.alloc ?_ _ | with_reducible refine Sat.Mv.drew ?_ | with_reducible refine Sat.Mv.drewN ?_ _ | with_reducible refine Sat.Mv.set ?_ ?_ _)) <;> (first | exact Or.inl (Or.inl rfl) | exact Or.inl (Or.inr rfl) | exact Or.inl rfl | (refine Or.inr ?_; (try simp); omega) | (refine Or.inl ?_; (try simp); omega))
    rintro e w1 ⟨⟨m2, ⟨hyes, -, -⟩ | ⟨-, rfl⟩⟩, sg⟩
    case inl => exact absurd hyes Hx0.out
    go_wp2
    refine ⟨rfl, ?_⟩
    rw [HRR.out]
    refine ⟨Mv.out (seg sg m2) (fun b hb => by have hb : b = g ∨ b < 0 := hb; omega), rfl⟩
  rw [if_pos x0] at hRR
  have HC1 : Hid (∀ w1, Q w1 g lo en dp st.tail → P en N .expr dp st.tail ≠ .out → Calls Tryz.prog 157 #[.pointer (some ⟨g, 0, none⟩)] w1 fun e w' => Ans ShE w1 g lo en dp e w' (P en N .expr dp st.tail)) := fun w1 q1 hn => hexpr w1 dp st.tail q1 hn
  generalize P en N .expr dp st.tail = E1 at hRR HC1
  cases E1 with
  | out => exact absurd hRR hne
  | bad cc a =>
    have Hx0 := hide x0
    clear x0
    have HRR := hide hRR
    clear hRR
    go_enter Tryz.func177, Tryz.ntmps177
    go_wp2_with fail
    refine (step_q (fun b => b < 0) (wk := w) ?_ HQ0.out (fun b hb => by have hb : b < 0 := hb; omega) (fun wz qz => want_q ([40] : List UInt8) (by decide) wz g lo en dp st qz)).mono ?_
    · (repeat' (first | with_reducible exact Sat.Mv.refl _ _ | with_reducible refine Sat.Mv.alloc ?_ _ | with_reducible refine Sat.Mv.drew ?_ | with_reducible refine Sat.Mv.drewN ?_ _ | with_reducible refine Sat.Mv.set ?_ ?_ _)) <;> (first | exact Or.inl (Or.inl rfl) | exact Or.inl (Or.inr rfl) | exact Or.inl rfl | (refine Or.inr ?_; (try simp); omega) | (refine Or.inl ?_; (try simp); omega))
    rintro e w1 ⟨⟨m2, ⟨-, rfl, q2⟩ | ⟨hno, -⟩⟩, sg⟩
    case inr => exact absurd Hx0.out hno
    have z0 := m2.size
    try simp at z0
    have HS0 := hide (seg sg m2)
    have HQ1 := hide q2
    clear m2 q2 sg
    go_wp2_with fail
    refine (step_q (fun b => b < 0) (wk := w1) ?_ HQ1.out (fun b hb => by have hb : b < 0 := hb; omega) (fun wz qz => HC1.out wz qz (fun e => by cases e))).mono ?_
    · (repeat' (first | with_reducible exact Sat.Mv.refl _ _ | with_reducible refine Sat.Mv.alloc ?_ _ | with_reducible refine Sat.Mv.drew ?_ | with_reducible refine Sat.Mv.drewN ?_ _ | with_reducible refine Sat.Mv.set ?_ ?_ _)) <;> (first | exact Or.inl (Or.inl rfl) | exact Or.inl (Or.inr rfl) | exact Or.inl rfl | (refine Or.inr ?_; (try simp); omega) | (refine Or.inl ?_; (try simp); omega))
    rintro e w2 ⟨⟨m2, rfl⟩, sg⟩
    go_wp2
    refine ⟨rfl, ?_⟩
    rw [HRR.out]
    refine ⟨Mv.out (mvt HS0.out (seg sg m2)) (fun b hb => by have hb : b = g ∨ b < 0 := hb; omega), rfl⟩
  | ok r1 s1 =>
    try simp only [Res.to_ok] at hRR
    by_cases x2 : (Syn.hd en s1).x = ([41] : List UInt8)
    case neg =>
      rw [if_neg x2] at hRR
      have Hx0 := hide x0
      clear x0
      have Hx2 := hide x2
      clear x2
      have HRR := hide hRR
      clear hRR
      go_enter Tryz.func177, Tryz.ntmps177
      go_wp2_with fail
      refine (step_q (fun b => b < 0) (wk := w) ?_ HQ0.out (fun b hb => by have hb : b < 0 := hb; omega) (fun wz qz => want_q ([40] : List UInt8) (by decide) wz g lo en dp st qz)).mono ?_
      · (repeat' (first | with_reducible exact Sat.Mv.refl _ _ | with_reducible refine Sat.Mv.alloc ?_ _ | with_reducible refine Sat.Mv.drew ?_ | with_reducible refine Sat.Mv.drewN ?_ _ | with_reducible refine Sat.Mv.set ?_ ?_ _)) <;> (first | exact Or.inl (Or.inl rfl) | exact Or.inl (Or.inr rfl) | exact Or.inl rfl | (refine Or.inr ?_; (try simp); omega) | (refine Or.inl ?_; (try simp); omega))
      rintro e w1 ⟨⟨m2, ⟨-, rfl, q2⟩ | ⟨hno, -⟩⟩, sg⟩
      case inr => exact absurd Hx0.out hno
      have z0 := m2.size
      try simp at z0
      have HS0 := hide (seg sg m2)
      have HQ1 := hide q2
      clear m2 q2 sg
      go_wp2_with fail
      refine (step_q (fun b => b < 0) (wk := w1) ?_ HQ1.out (fun b hb => by have hb : b < 0 := hb; omega) (fun wz qz => HC1.out wz qz (fun e => by cases e))).mono ?_
      · (repeat' (first | with_reducible exact Sat.Mv.refl _ _ | with_reducible refine Sat.Mv.alloc ?_ _ | with_reducible refine Sat.Mv.drew ?_ | with_reducible refine Sat.Mv.drewN ?_ _ | with_reducible refine Sat.Mv.set ?_ ?_ _)) <;> (first | exact Or.inl (Or.inl rfl) | exact Or.inl (Or.inr rfl) | exact Or.inl rfl | (refine Or.inr ?_; (try simp); omega) | (refine Or.inl ?_; (try simp); omega))
      rintro e w2 ⟨⟨m2, q2, u, rfl, op1, nm1, args1, tys1, p1, A1, B1, rfl, rfl, xA1, xB1⟩, sg⟩
      obtain ⟨qA1, cA1, rfl⟩ := xA1.slice
      obtain ⟨qB1, cB1, rfl⟩ := xB1.slice
      have z1 := m2.size
      try simp at z1
      have HS1 := hide (seg sg m2)
      have HQ2 := hide q2
      have HX1 := hide (And.intro xA1 xB1)
      clear xA1 xB1
      clear m2 q2 sg
      go_wp2_with fail
      refine (step_q (fun b => b < 0) (wk := w2) ?_ HQ2.out (fun b hb => by have hb : b < 0 := hb; omega) (fun wz qz => want_q ([41] : List UInt8) (by decide) wz g lo en dp s1 qz)).mono ?_
      · (repeat' (first | with_reducible exact Sat.Mv.refl _ _ | with_reducible refine Sat.Mv.alloc ?_ _ | with_reducible refine Sat.Mv.drew ?_ | with_reducible refine Sat.Mv.drewN ?_ _ | with_reducible refine Sat.Mv.set ?_ ?_ _)) <;> (first | exact Or.inl (Or.inl rfl) | exact Or.inl (Or.inr rfl) | exact Or.inl rfl | (refine Or.inr ?_; (try simp); omega) | (refine Or.inl ?_; (try simp); omega))
      rintro e w3 ⟨⟨m2, ⟨hyes, -, -⟩ | ⟨-, rfl⟩⟩, sg⟩
      case inl => exact absurd hyes Hx2.out
      go_wp2
      refine ⟨rfl, ?_⟩
      rw [HRR.out]
      refine ⟨Mv.out (mvt (mvt HS0.out HS1.out) (seg sg m2)) (fun b hb => by have hb : b = g ∨ b < 0 := hb; omega), rfl⟩
    rw [if_pos x2] at hRR
    have Hx0 := hide x0
    clear x0
    have Hx2 := hide x2
    clear x2
    have HRR := hide hRR
    clear hRR
    go_enter Tryz.func177, Tryz.ntmps177
    go_wp2_with fail
    refine (step_q (fun b => b < 0) (wk := w) ?_ HQ0.out (fun b hb => by have hb : b < 0 := hb; omega) (fun wz qz => want_q ([40] : List UInt8) (by decide) wz g lo en dp st qz)).mono ?_
    · (repeat' (first | with_reducible exact Sat.Mv.refl _ _ | with_reducible refine Sat.Mv.alloc ?_ _ | with_reducible refine Sat.Mv.drew ?_ | with_reducible refine Sat.Mv.drewN ?_ _ | with_reducible refine Sat.Mv.set ?_ ?_ _)) <;> (first | exact Or.inl (Or.inl rfl) | exact Or.inl (Or.inr rfl) | exact Or.inl rfl | (refine Or.inr ?_; (try simp); omega) | (refine Or.inl ?_; (try simp); omega))
    rintro e w1 ⟨⟨m2, ⟨-, rfl, q2⟩ | ⟨hno, -⟩⟩, sg⟩
    case inr => exact absurd Hx0.out hno
    have z0 := m2.size
    try simp at z0
    have HS0 := hide (seg sg m2)
    have HQ1 := hide q2
    clear m2 q2 sg
    go_wp2_with fail
    refine (step_q (fun b => b < 0) (wk := w1) ?_ HQ1.out (fun b hb => by have hb : b < 0 := hb; omega) (fun wz qz => HC1.out wz qz (fun e => by cases e))).mono ?_
    · (repeat' (first | with_reducible exact Sat.Mv.refl _ _ | with_reducible refine Sat.Mv.alloc ?_ _ | with_reducible refine Sat.Mv.drew ?_ | with_reducible refine Sat.Mv.drewN ?_ _ | with_reducible refine Sat.Mv.set ?_ ?_ _)) <;> (first | exact Or.inl (Or.inl rfl) | exact Or.inl (Or.inr rfl) | exact Or.inl rfl | (refine Or.inr ?_; (try simp); omega) | (refine Or.inl ?_; (try simp); omega))
    rintro e w2 ⟨⟨m2, q2, u, rfl, op1, nm1, args1, tys1, p1, A1, B1, rfl, rfl, xA1, xB1⟩, sg⟩
    obtain ⟨qA1, cA1, rfl⟩ := xA1.slice
    obtain ⟨qB1, cB1, rfl⟩ := xB1.slice
    have z1 := m2.size
    try simp at z1
    have HS1 := hide (seg sg m2)
    have HQ2 := hide q2
    have HX1 := hide (And.intro xA1 xB1)
    clear xA1 xB1
    clear m2 q2 sg
    go_wp2_with fail
    refine (step_q (fun b => b < 0) (wk := w2) ?_ HQ2.out (fun b hb => by have hb : b < 0 := hb; omega) (fun wz qz => want_q ([41] : List UInt8) (by decide) wz g lo en dp s1 qz)).mono ?_
    · (repeat' (first | with_reducible exact Sat.Mv.refl _ _ | with_reducible refine Sat.Mv.alloc ?_ _ | with_reducible refine Sat.Mv.drew ?_ | with_reducible refine Sat.Mv.drewN ?_ _ | with_reducible refine Sat.Mv.set ?_ ?_ _)) <;> (first | exact Or.inl (Or.inl rfl) | exact Or.inl (Or.inr rfl) | exact Or.inl rfl | (refine Or.inr ?_; (try simp); omega) | (refine Or.inl ?_; (try simp); omega))
    rintro e w3 ⟨⟨m2, ⟨-, rfl, q2⟩ | ⟨hno, -⟩⟩, sg⟩
    case inr => exact absurd Hx2.out hno
    have z2 := m2.size
    try simp at z2
    have HS2 := hide (seg sg m2)
    have HQ3 := hide q2
    have hL : Blk 49 w3 (w2.heap.size) #[.string (tx op1), .string (tx nm1), .slice qA1 args1.length cA1, .slice qB1 tys1.length cB1, .int .i64 (p1 : Nat)] := m2.blk (by (repeat' (first | exact Blk.new _ _ _ | with_reducible refine Blk.alloc ?_ _ | with_reducible refine Blk.drewN ?_ _ | with_reducible refine Blk.other ?_ ?_ _)) <;> (first | (simp; omega) | simp | omega)) (by omega)
    have HL0 := hide hL
    clear hL
    obtain ⟨l0_0, l0_1, l0_2, l0_3, l0_4, f0_0, f0_1, f0_2, f0_3, f0_4⟩ := bk5 HL0.out
    clear m2 q2 sg
    go_wp2
    go_ret
    rw [HRR.out]
    refine ans_fin (fun b => b < 0) (wk := w3) ?_ (mvt (mvt HS0.out HS1.out) HS2.out) (fun b hb => by have hb : b = g ∨ b < 0 := hb; omega) HQ3.out (fun b hb => by have hb : b < 0 := hb; omega) ?_
    · (repeat' (first | with_reducible exact Sat.Mv.refl _ _ | with_reducible refine Sat.Mv.alloc ?_ _ | with_reducible refine Sat.Mv.drew ?_ | with_reducible refine Sat.Mv.drewN ?_ _ | with_reducible refine Sat.Mv.set ?_ ?_ _)) <;> (first | exact Or.inl (Or.inl rfl) | exact Or.inl (Or.inr rfl) | exact Or.inl rfl | (refine Or.inr ?_; (try simp); omega) | (refine Or.inl ?_; (try simp); omega))
    · exact ⟨_, rfl, (LS.one _ w.heap.size 0 [.string (tx op1), .string (tx nm1), .slice qA1 args1.length cA1, .slice qB1 tys1.length cB1, .int .i64 (p1 : Nat)] (exR op1 nm1 args1 tys1 p1) (by (try simp); omega) rfl (.cons (X.s _ _ _) (.cons (X.s _ _ _) (.cons (HX1.out.1.far (G := fun b => b = g ∨ b < 0) (mvt HS2.out (by (repeat' (first | with_reducible exact Sat.Mv.refl _ _ | with_reducible refine Sat.Mv.alloc ?_ _ | with_reducible refine Sat.Mv.drew ?_ | with_reducible refine Sat.Mv.drewN ?_ _ | with_reducible refine Sat.Mv.set ?_ ?_ _)) <;> (first | exact Or.inl (Or.inl rfl) | exact Or.inl (Or.inr rfl) | exact Or.inl rfl | (refine Or.inr ?_; (try simp); omega) | (refine Or.inl ?_; (try simp); omega)))) (by intro b hb hl hk; (try simp at hb); have hk : b = g ∨ b < 0 := hk; omega) (by intro b hb; (try simp at hb); show w.heap.size ≤ b; omega)) (.cons (HX1.out.2.far (G := fun b => b = g ∨ b < 0) (mvt HS2.out (by (repeat' (first | with_reducible exact Sat.Mv.refl _ _ | with_reducible refine Sat.Mv.alloc ?_ _ | with_reducible refine Sat.Mv.drew ?_ | with_reducible refine Sat.Mv.drewN ?_ _ | with_reducible refine Sat.Mv.set ?_ ?_ _)) <;> (first | exact Or.inl (Or.inl rfl) | exact Or.inl (Or.inr rfl) | exact Or.inl rfl | (refine Or.inr ?_; (try simp); omega) | (refine Or.inl ?_; (try simp); omega)))) (by intro b hb hl hk; (try simp at hb); have hk : b = g ∨ b < 0 := hk; omega) (by intro b hb; (try simp at hb); show w.heap.size ≤ b; omega)) (.cons (X.a _ _ _) .nil)))))).x⟩
end Syn
end Go.Proofs.YtomldkljlbdnjaaGreat
