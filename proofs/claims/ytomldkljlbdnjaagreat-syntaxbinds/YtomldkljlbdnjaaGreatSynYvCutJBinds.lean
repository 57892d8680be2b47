/- Methods of the reader: primary. No statement of the seat is proved here. -/
import Derived.Test.YtomldkljlbdnjaaGreatJoin10Binds
import Derived.Test.YtomldkljlbdnjaaGreatJoin11Binds
namespace Go.Proofs.YtomldkljlbdnjaaGreat
open Go.RowKit
set_option linter.unusedVariables false
set_option linter.unusedSimpArgs false
namespace Syn
open Euf (OL App Stop)
open Lex (T TL tx bs tkC FV IsNm hide)
set_option maxRecDepth 4000 in
set_option maxHeartbeats 2000000 in
theorem primary_sp (en g lo N : Nat) (halone : ∀ op, Sp1A 195 #[.pointer (some ⟨g, 0, none⟩), .string (tx op)] ShE (.alone op) en g lo N) (hobject : Sp1 196 ShE .object en g lo N) (hlist : Sp1 197 ShE .list en g lo N) (hinRound : Sp 177 (ShL 0) .inRound en g lo N) : Sp 192 ShE .primary en g lo (N + 1) := by
  intro w dp st h hne
  have hgl := h.gl
  have hlw := h.lw
  have hgw := h.lt
  have HQ0 := hide h
  clear h
  obtain ⟨R, hRR⟩ : ∃ R, R = P en (N + 1) .primary dp st := ⟨_, rfl⟩
  rw [← hRR] at hne ⊢
  simp only [P, wantP, nameP] at hRR
  by_cases y0 : (Syn.hd en st).k = 2
  case pos =>
    rw [if_pos y0] at hRR
    have HC1 : Hid (∀ w1, Q w1 g lo en dp st → P en N (.alone ([110, 117, 109] : List UInt8)) dp st ≠ .out → Calls Tryz.prog 195 #[.pointer (some ⟨g, 0, none⟩), .string (tx ([110, 117, 109] : List UInt8))] w1 fun e w' => Ans ShE w1 g lo en dp e w' (P en N (.alone ([110, 117, 109] : List UInt8)) dp st)) := fun w1 q1 hn => halone ([110, 117, 109] : List UInt8) w1 dp st q1 (by exact num_ne y0) hn
    generalize P en N (.alone ([110, 117, 109] : List UInt8)) dp st = E1 at hRR HC1
    cases E1 with
    | out => exact absurd hRR hne
    | bad cc a =>
      have hI0 : (((Syn.hd en st).k : Nat) : Int) = 2 := by omega
      have Hy0 := hide y0
      clear y0
      have HRR := hide hRR
      clear hRR
      go_enter Tryz.func192, Tryz.ntmps192
      go_wp2_with fail
      refine (step_q (fun b => b = w.heap.size) (wk := w) ?_ HQ0.out (fun b hb => by have hb : b = w.heap.size := hb; omega) (fun wz qz => next_q wz g lo en dp st qz)).mono ?_
      · (repeat' (first | with_reducible exact Sat.Mv.refl _ _ | with_reducible refine Sat.Mv.alloc ?_ _ | with_reducible refine Sat.Mv.drew ?_ | with_reducible refine Sat.Mv.drewN ?_ _ | with_reducible refine Sat.Mv.set ?_ ?_ _)) <;> (first | exact Or.inl (Or.inl rfl) | exact Or.inl (Or.inr rfl) | exact Or.inl rfl | (refine Or.inr ?_; (try simp); omega) | (refine Or.inl ?_; (try simp); omega))
      rintro e w1 ⟨⟨rfl, b2⟩, sg⟩
      have m2 : MvR g _ w1 := Sat.Mv.below b2
      have q2 : Q w1 g lo en dp st := (HQ0.out.mv sg (fun b hb => by have hb : b = w.heap.size := hb; omega)).below b2
      have z0 := m2.size
      try simp at z0
      have HS0 := hide (seg sg m2)
      have HQ1 := hide q2
      have hB : Blk 49 w1 (w.heap.size) #[.string ByteArray.empty, .string ByteArray.empty, .slice none 0 0, .slice none 0 0, .int .i64 0] := m2.blk (by (repeat' (first | exact Blk.new _ _ _ | with_reducible refine Blk.alloc ?_ _ | with_reducible refine Blk.drewN ?_ _ | with_reducible refine Blk.other ?_ ?_ _)) <;> (first | (simp; omega) | simp | omega)) (by omega)
      have HB := hide hB
      clear hB
      clear m2 q2 sg b2
      simp only [TV]
      have F10 := fun w => field_text (tx (Syn.hd en st).x) (Syn.hd en st).k (Syn.hd en st).a w
      have F20 := fun w => field_place (tx (Syn.hd en st).x) (Syn.hd en st).k (Syn.hd en st).a w
      go_wp2_with fail
      refine (step_q (fun b => b = w.heap.size) (wk := w1) ?_ HQ1.out (fun b hb => by have hb : b = w.heap.size := hb; omega) (fun wz qz => HC1.out wz qz (fun e => by cases e))).mono ?_
      · (repeat' (first | with_reducible exact Sat.Mv.refl _ _ | with_reducible refine Sat.Mv.alloc ?_ _ | with_reducible refine Sat.Mv.drew ?_ | with_reducible refine Sat.Mv.drewN ?_ _ | with_reducible refine Sat.Mv.set ?_ ?_ _)) <;> (first | exact Or.inl (Or.inl rfl) | exact Or.inl (Or.inr rfl) | exact Or.inl rfl | (refine Or.inr ?_; (try simp); omega) | (refine Or.inl ?_; (try simp); omega))
      rintro e w2 ⟨⟨m2, rfl⟩, sg⟩
      go_wp2
      refine ⟨rfl, ?_⟩
      rw [HRR.out]
      refine ⟨Mv.out (mvt HS0.out (seg sg m2)) (fun b hb => by have hb : b = g ∨ b = w.heap.size := hb; omega), rfl⟩
    | ok r1 s1 =>
      try simp only [Res.to_ok] at hRR
      have hI0 : (((Syn.hd en st).k : Nat) : Int) = 2 := by omega
      have Hy0 := hide y0
      clear y0
      have HRR := hide hRR
      clear hRR
      go_enter Tryz.func192, Tryz.ntmps192
      go_wp2_with fail
      refine (step_q (fun b => b = w.heap.size) (wk := w) ?_ HQ0.out (fun b hb => by have hb : b = w.heap.size := hb; omega) (fun wz qz => next_q wz g lo en dp st qz)).mono ?_
      · (repeat' (first | with_reducible exact Sat.Mv.refl _ _ | with_reducible refine Sat.Mv.alloc ?_ _ | with_reducible refine Sat.Mv.drew ?_ | with_reducible refine Sat.Mv.drewN ?_ _ | with_reducible refine Sat.Mv.set ?_ ?_ _)) <;> (first | exact Or.inl (Or.inl rfl) | exact Or.inl (Or.inr rfl) | exact Or.inl rfl | (refine Or.inr ?_; (try simp); omega) | (refine Or.inl ?_; (try simp); omega))
      rintro e w1 ⟨⟨rfl, b2⟩, sg⟩
      have m2 : MvR g _ w1 := Sat.Mv.below b2
      have q2 : Q w1 g lo en dp st := (HQ0.out.mv sg (fun b hb => by have hb : b = w.heap.size := hb; omega)).below b2
      have z0 := m2.size
      try simp at z0
      have HS0 := hide (seg sg m2)
      have HQ1 := hide q2
      have hB : Blk 49 w1 (w.heap.size) #[.string ByteArray.empty, .string ByteArray.empty, .slice none 0 0, .slice none 0 0, .int .i64 0] := m2.blk (by (repeat' (first | exact Blk.new _ _ _ | with_reducible refine Blk.alloc ?_ _ | with_reducible refine Blk.drewN ?_ _ | with_reducible refine Blk.other ?_ ?_ _)) <;> (first | (simp; omega) | simp | omega)) (by omega)
      have HB := hide hB
      clear hB
      clear m2 q2 sg b2
      simp only [TV]
      have F10 := fun w => field_text (tx (Syn.hd en st).x) (Syn.hd en st).k (Syn.hd en st).a w
      have F20 := fun w => field_place (tx (Syn.hd en st).x) (Syn.hd en st).k (Syn.hd en st).a w
      go_wp2_with fail
      refine (step_q (fun b => b = w.heap.size) (wk := w1) ?_ HQ1.out (fun b hb => by have hb : b = w.heap.size := hb; omega) (fun wz qz => HC1.out wz qz (fun e => by cases e))).mono ?_
      · (repeat' (first | with_reducible exact Sat.Mv.refl _ _ | with_reducible refine Sat.Mv.alloc ?_ _ | with_reducible refine Sat.Mv.drew ?_ | with_reducible refine Sat.Mv.drewN ?_ _ | with_reducible refine Sat.Mv.set ?_ ?_ _)) <;> (first | exact Or.inl (Or.inl rfl) | exact Or.inl (Or.inr rfl) | exact Or.inl rfl | (refine Or.inr ?_; (try simp); omega) | (refine Or.inl ?_; (try simp); omega))
      rintro e w2 ⟨⟨m2, q2, u, rfl, op1, nm1, args1, tys1, p1, A1, B1, rfl, rfl, xA1, xB1⟩, sg⟩
      obtain ⟨qA1, cA1, rfl⟩ := xA1.slice
      obtain ⟨qB1, cB1, rfl⟩ := xB1.slice
      have z1 := m2.size
      try simp at z1
      have HS1 := hide (seg sg m2)
      have HQ2 := hide q2
      have HX1 := hide (And.intro xA1 xB1)
      clear xA1 xB1
      have hB : Blk 49 w2 (w.heap.size) #[.string ByteArray.empty, .string ByteArray.empty, .slice none 0 0, .slice none 0 0, .int .i64 0] := m2.blk (by (repeat' (first | with_reducible exact HB.out | with_reducible refine Blk.alloc ?_ _ | with_reducible refine Blk.drewN ?_ _ | with_reducible refine Blk.other ?_ ?_ _ | exact HB.out)) <;> (first | (simp; omega) | simp | omega)) (by omega)
      clear HB
      have HB := hide hB
      clear hB
      clear m2 q2 sg
      go_wp2_with ((show wpList _ _ _ _ _ _); refine store_blk rfl 49 (.tmp 2) (.tmp 10) rfl (w.heap.size) _ rfl rfl 49 #[.string ByteArray.empty, .string ByteArray.empty, .slice none 0 0, .slice none 0 0, .int .i64 0] (by (repeat' (first | with_reducible exact HB.out | with_reducible refine Blk.alloc ?_ _ | with_reducible refine Blk.drewN ?_ _ | with_reducible refine Blk.other ?_ ?_ _ | exact HB.out)) <;> (first | (simp; omega) | simp | omega)) (by kernel_rfl) rfl rfl ?_; intro wf b2 m2; have HE := hide (show Sat.Mv (fun b => b = w.heap.size) w2 wf from mvt (by (repeat' (first | with_reducible exact Sat.Mv.refl _ _ | with_reducible refine Sat.Mv.alloc ?_ _ | with_reducible refine Sat.Mv.drew ?_ | with_reducible refine Sat.Mv.drewN ?_ _ | with_reducible refine Sat.Mv.set ?_ ?_ _)) <;> (first | exact Or.inl (Or.inl rfl) | exact Or.inl (Or.inr rfl) | exact Or.inl rfl | (refine Or.inr ?_; (try simp); omega) | (refine Or.inl ?_; (try simp); omega))) (Mv.wide m2 (fun b hb => hb))); have HM := hide m2; obtain ⟨c0, c1, c2, c3, c4, k0, k1, k2, k3, k4⟩ := bk5 b2; clear m2 b2)
      refine bodyPost_ret (v := .agg #[.string (tx op1), .string (tx nm1), .slice qA1 args1.length cA1, .slice qB1 tys1.length cB1, .int .i64 (p1 : Nat)]) (by simp [results, Tryz.results192, go_sem, c0, c1, c2, c3, c4]) rfl ?_
      rw [HRR.out]
      exact ans_fin (fun b => b = w.heap.size) HE.out (mvt HS0.out HS1.out) (fun b hb => by have hb : b = g ∨ b = w.heap.size := hb; omega) HQ2.out (fun b hb => by have hb : b = w.heap.size := hb; omega) ⟨_, _, _, _, _, _, _, rfl, rfl, HX1.out.1.far (G := fun b => b = g ∨ b = w.heap.size) (Mv.wide HE.out fun b k => Or.inr k) (by intro b hb hl hk; (try simp at hb); have hk : b = g ∨ b = w.heap.size := hk; omega) (by intro b hb; (try simp at hb); show w.heap.size ≤ b; omega), HX1.out.2.far (G := fun b => b = g ∨ b = w.heap.size) (Mv.wide HE.out fun b k => Or.inr k) (by intro b hb hl hk; (try simp at hb); have hk : b = g ∨ b = w.heap.size := hk; omega) (by intro b hb; (try simp at hb); show w.heap.size ≤ b; omega)⟩
  rw [if_neg y0] at hRR
  by_cases x1 : IsNm (Syn.hd en st).x
  case pos =>
    rw [if_pos x1] at hRR
    have HC2 : Hid (∀ w1, Q w1 g lo en dp st → P en N (.alone ([118, 97, 114] : List UInt8)) dp st ≠ .out → Calls Tryz.prog 195 #[.pointer (some ⟨g, 0, none⟩), .string (tx ([118, 97, 114] : List UInt8))] w1 fun e w' => Ans ShE w1 g lo en dp e w' (P en N (.alone ([118, 97, 114] : List UInt8)) dp st)) := fun w1 q1 hn => halone ([118, 97, 114] : List UInt8) w1 dp st q1 (by exact nm_ne' x1) hn
    generalize P en N (.alone ([118, 97, 114] : List UInt8)) dp st = E2 at hRR HC2
    cases E2 with
    | out => exact absurd hRR hne
    | bad cc a =>
      have hI0 : ¬ (((Syn.hd en st).k : Nat) : Int) = 2 := by omega
      have Hy0 := hide y0
      clear y0
      have Hx1 := hide x1
      clear x1
      have HRR := hide hRR
      clear hRR
      go_enter Tryz.func192, Tryz.ntmps192
      go_wp2_with fail
      refine (step_q (fun b => b = w.heap.size) (wk := w) ?_ HQ0.out (fun b hb => by have hb : b = w.heap.size := hb; omega) (fun wz qz => next_q wz g lo en dp st qz)).mono ?_
      · (repeat' (first | with_reducible exact Sat.Mv.refl _ _ | with_reducible refine Sat.Mv.alloc ?_ _ | with_reducible refine Sat.Mv.drew ?_ | with_reducible refine Sat.Mv.drewN ?_ _ | with_reducible refine Sat.Mv.set ?_ ?_ _)) <;> (first | exact Or.inl (Or.inl rfl) | exact Or.inl (Or.inr rfl) | exact Or.inl rfl | (refine Or.inr ?_; (try simp); omega) | (refine Or.inl ?_; (try simp); omega))
      rintro e w1 ⟨⟨rfl, b2⟩, sg⟩
      have m2 : MvR g _ w1 := Sat.Mv.below b2
      have q2 : Q w1 g lo en dp st := (HQ0.out.mv sg (fun b hb => by have hb : b = w.heap.size := hb; omega)).below b2
      have z0 := m2.size
      try simp at z0
      have HS0 := hide (seg sg m2)
      have HQ1 := hide q2
      have hB : Blk 49 w1 (w.heap.size) #[.string ByteArray.empty, .string ByteArray.empty, .slice none 0 0, .slice none 0 0, .int .i64 0] := m2.blk (by (repeat' (first | exact Blk.new _ _ _ | with_reducible refine Blk.alloc ?_ _ | with_reducible refine Blk.drewN ?_ _ | with_reducible refine Blk.other ?_ ?_ _)) <;> (first | (simp; omega) | simp | omega)) (by omega)
      have HB := hide hB
      clear hB
      clear m2 q2 sg b2
      simp only [TV]
      have F10 := fun w => field_text (tx (Syn.hd en st).x) (Syn.hd en st).k (Syn.hd en st).a w
      have F20 := fun w => field_place (tx (Syn.hd en st).x) (Syn.hd en st).k (Syn.hd en st).a w
      go_wp2_with fail
      refine (step_isname (fun b => b = w.heap.size) (wk := w1) ?_ HQ1.out (fun b hb => by have hb : b = w.heap.size := hb; omega)).mono ?_
      · (repeat' (first | with_reducible exact Sat.Mv.refl _ _ | with_reducible refine Sat.Mv.alloc ?_ _ | with_reducible refine Sat.Mv.drew ?_ | with_reducible refine Sat.Mv.drewN ?_ _ | with_reducible refine Sat.Mv.set ?_ ?_ _)) <;> (first | exact Or.inl (Or.inl rfl) | exact Or.inl (Or.inr rfl) | exact Or.inl rfl | (refine Or.inr ?_; (try simp); omega) | (refine Or.inl ?_; (try simp); omega))
      rintro e w2 ⟨⟨he, b2⟩, sg⟩
      rw [decide_eq_true Hx1.out] at he
      subst he
      have m2 : MvR g _ w2 := Sat.Mv.below b2
      have q2 : Q w2 g lo en dp st := (HQ1.out.mv sg (fun b hb => by have hb : b = w.heap.size := hb; omega)).below b2
      have z1 := m2.size
      try simp at z1
      have HS1 := hide (seg sg m2)
      have HQ2 := hide q2
      have hB : Blk 49 w2 (w.heap.size) #[.string ByteArray.empty, .string ByteArray.empty, .slice none 0 0, .slice none 0 0, .int .i64 0] := m2.blk (by (repeat' (first | with_reducible exact HB.out | with_reducible refine Blk.alloc ?_ _ | with_reducible refine Blk.drewN ?_ _ | with_reducible refine Blk.other ?_ ?_ _ | exact HB.out)) <;> (first | (simp; omega) | simp | omega)) (by omega)
      clear HB
      have HB := hide hB
      clear hB
      have hL : Blk 43 w2 (w1.heap.size) #[.int .i64 ((Syn.hd en st).k : Nat), .string (tx (Syn.hd en st).x), .int .i64 ((Syn.hd en st).a : Nat)] := m2.blk (by (repeat' (first | exact Blk.new _ _ _ | with_reducible refine Blk.alloc ?_ _ | with_reducible refine Blk.drewN ?_ _ | with_reducible refine Blk.other ?_ ?_ _)) <;> (first | (simp; omega) | simp | omega)) (by omega)
      have HL0 := hide hL
      clear hL
      obtain ⟨l0_0, l0_1, l0_2, f0_0, f0_1, f0_2⟩ := bk3 HL0.out
      clear m2 q2 sg b2
      go_wp2_with fail
      refine (step_q (fun b => b = w.heap.size) (wk := w2) ?_ HQ2.out (fun b hb => by have hb : b = w.heap.size := hb; omega) (fun wz qz => HC2.out wz qz (fun e => by cases e))).mono ?_
      · (repeat' (first | with_reducible exact Sat.Mv.refl _ _ | with_reducible refine Sat.Mv.alloc ?_ _ | with_reducible refine Sat.Mv.drew ?_ | with_reducible refine Sat.Mv.drewN ?_ _ | with_reducible refine Sat.Mv.set ?_ ?_ _)) <;> (first | exact Or.inl (Or.inl rfl) | exact Or.inl (Or.inr rfl) | exact Or.inl rfl | (refine Or.inr ?_; (try simp); omega) | (refine Or.inl ?_; (try simp); omega))
      rintro e w3 ⟨⟨m2, rfl⟩, sg⟩
      go_wp2
      refine ⟨rfl, ?_⟩
      rw [HRR.out]
      refine ⟨Mv.out (mvt (mvt HS0.out HS1.out) (seg sg m2)) (fun b hb => by have hb : b = g ∨ b = w.heap.size := hb; omega), rfl⟩
    | ok r2 s2 =>
      try simp only [Res.to_ok] at hRR
      have hI0 : ¬ (((Syn.hd en st).k : Nat) : Int) = 2 := by omega
      have Hy0 := hide y0
      clear y0
      have Hx1 := hide x1
      clear x1
      have HRR := hide hRR
      clear hRR
      go_enter Tryz.func192, Tryz.ntmps192
      go_wp2_with fail
      refine (step_q (fun b => b = w.heap.size) (wk := w) ?_ HQ0.out (fun b hb => by have hb : b = w.heap.size := hb; omega) (fun wz qz => next_q wz g lo en dp st qz)).mono ?_
      · (repeat' (first | with_reducible exact Sat.Mv.refl _ _ | with_reducible refine Sat.Mv.alloc ?_ _ | with_reducible refine Sat.Mv.drew ?_ | with_reducible refine Sat.Mv.drewN ?_ _ | with_reducible refine Sat.Mv.set ?_ ?_ _)) <;> (first | exact Or.inl (Or.inl rfl) | exact Or.inl (Or.inr rfl) | exact Or.inl rfl | (refine Or.inr ?_; (try simp); omega) | (refine Or.inl ?_; (try simp); omega))
      rintro e w1 ⟨⟨rfl, b2⟩, sg⟩
      have m2 : MvR g _ w1 := Sat.Mv.below b2
      have q2 : Q w1 g lo en dp st := (HQ0.out.mv sg (fun b hb => by have hb : b = w.heap.size := hb; omega)).below b2
      have z0 := m2.size
      try simp at z0
      have HS0 := hide (seg sg m2)
      have HQ1 := hide q2
      have hB : Blk 49 w1 (w.heap.size) #[.string ByteArray.empty, .string ByteArray.empty, .slice none 0 0, .slice none 0 0, .int .i64 0] := m2.blk (by (repeat' (first | exact Blk.new _ _ _ | with_reducible refine Blk.alloc ?_ _ | with_reducible refine Blk.drewN ?_ _ | with_reducible refine Blk.other ?_ ?_ _)) <;> (first | (simp; omega) | simp | omega)) (by omega)
      have HB := hide hB
      clear hB
      clear m2 q2 sg b2
      simp only [TV]
      have F10 := fun w => field_text (tx (Syn.hd en st).x) (Syn.hd en st).k (Syn.hd en st).a w
      have F20 := fun w => field_place (tx (Syn.hd en st).x) (Syn.hd en st).k (Syn.hd en st).a w
      go_wp2_with fail
      refine (step_isname (fun b => b = w.heap.size) (wk := w1) ?_ HQ1.out (fun b hb => by have hb : b = w.heap.size := hb; omega)).mono ?_
      · (repeat' (first | with_reducible exact Sat.Mv.refl _ _ | with_reducible refine Sat.Mv.alloc ?_ _ | with_reducible refine Sat.Mv.drew ?_ | with_reducible refine Sat.Mv.drewN ?_ _ | with_reducible refine Sat.Mv.set ?_ ?_ _)) <;> (first | exact Or.inl (Or.inl rfl) | exact Or.inl (Or.inr rfl) | exact Or.inl rfl | (refine Or.inr ?_; (try simp); omega) | (refine Or.inl ?_; (try simp); omega))
      rintro e w2 ⟨⟨he, b2⟩, sg⟩
      rw [decide_eq_true Hx1.out] at he
      subst he
      have m2 : MvR g _ w2 := Sat.Mv.below b2
      have q2 : Q w2 g lo en dp st := (HQ1.out.mv sg (fun b hb => by have hb : b = w.heap.size := hb; omega)).below b2
      have z1 := m2.size
      try simp at z1
      have HS1 := hide (seg sg m2)
      have HQ2 := hide q2
      have hB : Blk 49 w2 (w.heap.size) #[.string ByteArray.empty, .string ByteArray.empty, .slice none 0 0, .slice none 0 0, .int .i64 0] := m2.blk (by (repeat' (first | with_reducible exact HB.out | with_reducible refine Blk.alloc ?_ _ | with_reducible refine Blk.drewN ?_ _ | with_reducible refine Blk.other ?_ ?_ _ | exact HB.out)) <;> (first | (simp; omega) | simp | omega)) (by omega)
      clear HB
      have HB := hide hB
      clear hB
      have hL : Blk 43 w2 (w1.heap.size) #[.int .i64 ((Syn.hd en st).k : Nat), .string (tx (Syn.hd en st).x), .int .i64 ((Syn.hd en st).a : Nat)] := m2.blk (by (repeat' (first | exact Blk.new _ _ _ | with_reducible refine Blk.alloc ?_ _ | with_reducible refine Blk.drewN ?_ _ | with_reducible refine Blk.other ?_ ?_ _)) <;> (first | (simp; omega) | simp | omega)) (by omega)
      have HL0 := hide hL
      clear hL
      obtain ⟨l0_0, l0_1, l0_2, f0_0, f0_1, f0_2⟩ := bk3 HL0.out
      clear m2 q2 sg b2
      go_wp2_with fail
      refine (step_q (fun b => b = w.heap.size) (wk := w2) ?_ HQ2.out (fun b hb => by have hb : b = w.heap.size := hb; omega) (fun wz qz => HC2.out wz qz (fun e => by cases e))).mono ?_
      · (repeat' (first | with_reducible exact Sat.Mv.refl _ _ | with_reducible refine Sat.Mv.alloc ?_ _ | with_reducible refine Sat.Mv.drew ?_ | with_reducible refine Sat.Mv.drewN ?_ _ | with_reducible refine Sat.Mv.set ?_ ?_ _)) <;> (first | exact Or.inl (Or.inl rfl) | exact Or.inl (Or.inr rfl) | exact Or.inl rfl | (refine Or.inr ?_; (try simp); omega) | (refine Or.inl ?_; (try simp); omega))
      rintro e w3 ⟨⟨m2, q2, u, rfl, op2, nm2, args2, tys2, p2, A2, B2, rfl, rfl, xA2, xB2⟩, sg⟩
      obtain ⟨qA2, cA2, rfl⟩ := xA2.slice
      obtain ⟨qB2, cB2, rfl⟩ := xB2.slice
      have z2 := m2.size
      try simp at z2
      have HS2 := hide (seg sg m2)
      have HQ3 := hide q2
      have HX2 := hide (And.intro xA2 xB2)
      clear xA2 xB2
      have hB : Blk 49 w3 (w.heap.size) #[.string ByteArray.empty, .string ByteArray.empty, .slice none 0 0, .slice none 0 0, .int .i64 0] := m2.blk (by (repeat' (first | with_reducible exact HB.out | with_reducible refine Blk.alloc ?_ _ | with_reducible refine Blk.drewN ?_ _ | with_reducible refine Blk.other ?_ ?_ _ | exact HB.out)) <;> (first | (simp; omega) | simp | omega)) (by omega)
      clear HB
      have HB := hide hB
      clear hB
      have hL : Blk 43 w3 (w1.heap.size) #[.int .i64 ((Syn.hd en st).k : Nat), .string (tx (Syn.hd en st).x), .int .i64 ((Syn.hd en st).a : Nat)] := m2.blk (by (repeat' (first | with_reducible exact HL0.out | with_reducible refine Blk.alloc ?_ _ | with_reducible refine Blk.drewN ?_ _ | with_reducible refine Blk.other ?_ ?_ _ | exact HL0.out)) <;> (first | (simp; omega) | simp | omega)) (by omega)
      clear HL0 l0_0 l0_1 l0_2 f0_0 f0_1 f0_2
      have HL0 := hide hL
      clear hL
      obtain ⟨l0_0, l0_1, l0_2, f0_0, f0_1, f0_2⟩ := bk3 HL0.out
      clear m2 q2 sg
      go_wp2_with ((show wpList _ _ _ _ _ _); refine store_blk rfl 49 (.tmp 2) (.tmp 15) rfl (w.heap.size) _ rfl rfl 49 #[.string ByteArray.empty, .string ByteArray.empty, .slice none 0 0, .slice none 0 0, .int .i64 0] (by (repeat' (first | with_reducible exact HB.out | with_reducible refine Blk.alloc ?_ _ | with_reducible refine Blk.drewN ?_ _ | with_reducible refine Blk.other ?_ ?_ _ | exact HB.out)) <;> (first | (simp; omega) | simp | omega)) (by kernel_rfl) rfl rfl ?_; intro wf b2 m2; have HE := hide (show Sat.Mv (fun b => b = w.heap.size) w3 wf from mvt (by (repeat' (first | with_reducible exact Sat.Mv.refl _ _ | with_reducible refine Sat.Mv.alloc ?_ _ | with_reducible refine Sat.Mv.drew ?_ | with_reducible refine Sat.Mv.drewN ?_ _ | with_reducible refine Sat.Mv.set ?_ ?_ _)) <;> (first | exact Or.inl (Or.inl rfl) | exact Or.inl (Or.inr rfl) | exact Or.inl rfl | (refine Or.inr ?_; (try simp); omega) | (refine Or.inl ?_; (try simp); omega))) (Mv.wide m2 (fun b hb => hb))); have HM := hide m2; obtain ⟨c0, c1, c2, c3, c4, k0, k1, k2, k3, k4⟩ := bk5 b2; clear m2 b2)
      refine bodyPost_ret (v := .agg #[.string (tx op2), .string (tx nm2), .slice qA2 args2.length cA2, .slice qB2 tys2.length cB2, .int .i64 (p2 : Nat)]) (by simp [results, Tryz.results192, go_sem, c0, c1, c2, c3, c4]) rfl ?_
      rw [HRR.out]
      exact ans_fin (fun b => b = w.heap.size) HE.out (mvt (mvt HS0.out HS1.out) HS2.out) (fun b hb => by have hb : b = g ∨ b = w.heap.size := hb; omega) HQ3.out (fun b hb => by have hb : b = w.heap.size := hb; omega) ⟨_, _, _, _, _, _, _, rfl, rfl, HX2.out.1.far (G := fun b => b = g ∨ b = w.heap.size) (Mv.wide HE.out fun b k => Or.inr k) (by intro b hb hl hk; (try simp at hb); have hk : b = g ∨ b = w.heap.size := hk; omega) (by intro b hb; (try simp at hb); show w.heap.size ≤ b; omega), HX2.out.2.far (G := fun b => b = g ∨ b = w.heap.size) (Mv.wide HE.out fun b k => Or.inr k) (by intro b hb hl hk; (try simp at hb); have hk : b = g ∨ b = w.heap.size := hk; omega) (by intro b hb; (try simp at hb); show w.heap.size ≤ b; omega)⟩
  rw [if_neg x1] at hRR
  by_cases y1 : (Syn.hd en st).x = ([116, 114, 117, 101] : List UInt8)
  case pos =>
    have yo : (Syn.hd en st).x = ([116, 114, 117, 101] : List UInt8) ∨ (Syn.hd en st).x = ([102, 97, 108, 115, 101] : List UInt8) ∨ (Syn.hd en st).x = ([110, 117, 108, 108] : List UInt8) ∨ (Syn.hd en st).x = ([116, 104, 105, 115] : List UInt8) := by rw [y1]; decide
    rw [if_pos yo] at hRR
    clear yo
    have hI0 : ¬ (((Syn.hd en st).k : Nat) : Int) = 2 := by omega
    have Hy0 := hide y0
    clear y0
    have hI1 : ((tx (Syn.hd en st).x).toList == ([116, 114, 117, 101] : List UInt8)) = true := by rw [Lex.eqT, Lex.bs_tx]; exact decide_eq_true y1
    have Hy1 := hide y1
    clear y1
    have Hx1 := hide x1
    clear x1
    have HRR := hide hRR
    clear hRR
    go_enter Tryz.func192, Tryz.ntmps192
    go_wp2_with fail
    refine (step_q (fun b => b = w.heap.size) (wk := w) ?_ HQ0.out (fun b hb => by have hb : b = w.heap.size := hb; omega) (fun wz qz => next_q wz g lo en dp st qz)).mono ?_
    · (repeat' (first | with_reducible exact Sat.Mv.refl _ _ | with_reducible refine Sat.Mv.alloc ?_ _ | with_reducible refine Sat.Mv.drew ?_ | with_reducible refine Sat.Mv.drewN ?_ _ | with_reducible refine Sat.Mv.set ?_ ?_ _)) <;> (first | exact Or.inl (Or.inl rfl) | exact Or.inl (Or.inr rfl) | exact Or.inl rfl | (refine Or.inr ?_; (try simp); omega) | (refine Or.inl ?_; (try simp); omega))
    rintro e w1 ⟨⟨rfl, b2⟩, sg⟩
    have m2 : MvR g _ w1 := Sat.Mv.below b2
    have q2 : Q w1 g lo en dp st := (HQ0.out.mv sg (fun b hb => by have hb : b = w.heap.size := hb; omega)).below b2
    have z0 := m2.size
    try simp at z0
    have HS0 := hide (seg sg m2)
    have HQ1 := hide q2
    have hB : Blk 49 w1 (w.heap.size) #[.string ByteArray.empty, .string ByteArray.empty, .slice none 0 0, .slice none 0 0, .int .i64 0] := m2.blk (by (repeat' (first | exact Blk.new _ _ _ | with_reducible refine Blk.alloc ?_ _ | with_reducible refine Blk.drewN ?_ _ | with_reducible refine Blk.other ?_ ?_ _)) <;> (first | (simp; omega) | simp | omega)) (by omega)
    have HB := hide hB
    clear hB
    clear m2 q2 sg b2
    simp only [TV]
    have F10 := fun w => field_text (tx (Syn.hd en st).x) (Syn.hd en st).k (Syn.hd en st).a w
    have F20 := fun w => field_place (tx (Syn.hd en st).x) (Syn.hd en st).k (Syn.hd en st).a w
    go_wp2_with fail
    refine (step_isname (fun b => b = w.heap.size) (wk := w1) ?_ HQ1.out (fun b hb => by have hb : b = w.heap.size := hb; omega)).mono ?_
    · (repeat' (first | with_reducible exact Sat.Mv.refl _ _ | with_reducible refine Sat.Mv.alloc ?_ _ | with_reducible refine Sat.Mv.drew ?_ | with_reducible refine Sat.Mv.drewN ?_ _ | with_reducible refine Sat.Mv.set ?_ ?_ _)) <;> (first | exact Or.inl (Or.inl rfl) | exact Or.inl (Or.inr rfl) | exact Or.inl rfl | (refine Or.inr ?_; (try simp); omega) | (refine Or.inl ?_; (try simp); omega))
    rintro e w2 ⟨⟨he, b2⟩, sg⟩
    rw [decide_eq_false Hx1.out] at he
    subst he
    have m2 : MvR g _ w2 := Sat.Mv.below b2
    have q2 : Q w2 g lo en dp st := (HQ1.out.mv sg (fun b hb => by have hb : b = w.heap.size := hb; omega)).below b2
    have z1 := m2.size
    try simp at z1
    have HS1 := hide (seg sg m2)
    have HQ2 := hide q2
    have hB : Blk 49 w2 (w.heap.size) #[.string ByteArray.empty, .string ByteArray.empty, .slice none 0 0, .slice none 0 0, .int .i64 0] := m2.blk (by (repeat' (first | with_reducible exact HB.out | with_reducible refine Blk.alloc ?_ _ | with_reducible refine Blk.drewN ?_ _ | with_reducible refine Blk.other ?_ ?_ _ | exact HB.out)) <;> (first | (simp; omega) | simp | omega)) (by omega)
    clear HB
    have HB := hide hB
    clear hB
    have hL : Blk 43 w2 (w1.heap.size) #[.int .i64 ((Syn.hd en st).k : Nat), .string (tx (Syn.hd en st).x), .int .i64 ((Syn.hd en st).a : Nat)] := m2.blk (by (repeat' (first | exact Blk.new _ _ _ | with_reducible refine Blk.alloc ?_ _ | with_reducible refine Blk.drewN ?_ _ | with_reducible refine Blk.other ?_ ?_ _)) <;> (first | (simp; omega) | simp | omega)) (by omega)
    have HL0 := hide hL
    clear hL
    obtain ⟨l0_0, l0_1, l0_2, f0_0, f0_1, f0_2⟩ := bk3 HL0.out
    clear m2 q2 sg b2
    go_wp2_with fail
    refine (step_q (fun b => b = w.heap.size) (wk := w2) ?_ HQ2.out (fun b hb => by have hb : b = w.heap.size := hb; omega) (fun wz qz => take_q wz g lo en dp st qz (by exact hd_ne (by decide) Hy1.out))).mono ?_
    · (repeat' (first | with_reducible exact Sat.Mv.refl _ _ | with_reducible refine Sat.Mv.alloc ?_ _ | with_reducible refine Sat.Mv.drew ?_ | with_reducible refine Sat.Mv.drewN ?_ _ | with_reducible refine Sat.Mv.set ?_ ?_ _)) <;> (first | exact Or.inl (Or.inl rfl) | exact Or.inl (Or.inr rfl) | exact Or.inl rfl | (refine Or.inr ?_; (try simp); omega) | (refine Or.inl ?_; (try simp); omega))
    rintro e w3 ⟨⟨rfl, q2, m2⟩, sg⟩
    have z2 := m2.size
    try simp at z2
    have HS2 := hide (seg sg m2)
    have HQ3 := hide q2
    have hB : Blk 49 w3 (w.heap.size) #[.string ByteArray.empty, .string ByteArray.empty, .slice none 0 0, .slice none 0 0, .int .i64 0] := m2.blk (by (repeat' (first | with_reducible exact HB.out | with_reducible refine Blk.alloc ?_ _ | with_reducible refine Blk.drewN ?_ _ | with_reducible refine Blk.other ?_ ?_ _ | exact HB.out)) <;> (first | (simp; omega) | simp | omega)) (by omega)
    clear HB
    have HB := hide hB
    clear hB
    have hL : Blk 43 w3 (w1.heap.size) #[.int .i64 ((Syn.hd en st).k : Nat), .string (tx (Syn.hd en st).x), .int .i64 ((Syn.hd en st).a : Nat)] := m2.blk (by (repeat' (first | with_reducible exact HL0.out | with_reducible refine Blk.alloc ?_ _ | with_reducible refine Blk.drewN ?_ _ | with_reducible refine Blk.other ?_ ?_ _ | exact HL0.out)) <;> (first | (simp; omega) | simp | omega)) (by omega)
    clear HL0 l0_0 l0_1 l0_2 f0_0 f0_1 f0_2
    have HL0 := hide hL
    clear hL
    obtain ⟨l0_0, l0_1, l0_2, f0_0, f0_1, f0_2⟩ := bk3 HL0.out
    clear m2 q2 sg
    simp only [TV]
    have F12 := fun w => field_text (tx (Syn.hd en st).x) (Syn.hd en st).k (Syn.hd en st).a w
    have F22 := fun w => field_place (tx (Syn.hd en st).x) (Syn.hd en st).k (Syn.hd en st).a w
    go_wp2_with ((show wpList _ _ _ _ _ _); refine store_blk rfl 49 (.tmp 2) (.tmp 29) rfl (w.heap.size) _ rfl rfl 49 #[.string ByteArray.empty, .string ByteArray.empty, .slice none 0 0, .slice none 0 0, .int .i64 0] (by (repeat' (first | with_reducible exact HB.out | with_reducible refine Blk.alloc ?_ _ | with_reducible refine Blk.drewN ?_ _ | with_reducible refine Blk.other ?_ ?_ _ | exact HB.out)) <;> (first | (simp; omega) | simp | omega)) (by kernel_rfl) rfl rfl ?_; intro wf b2 m2; have HE := hide (show Sat.Mv (fun b => b = w.heap.size) w3 wf from mvt (by (repeat' (first | with_reducible exact Sat.Mv.refl _ _ | with_reducible refine Sat.Mv.alloc ?_ _ | with_reducible refine Sat.Mv.drew ?_ | with_reducible refine Sat.Mv.drewN ?_ _ | with_reducible refine Sat.Mv.set ?_ ?_ _)) <;> (first | exact Or.inl (Or.inl rfl) | exact Or.inl (Or.inr rfl) | exact Or.inl rfl | (refine Or.inr ?_; (try simp); omega) | (refine Or.inl ?_; (try simp); omega))) (Mv.wide m2 (fun b hb => hb))); have HM := hide m2; obtain ⟨c0, c1, c2, c3, c4, k0, k1, k2, k3, k4⟩ := bk5 b2; clear m2 b2)
    refine bodyPost_ret (v := .agg #[.string (tx (Syn.hd en st).x), .string { data := #[] }, .slice none 0 0, .slice none 0 0, .int .i64 ((Syn.hd en st).a : Nat)]) (by simp [results, Tryz.results192, go_sem, c0, c1, c2, c3, c4]) rfl ?_
    rw [HRR.out]
    exact ans_fin (fun b => b = w.heap.size) HE.out (mvt (mvt HS0.out HS1.out) HS2.out) (fun b hb => by have hb : b = g ∨ b = w.heap.size := hb; omega) HQ3.out (fun b hb => by have hb : b = w.heap.size := hb; omega) ⟨_, _, _, _, _, _, _, rfl, rfl, X.nil _ _ _, X.nil _ _ _⟩
  by_cases y2 : (Syn.hd en st).x = ([102, 97, 108, 115, 101] : List UInt8)
  case pos =>
    have yo : (Syn.hd en st).x = ([116, 114, 117, 101] : List UInt8) ∨ (Syn.hd en st).x = ([102, 97, 108, 115, 101] : List UInt8) ∨ (Syn.hd en st).x = ([110, 117, 108, 108] : List UInt8) ∨ (Syn.hd en st).x = ([116, 104, 105, 115] : List UInt8) := by rw [y2]; decide
    rw [if_pos yo] at hRR
    clear yo
    have hI0 : ¬ (((Syn.hd en st).k : Nat) : Int) = 2 := by omega
    have Hy0 := hide y0
    clear y0
    have hI1 : ((tx (Syn.hd en st).x).toList == ([116, 114, 117, 101] : List UInt8)) = false := by rw [Lex.eqT, Lex.bs_tx]; exact decide_eq_false y1
    have Hy1 := hide y1
    clear y1
    have hI2 : ((tx (Syn.hd en st).x).toList == ([102, 97, 108, 115, 101] : List UInt8)) = true := by rw [Lex.eqT, Lex.bs_tx]; exact decide_eq_true y2
    have Hy2 := hide y2
    clear y2
    have Hx1 := hide x1
    clear x1
    have HRR := hide hRR
    clear hRR
    go_enter Tryz.func192, Tryz.ntmps192
    go_wp2_with fail
    refine (step_q (fun b => b = w.heap.size) (wk := w) ?_ HQ0.out (fun b hb => by have hb : b = w.heap.size := hb; omega) (fun wz qz => next_q wz g lo en dp st qz)).mono ?_
    · (repeat' (first | with_reducible exact Sat.Mv.refl _ _ | with_reducible refine Sat.Mv.alloc ?_ _ | with_reducible refine Sat.Mv.drew ?_ | with_reducible refine Sat.Mv.drewN ?_ _ | with_reducible refine Sat.Mv.set ?_ ?_ _)) <;> (first | exact Or.inl (Or.inl rfl) | exact Or.inl (Or.inr rfl) | exact Or.inl rfl | (refine Or.inr ?_; (try simp); omega) | (refine Or.inl ?_; (try simp); omega))
    rintro e w1 ⟨⟨rfl, b2⟩, sg⟩
    have m2 : MvR g _ w1 := Sat.Mv.below b2
    have q2 : Q w1 g lo en dp st := (HQ0.out.mv sg (fun b hb => by have hb : b = w.heap.size := hb; omega)).below b2
    have z0 := m2.size
    try simp at z0
    have HS0 := hide (seg sg m2)
    have HQ1 := hide q2
    have hB : Blk 49 w1 (w.heap.size) #[.string ByteArray.empty, .string ByteArray.empty, .slice none 0 0, .slice none 0 0, .int .i64 0] := m2.blk (by (repeat' (first | exact Blk.new _ _ _ | with_reducible refine Blk.alloc ?_ _ | with_reducible refine Blk.drewN ?_ _ | with_reducible refine Blk.other ?_ ?_ _)) <;> (first | (simp; omega) | simp | omega)) (by omega)
    have HB := hide hB
    clear hB
    clear m2 q2 sg b2
    simp only [TV]
    have F10 := fun w => field_text (tx (Syn.hd en st).x) (Syn.hd en st).k (Syn.hd en st).a w
    have F20 := fun w => field_place (tx (Syn.hd en st).x) (Syn.hd en st).k (Syn.hd en st).a w
    go_wp2_with fail
    refine (step_isname (fun b => b = w.heap.size) (wk := w1) ?_ HQ1.out (fun b hb => by have hb : b = w.heap.size := hb; omega)).mono ?_
    · (repeat' (first | with_reducible exact Sat.Mv.refl _ _ | with_reducible refine Sat.Mv.alloc ?_ _ | with_reducible refine Sat.Mv.drew ?_ | with_reducible refine Sat.Mv.drewN ?_ _ | with_reducible refine Sat.Mv.set ?_ ?_ _)) <;> (first | exact Or.inl (Or.inl rfl) | exact Or.inl (Or.inr rfl) | exact Or.inl rfl | (refine Or.inr ?_; (try simp); omega) | (refine Or.inl ?_; (try simp); omega))
    rintro e w2 ⟨⟨he, b2⟩, sg⟩
    rw [decide_eq_false Hx1.out] at he
    subst he
    have m2 : MvR g _ w2 := Sat.Mv.below b2
    have q2 : Q w2 g lo en dp st := (HQ1.out.mv sg (fun b hb => by have hb : b = w.heap.size := hb; omega)).below b2
    have z1 := m2.size
    try simp at z1
    have HS1 := hide (seg sg m2)
    have HQ2 := hide q2
    have hB : Blk 49 w2 (w.heap.size) #[.string ByteArray.empty, .string ByteArray.empty, .slice none 0 0, .slice none 0 0, .int .i64 0] := m2.blk (by (repeat' (first | with_reducible exact HB.out | with_reducible refine Blk.alloc ?_ _ | with_reducible refine Blk.drewN ?_ _ | with_reducible refine Blk.other ?_ ?_ _ | exact HB.out)) <;> (first | (simp; omega) | simp | omega)) (by omega)
    clear HB
    have HB := hide hB
    clear hB
    have hL : Blk 43 w2 (w1.heap.size) #[.int .i64 ((Syn.hd en st).k : Nat), .string (tx (Syn.hd en st).x), .int .i64 ((Syn.hd en st).a : Nat)] := m2.blk (by (repeat' (first | exact Blk.new _ _ _ | with_reducible refine Blk.alloc ?_ _ | with_reducible refine Blk.drewN ?_ _ | with_reducible refine Blk.other ?_ ?_ _)) <;> (first | (simp; omega) | simp | omega)) (by omega)
    have HL0 := hide hL
    clear hL
    obtain ⟨l0_0, l0_1, l0_2, f0_0, f0_1, f0_2⟩ := bk3 HL0.out
    clear m2 q2 sg b2
    go_wp2_with fail
    refine (step_q (fun b => b = w.heap.size) (wk := w2) ?_ HQ2.out (fun b hb => by have hb : b = w.heap.size := hb; omega) (fun wz qz => take_q wz g lo en dp st qz (by exact hd_ne (by decide) Hy2.out))).mono ?_
    · (repeat' (first | with_reducible exact Sat.Mv.refl _ _ | with_reducible refine Sat.Mv.alloc ?_ _ | with_reducible refine Sat.Mv.drew ?_ | with_reducible refine Sat.Mv.drewN ?_ _ | with_reducible refine Sat.Mv.set ?_ ?_ _)) <;> (first | exact Or.inl (Or.inl rfl) | exact Or.inl (Or.inr rfl) | exact Or.inl rfl | (refine Or.inr ?_; (try simp); omega) | (refine Or.inl ?_; (try simp); omega))
    rintro e w3 ⟨⟨rfl, q2, m2⟩, sg⟩
    have z2 := m2.size
    try simp at z2
    have HS2 := hide (seg sg m2)
    have HQ3 := hide q2
    have hB : Blk 49 w3 (w.heap.size) #[.string ByteArray.empty, .string ByteArray.empty, .slice none 0 0, .slice none 0 0, .int .i64 0] := m2.blk (by (repeat' (first | with_reducible exact HB.out | with_reducible refine Blk.alloc ?_ _ | with_reducible refine Blk.drewN ?_ _ | with_reducible refine Blk.other ?_ ?_ _ | exact HB.out)) <;> (first | (simp; omega) | simp | omega)) (by omega)
    clear HB
    have HB := hide hB
    clear hB
    have hL : Blk 43 w3 (w1.heap.size) #[.int .i64 ((Syn.hd en st).k : Nat), .string (tx (Syn.hd en st).x), .int .i64 ((Syn.hd en st).a : Nat)] := m2.blk (by (repeat' (first | with_reducible exact HL0.out | with_reducible refine Blk.alloc ?_ _ | with_reducible refine Blk.drewN ?_ _ | with_reducible refine Blk.other ?_ ?_ _ | exact HL0.out)) <;> (first | (simp; omega) | simp | omega)) (by omega)
    clear HL0 l0_0 l0_1 l0_2 f0_0 f0_1 f0_2
    have HL0 := hide hL
    clear hL
    obtain ⟨l0_0, l0_1, l0_2, f0_0, f0_1, f0_2⟩ := bk3 HL0.out
    clear m2 q2 sg
    simp only [TV]
    have F12 := fun w => field_text (tx (Syn.hd en st).x) (Syn.hd en st).k (Syn.hd en st).a w
    have F22 := fun w => field_place (tx (Syn.hd en st).x) (Syn.hd en st).k (Syn.hd en st).a w
    go_wp2_with ((show wpList _ _ _ _ _ _); refine store_blk rfl 49 (.tmp 2) (.tmp 29) rfl (w.heap.size) _ rfl rfl 49 #[.string ByteArray.empty, .string ByteArray.empty, .slice none 0 0, .slice none 0 0, .int .i64 0] (by (repeat' (first | with_reducible exact HB.out | with_reducible refine Blk.alloc ?_ _ | with_reducible refine Blk.drewN ?_ _ | with_reducible refine Blk.other ?_ ?_ _ | exact HB.out)) <;> (first | (simp; omega) | simp | omega)) (by kernel_rfl) rfl rfl ?_; intro wf b2 m2; have HE := hide (show Sat.Mv (fun b => b = w.heap.size) w3 wf from mvt (by (repeat' (first | with_reducible exact Sat.Mv.refl _ _ | with_reducible refine Sat.Mv.alloc ?_ _ | with_reducible refine Sat.Mv.drew ?_ | with_reducible refine Sat.Mv.drewN ?_ _ | with_reducible refine Sat.Mv.set ?_ ?_ _)) <;> (first | exact Or.inl (Or.inl rfl) | exact Or.inl (Or.inr rfl) | exact Or.inl rfl | (refine Or.inr ?_; (try simp); omega) | (refine Or.inl ?_; (try simp); omega))) (Mv.wide m2 (fun b hb => hb))); have HM := hide m2; obtain ⟨c0, c1, c2, c3, c4, k0, k1, k2, k3, k4⟩ := bk5 b2; clear m2 b2)
    refine bodyPost_ret (v := .agg #[.string (tx (Syn.hd en st).x), .string { data := #[] }, .slice none 0 0, .slice none 0 0, .int .i64 ((Syn.hd en st).a : Nat)]) (by simp [results, Tryz.results192, go_sem, c0, c1, c2, c3, c4]) rfl ?_
    rw [HRR.out]
    exact ans_fin (fun b => b = w.heap.size) HE.out (mvt (mvt HS0.out HS1.out) HS2.out) (fun b hb => by have hb : b = g ∨ b = w.heap.size := hb; omega) HQ3.out (fun b hb => by have hb : b = w.heap.size := hb; omega) ⟨_, _, _, _, _, _, _, rfl, rfl, X.nil _ _ _, X.nil _ _ _⟩
  by_cases y3 : (Syn.hd en st).x = ([110, 117, 108, 108] : List UInt8)
  case pos =>
    have yo : (Syn.hd en st).x = ([116, 114, 117, 101] : List UInt8) ∨ (Syn.hd en st).x = ([102, 97, 108, 115, 101] : List UInt8) ∨ (Syn.hd en st).x = ([110, 117, 108, 108] : List UInt8) ∨ (Syn.hd en st).x = ([116, 104, 105, 115] : List UInt8) := by rw [y3]; decide
    rw [if_pos yo] at hRR
    clear yo
    have hI0 : ¬ (((Syn.hd en st).k : Nat) : Int) = 2 := by omega
    have Hy0 := hide y0
    clear y0
    have hI1 : ((tx (Syn.hd en st).x).toList == ([116, 114, 117, 101] : List UInt8)) = false := by rw [Lex.eqT, Lex.bs_tx]; exact decide_eq_false y1
    have Hy1 := hide y1
    clear y1
    have hI2 : ((tx (Syn.hd en st).x).toList == ([102, 97, 108, 115, 101] : List UInt8)) = false := by rw [Lex.eqT, Lex.bs_tx]; exact decide_eq_false y2
    have Hy2 := hide y2
    clear y2
    have hI3 : ((tx (Syn.hd en st).x).toList == ([110, 117, 108, 108] : List UInt8)) = true := by rw [Lex.eqT, Lex.bs_tx]; exact decide_eq_true y3
    have Hy3 := hide y3
    clear y3
    have Hx1 := hide x1
    clear x1
    have HRR := hide hRR
    clear hRR
    go_enter Tryz.func192, Tryz.ntmps192
    go_wp2_with fail
    refine (step_q (fun b => b = w.heap.size) (wk := w) ?_ HQ0.out (fun b hb => by have hb : b = w.heap.size := hb; omega) (fun wz qz => next_q wz g lo en dp st qz)).mono ?_
    · (repeat' (first | with_reducible exact Sat.Mv.refl _ _ | with_reducible refine Sat.Mv.alloc ?_ _ | with_reducible refine Sat.Mv.drew ?_ | with_reducible refine Sat.Mv.drewN ?_ _ | with_reducible refine Sat.Mv.set ?_ ?_ _)) <;> (first | exact Or.inl (Or.inl rfl) | exact Or.inl (Or.inr rfl) | exact Or.inl rfl | (refine Or.inr ?_; (try simp); omega) | (refine Or.inl ?_; (try simp); omega))
    rintro e w1 ⟨⟨rfl, b2⟩, sg⟩
    have m2 : MvR g _ w1 := Sat.Mv.below b2
    have q2 : Q w1 g lo en dp st := (HQ0.out.mv sg (fun b hb => by have hb : b = w.heap.size := hb; omega)).below b2
    have z0 := m2.size
    try simp at z0
    have HS0 := hide (seg sg m2)
    have HQ1 := hide q2
    have hB : Blk 49 w1 (w.heap.size) #[.string ByteArray.empty, .string ByteArray.empty, .slice none 0 0, .slice none 0 0, .int .i64 0] := m2.blk (by (repeat' (first | exact Blk.new _ _ _ | with_reducible refine Blk.alloc ?_ _ | with_reducible refine Blk.drewN ?_ _ | with_reducible refine Blk.other ?_ ?_ _)) <;> (first | (simp; omega) | simp | omega)) (by omega)
    have HB := hide hB
    clear hB
    clear m2 q2 sg b2
    simp only [TV]
    have F10 := fun w => field_text (tx (Syn.hd en st).x) (Syn.hd en st).k (Syn.hd en st).a w
    have F20 := fun w => field_place (tx (Syn.hd en st).x) (Syn.hd en st).k (Syn.hd en st).a w
    go_wp2_with fail
    refine (step_isname (fun b => b = w.heap.size) (wk := w1) ?_ HQ1.out (fun b hb => by have hb : b = w.heap.size := hb; omega)).mono ?_
    · (repeat' (first | with_reducible exact Sat.Mv.refl _ _ | with_reducible refine Sat.Mv.alloc ?_ _ | with_reducible refine Sat.Mv.drew ?_ | with_reducible refine Sat.Mv.drewN ?_ _ | with_reducible refine Sat.Mv.set ?_ ?_ _)) <;> (first | exact Or.inl (Or.inl rfl) | exact Or.inl (Or.inr rfl) | exact Or.inl rfl | (refine Or.inr ?_; (try simp); omega) | (refine Or.inl ?_; (try simp); omega))
    rintro e w2 ⟨⟨he, b2⟩, sg⟩
    rw [decide_eq_false Hx1.out] at he
    subst he
    have m2 : MvR g _ w2 := Sat.Mv.below b2
    have q2 : Q w2 g lo en dp st := (HQ1.out.mv sg (fun b hb => by have hb : b = w.heap.size := hb; omega)).below b2
    have z1 := m2.size
    try simp at z1
    have HS1 := hide (seg sg m2)
    have HQ2 := hide q2
    have hB : Blk 49 w2 (w.heap.size) #[.string ByteArray.empty, .string ByteArray.empty, .slice none 0 0, .slice none 0 0, .int .i64 0] := m2.blk (by (repeat' (first | with_reducible exact HB.out | with_reducible refine Blk.alloc ?_ _ | with_reducible refine Blk.drewN ?_ _ | with_reducible refine Blk.other ?_ ?_ _ | exact HB.out)) <;> (first | (simp; omega) | simp | omega)) (by omega)
    clear HB
    have HB := hide hB
    clear hB
    have hL : Blk 43 w2 (w1.heap.size) #[.int .i64 ((Syn.hd en st).k : Nat), .string (tx (Syn.hd en st).x), .int .i64 ((Syn.hd en st).a : Nat)] := m2.blk (by (repeat' (first | exact Blk.new _ _ _ | with_reducible refine Blk.alloc ?_ _ | with_reducible refine Blk.drewN ?_ _ | with_reducible refine Blk.other ?_ ?_ _)) <;> (first | (simp; omega) | simp | omega)) (by omega)
    have HL0 := hide hL
    clear hL
    obtain ⟨l0_0, l0_1, l0_2, f0_0, f0_1, f0_2⟩ := bk3 HL0.out
    clear m2 q2 sg b2
    go_wp2_with fail
    refine (step_q (fun b => b = w.heap.size) (wk := w2) ?_ HQ2.out (fun b hb => by have hb : b = w.heap.size := hb; omega) (fun wz qz => take_q wz g lo en dp st qz (by exact hd_ne (by decide) Hy3.out))).mono ?_
    · (repeat' (first | with_reducible exact Sat.Mv.refl _ _ | with_reducible refine Sat.Mv.alloc ?_ _ | with_reducible refine Sat.Mv.drew ?_ | with_reducible refine Sat.Mv.drewN ?_ _ | with_reducible refine Sat.Mv.set ?_ ?_ _)) <;> (first | exact Or.inl (Or.inl rfl) | exact Or.inl (Or.inr rfl) | exact Or.inl rfl | (refine Or.inr ?_; (try simp); omega) | (refine Or.inl ?_; (try simp); omega))
    rintro e w3 ⟨⟨rfl, q2, m2⟩, sg⟩
    have z2 := m2.size
    try simp at z2
    have HS2 := hide (seg sg m2)
    have HQ3 := hide q2
    have hB : Blk 49 w3 (w.heap.size) #[.string ByteArray.empty, .string ByteArray.empty, .slice none 0 0, .slice none 0 0, .int .i64 0] := m2.blk (by (repeat' (first | with_reducible exact HB.out | with_reducible refine Blk.alloc ?_ _ | with_reducible refine Blk.drewN ?_ _ | with_reducible refine Blk.other ?_ ?_ _ | exact HB.out)) <;> (first | (simp; omega) | simp | omega)) (by omega)
    clear HB
    have HB := hide hB
    clear hB
    have hL : Blk 43 w3 (w1.heap.size) #[.int .i64 ((Syn.hd en st).k : Nat), .string (tx (Syn.hd en st).x), .int .i64 ((Syn.hd en st).a : Nat)] := m2.blk (by (repeat' (first | with_reducible exact HL0.out | with_reducible refine Blk.alloc ?_ _ | with_reducible refine Blk.drewN ?_ _ | with_reducible refine Blk.other ?_ ?_ _ | exact HL0.out)) <;> (first | (simp; omega) | simp | omega)) (by omega)
    clear HL0 l0_0 l0_1 l0_2 f0_0 f0_1 f0_2
    have HL0 := hide hL
    clear hL
    obtain ⟨l0_0, l0_1, l0_2, f0_0, f0_1, f0_2⟩ := bk3 HL0.out
    clear m2 q2 sg
    simp only [TV]
    have F12 := fun w => field_text (tx (Syn.hd en st).x) (Syn.hd en st).k (Syn.hd en st).a w
    have F22 := fun w => field_place (tx (Syn.hd en st).x) (Syn.hd en st).k (Syn.hd en st).a w
    go_wp2_with ((show wpList _ _ _ _ _ _); refine store_blk rfl 49 (.tmp 2) (.tmp 29) rfl (w.heap.size) _ rfl rfl 49 #[.string ByteArray.empty, .string ByteArray.empty, .slice none 0 0, .slice none 0 0, .int .i64 0] (by (repeat' (first | with_reducible exact HB.out | with_reducible refine Blk.alloc ?_ _ | with_reducible refine Blk.drewN ?_ _ | with_reducible refine Blk.other ?_ ?_ _ | exact HB.out)) <;> (first | (simp; omega) | simp | omega)) (by kernel_rfl) rfl rfl ?_; intro wf b2 m2; have HE := hide (show Sat.Mv (fun b => b = w.heap.size) w3 wf from mvt (by (repeat' (first | with_reducible exact Sat.Mv.refl _ _ | with_reducible refine Sat.Mv.alloc ?_ _ | with_reducible refine Sat.Mv.drew ?_ | with_reducible refine Sat.Mv.drewN ?_ _ | with_reducible refine Sat.Mv.set ?_ ?_ _)) <;> (first | exact Or.inl (Or.inl rfl) | exact Or.inl (Or.inr rfl) | exact Or.inl rfl | (refine Or.inr ?_; (try simp); omega) | (refine Or.inl ?_; (try simp); omega))) (Mv.wide m2 (fun b hb => hb))); have HM := hide m2; obtain ⟨c0, c1, c2, c3, c4, k0, k1, k2, k3, k4⟩ := bk5 b2; clear m2 b2)
    refine bodyPost_ret (v := .agg #[.string (tx (Syn.hd en st).x), .string { data := #[] }, .slice none 0 0, .slice none 0 0, .int .i64 ((Syn.hd en st).a : Nat)]) (by simp [results, Tryz.results192, go_sem, c0, c1, c2, c3, c4]) rfl ?_
    rw [HRR.out]
    exact ans_fin (fun b => b = w.heap.size) HE.out (mvt (mvt HS0.out HS1.out) HS2.out) (fun b hb => by have hb : b = g ∨ b = w.heap.size := hb; omega) HQ3.out (fun b hb => by have hb : b = w.heap.size := hb; omega) ⟨_, _, _, _, _, _, _, rfl, rfl, X.nil _ _ _, X.nil _ _ _⟩
  by_cases y4 : (Syn.hd en st).x = ([116, 104, 105, 115] : List UInt8)
  case pos =>
    have yo : (Syn.hd en st).x = ([116, 114, 117, 101] : List UInt8) ∨ (Syn.hd en st).x = ([102, 97, 108, 115, 101] : List UInt8) ∨ (Syn.hd en st).x = ([110, 117, 108, 108] : List UInt8) ∨ (Syn.hd en st).x = ([116, 104, 105, 115] : List UInt8) := by rw [y4]; decide
    rw [if_pos yo] at hRR
    clear yo
    have hI0 : ¬ (((Syn.hd en st).k : Nat) : Int) = 2 := by omega
    have Hy0 := hide y0
    clear y0
    have hI1 : ((tx (Syn.hd en st).x).toList == ([116, 114, 117, 101] : List UInt8)) = false := by rw [Lex.eqT, Lex.bs_tx]; exact decide_eq_false y1
    have Hy1 := hide y1
    clear y1
    have hI2 : ((tx (Syn.hd en st).x).toList == ([102, 97, 108, 115, 101] : List UInt8)) = false := by rw [Lex.eqT, Lex.bs_tx]; exact decide_eq_false y2
    have Hy2 := hide y2
    clear y2
    have hI3 : ((tx (Syn.hd en st).x).toList == ([110, 117, 108, 108] : List UInt8)) = false := by rw [Lex.eqT, Lex.bs_tx]; exact decide_eq_false y3
    have Hy3 := hide y3
    clear y3
    have hI4 : ((tx (Syn.hd en st).x).toList == ([116, 104, 105, 115] : List UInt8)) = true := by rw [Lex.eqT, Lex.bs_tx]; exact decide_eq_true y4
    have Hy4 := hide y4
    clear y4
    have Hx1 := hide x1
    clear x1
    have HRR := hide hRR
    clear hRR
    go_enter Tryz.func192, Tryz.ntmps192
    go_wp2_with fail
    refine (step_q (fun b => b = w.heap.size) (wk := w) ?_ HQ0.out (fun b hb => by have hb : b = w.heap.size := hb; omega) (fun wz qz => next_q wz g lo en dp st qz)).mono ?_
    · (repeat' (first | with_reducible exact Sat.Mv.refl _ _ | with_reducible refine Sat.Mv.alloc ?_ _ | with_reducible refine Sat.Mv.drew ?_ | with_reducible refine Sat.Mv.drewN ?_ _ | with_reducible refine Sat.Mv.set ?_ ?_ _)) <;> (first | exact Or.inl (Or.inl rfl) | exact Or.inl (Or.inr rfl) | exact Or.inl rfl | (refine Or.inr ?_; (try simp); omega) | (refine Or.inl ?_; (try simp); omega))
    rintro e w1 ⟨⟨rfl, b2⟩, sg⟩
    have m2 : MvR g _ w1 := Sat.Mv.below b2
    have q2 : Q w1 g lo en dp st := (HQ0.out.mv sg (fun b hb => by have hb : b = w.heap.size := hb; omega)).below b2
    have z0 := m2.size
    try simp at z0
    have HS0 := hide (seg sg m2)
    have HQ1 := hide q2
    have hB : Blk 49 w1 (w.heap.size) #[.string ByteArray.empty, .string ByteArray.empty, .slice none 0 0, .slice none 0 0, .int .i64 0] := m2.blk (by (repeat' (first | exact Blk.new _ _ _ | with_reducible refine Blk.alloc ?_ _ | with_reducible refine Blk.drewN ?_ _ | with_reducible refine Blk.other ?_ ?_ _)) <;> (first | (simp; omega) | simp | omega)) (by omega)
    have HB := hide hB
    clear hB
    clear m2 q2 sg b2
    simp only [TV]
    have F10 := fun w => field_text (tx (Syn.hd en st).x) (Syn.hd en st).k (Syn.hd en st).a w
    have F20 := fun w => field_place (tx (Syn.hd en st).x) (Syn.hd en st).k (Syn.hd en st).a w
    go_wp2_with fail
    refine (step_isname (fun b => b = w.heap.size) (wk := w1) ?_ HQ1.out (fun b hb => by have hb : b = w.heap.size := hb; omega)).mono ?_
    · (repeat' (first | with_reducible exact Sat.Mv.refl _ _ | with_reducible refine Sat.Mv.alloc ?_ _ | with_reducible refine Sat.Mv.drew ?_ | with_reducible refine Sat.Mv.drewN ?_ _ | with_reducible refine Sat.Mv.set ?_ ?_ _)) <;> (first | exact Or.inl (Or.inl rfl) | exact Or.inl (Or.inr rfl) | exact Or.inl rfl | (refine Or.inr ?_; (try simp); omega) | (refine Or.inl ?_; (try simp); omega))
    rintro e w2 ⟨⟨he, b2⟩, sg⟩
    rw [decide_eq_false Hx1.out] at he
    subst he
    have m2 : MvR g _ w2 := Sat.Mv.below b2
    have q2 : Q w2 g lo en dp st := (HQ1.out.mv sg (fun b hb => by have hb : b = w.heap.size := hb; omega)).below b2
    have z1 := m2.size
    try simp at z1
    have HS1 := hide (seg sg m2)
    have HQ2 := hide q2
    have hB : Blk 49 w2 (w.heap.size) #[.string ByteArray.empty, .string ByteArray.empty, .slice none 0 0, .slice none 0 0, .int .i64 0] := m2.blk (by (repeat' (first | with_reducible exact HB.out | with_reducible refine Blk.alloc ?_ _ | with_reducible refine Blk.drewN ?_ _ | with_reducible refine Blk.other ?_ ?_ _ | exact HB.out)) <;> (first | (simp; omega) | simp | omega)) (by omega)
    clear HB
    have HB := hide hB
    clear hB
    have hL : Blk 43 w2 (w1.heap.size) #[.int .i64 ((Syn.hd en st).k : Nat), .string (tx (Syn.hd en st).x), .int .i64 ((Syn.hd en st).a : Nat)] := m2.blk (by (repeat' (first | exact Blk.new _ _ _ | with_reducible refine Blk.alloc ?_ _ | with_reducible refine Blk.drewN ?_ _ | with_reducible refine Blk.other ?_ ?_ _)) <;> (first | (simp; omega) | simp | omega)) (by omega)
    have HL0 := hide hL
    clear hL
    obtain ⟨l0_0, l0_1, l0_2, f0_0, f0_1, f0_2⟩ := bk3 HL0.out
    clear m2 q2 sg b2
    go_wp2_with fail
    refine (step_q (fun b => b = w.heap.size) (wk := w2) ?_ HQ2.out (fun b hb => by have hb : b = w.heap.size := hb; omega) (fun wz qz => take_q wz g lo en dp st qz (by exact hd_ne (by decide) Hy4.out))).mono ?_
    · (repeat' (first | with_reducible exact Sat.Mv.refl _ _ | with_reducible refine Sat.Mv.alloc ?_ _ | with_reducible refine Sat.Mv.drew ?_ | with_reducible refine Sat.Mv.drewN ?_ _ | with_reducible refine Sat.Mv.set ?_ ?_ _)) <;> (first | exact Or.inl (Or.inl rfl) | exact Or.inl (Or.inr rfl) | exact Or.inl rfl | (refine Or.inr ?_; (try simp); omega) | (refine Or.inl ?_; (try simp); omega))
    rintro e w3 ⟨⟨rfl, q2, m2⟩, sg⟩
    have z2 := m2.size
    try simp at z2
    have HS2 := hide (seg sg m2)
    have HQ3 := hide q2
    have hB : Blk 49 w3 (w.heap.size) #[.string ByteArray.empty, .string ByteArray.empty, .slice none 0 0, .slice none 0 0, .int .i64 0] := m2.blk (by (repeat' (first | with_reducible exact HB.out | with_reducible refine Blk.alloc ?_ _ | with_reducible refine Blk.drewN ?_ _ | with_reducible refine Blk.other ?_ ?_ _ | exact HB.out)) <;> (first | (simp; omega) | simp | omega)) (by omega)
    clear HB
    have HB := hide hB
    clear hB
    have hL : Blk 43 w3 (w1.heap.size) #[.int .i64 ((Syn.hd en st).k : Nat), .string (tx (Syn.hd en st).x), .int .i64 ((Syn.hd en st).a : Nat)] := m2.blk (by (repeat' (first | with_reducible exact HL0.out | with_reducible refine Blk.alloc ?_ _ | with_reducible refine Blk.drewN ?_ _ | with_reducible refine Blk.other ?_ ?_ _ | exact HL0.out)) <;> (first | (simp; omega) | simp | omega)) (by omega)
    clear HL0 l0_0 l0_1 l0_2 f0_0 f0_1 f0_2
    have HL0 := hide hL
    clear hL
    obtain ⟨l0_0, l0_1, l0_2, f0_0, f0_1, f0_2⟩ := bk3 HL0.out
    clear m2 q2 sg
    simp only [TV]
    have F12 := fun w => field_text (tx (Syn.hd en st).x) (Syn.hd en st).k (Syn.hd en st).a w
    have F22 := fun w => field_place (tx (Syn.hd en st).x) (Syn.hd en st).k (Syn.hd en st).a w
    go_wp2_with ((show wpList _ _ _ _ _ _); refine store_blk rfl 49 (.tmp 2) (.tmp 29) rfl (w.heap.size) _ rfl rfl 49 #[.string ByteArray.empty, .string ByteArray.empty, .slice none 0 0, .slice none 0 0, .int .i64 0] (by (repeat' (first | with_reducible exact HB.out | with_reducible refine Blk.alloc ?_ _ | with_reducible refine Blk.drewN ?_ _ | with_reducible refine Blk.other ?_ ?_ _ | exact HB.out)) <;> (first | (simp; omega) | simp | omega)) (by kernel_rfl) rfl rfl ?_; intro wf b2 m2; have HE := hide (show Sat.Mv (fun b => b = w.heap.size) w3 wf from mvt (by (repeat' (first | with_reducible exact Sat.Mv.refl _ _ | with_reducible refine Sat.Mv.alloc ?_ _ | with_reducible refine Sat.Mv.drew ?_ | with_reducible refine Sat.Mv.drewN ?_ _ | with_reducible refine Sat.Mv.set ?_ ?_ _)) <;> (first | exact Or.inl (Or.inl rfl) | exact Or.inl (Or.inr rfl) | exact Or.inl rfl | (refine Or.inr ?_; (try simp); omega) | (refine Or.inl ?_; (try simp); omega))) (Mv.wide m2 (fun b hb => hb))); have HM := hide m2; obtain ⟨c0, c1, c2, c3, c4, k0, k1, k2, k3, k4⟩ := bk5 b2; clear m2 b2)
    refine bodyPost_ret (v := .agg #[.string (tx (Syn.hd en st).x), .string { data := #[] }, .slice none 0 0, .slice none 0 0, .int .i64 ((Syn.hd en st).a : Nat)]) (by simp [results, Tryz.results192, go_sem, c0, c1, c2, c3, c4]) rfl ?_
    rw [HRR.out]
    exact ans_fin (fun b => b = w.heap.size) HE.out (mvt (mvt HS0.out HS1.out) HS2.out) (fun b hb => by have hb : b = g ∨ b = w.heap.size := hb; omega) HQ3.out (fun b hb => by have hb : b = w.heap.size := hb; omega) ⟨_, _, _, _, _, _, _, rfl, rfl, X.nil _ _ _, X.nil _ _ _⟩
  have yo : ¬ ((Syn.hd en st).x = ([116, 114, 117, 101] : List UInt8) ∨ (Syn.hd en st).x = ([102, 97, 108, 115, 101] : List UInt8) ∨ (Syn.hd en st).x = ([110, 117, 108, 108] : List UInt8) ∨ (Syn.hd en st).x = ([116, 104, 105, 115] : List UInt8)) := (fun h => h.elim y1 (fun h => h.elim y2 (fun h => h.elim y3 y4)))
  rw [if_neg yo] at hRR
  clear yo
  by_cases y5 : (Syn.hd en st).x = ([110, 101, 119] : List UInt8)
  case pos =>
    rw [if_pos y5] at hRR
    have HC2 : Hid (∀ w1, Q w1 g lo en dp st → P en N .object dp st ≠ .out → Calls Tryz.prog 196 #[.pointer (some ⟨g, 0, none⟩)] w1 fun e w' => Ans ShE w1 g lo en dp e w' (P en N .object dp st)) := fun w1 q1 hn => hobject w1 dp st q1 (by exact hd_ne (by decide) y5) hn
    generalize P en N .object dp st = E2 at hRR HC2
    cases E2 with
    | out => exact absurd hRR hne
    | bad cc a =>
      have hI0 : ¬ (((Syn.hd en st).k : Nat) : Int) = 2 := by omega
      have Hy0 := hide y0
      clear y0
      have hI1 : ((tx (Syn.hd en st).x).toList == ([116, 114, 117, 101] : List UInt8)) = false := by rw [Lex.eqT, Lex.bs_tx]; exact decide_eq_false y1
      have Hy1 := hide y1
      clear y1
      have hI2 : ((tx (Syn.hd en st).x).toList == ([102, 97, 108, 115, 101] : List UInt8)) = false := by rw [Lex.eqT, Lex.bs_tx]; exact decide_eq_false y2
      have Hy2 := hide y2
      clear y2
      have hI3 : ((tx (Syn.hd en st).x).toList == ([110, 117, 108, 108] : List UInt8)) = false := by rw [Lex.eqT, Lex.bs_tx]; exact decide_eq_false y3
      have Hy3 := hide y3
      clear y3
      have hI4 : ((tx (Syn.hd en st).x).toList == ([116, 104, 105, 115] : List UInt8)) = false := by rw [Lex.eqT, Lex.bs_tx]; exact decide_eq_false y4
      have Hy4 := hide y4
      clear y4
      have hI5 : ((tx (Syn.hd en st).x).toList == ([110, 101, 119] : List UInt8)) = true := by rw [Lex.eqT, Lex.bs_tx]; exact decide_eq_true y5
      have Hy5 := hide y5
      clear y5
      have Hx1 := hide x1
      clear x1
      have HRR := hide hRR
      clear hRR
      go_enter Tryz.func192, Tryz.ntmps192
      go_wp2_with fail
      refine (step_q (fun b => b = w.heap.size) (wk := w) ?_ HQ0.out (fun b hb => by have hb : b = w.heap.size := hb; omega) (fun wz qz => next_q wz g lo en dp st qz)).mono ?_
      · (repeat' (first | with_reducible exact Sat.Mv.refl _ _ | with_reducible refine Sat.Mv.alloc ?_ _ | with_reducible refine Sat.Mv.drew ?_ | with_reducible refine Sat.Mv.drewN ?_ _ | with_reducible refine Sat.Mv.set ?_ ?_ _)) <;> (first | exact Or.inl (Or.inl rfl) | exact Or.inl (Or.inr rfl) | exact Or.inl rfl | (refine Or.inr ?_; (try simp); omega) | (refine Or.inl ?_; (try simp); omega))
      rintro e w1 ⟨⟨rfl, b2⟩, sg⟩
      have m2 : MvR g _ w1 := Sat.Mv.below b2
      have q2 : Q w1 g lo en dp st := (HQ0.out.mv sg (fun b hb => by have hb : b = w.heap.size := hb; omega)).below b2
      have z0 := m2.size
      try simp at z0
      have HS0 := hide (seg sg m2)
      have HQ1 := hide q2
      have hB : Blk 49 w1 (w.heap.size) #[.string ByteArray.empty, .string ByteArray.empty, .slice none 0 0, .slice none 0 0, .int .i64 0] := m2.blk (by (repeat' (first | exact Blk.new _ _ _ | with_reducible refine Blk.alloc ?_ _ | with_reducible refine Blk.drewN ?_ _ | with_reducible refine Blk.other ?_ ?_ _)) <;> (first | (simp; omega) | simp | omega)) (by omega)
      have HB := hide hB
      clear hB
      clear m2 q2 sg b2
      simp only [TV]
      have F10 := fun w => field_text (tx (Syn.hd en st).x) (Syn.hd en st).k (Syn.hd en st).a w
      have F20 := fun w => field_place (tx (Syn.hd en st).x) (Syn.hd en st).k (Syn.hd en st).a w
      go_wp2_with fail
      refine (step_isname (fun b => b = w.heap.size) (wk := w1) ?_ HQ1.out (fun b hb => by have hb : b = w.heap.size := hb; omega)).mono ?_
      · (repeat' (first | with_reducible exact Sat.Mv.refl _ _ | with_reducible refine Sat.Mv.alloc ?_ _ | with_reducible refine Sat.Mv.drew ?_ | with_reducible refine Sat.Mv.drewN ?_ _ | with_reducible refine Sat.Mv.set ?_ ?_ _)) <;> (first | exact Or.inl (Or.inl rfl) | exact Or.inl (Or.inr rfl) | exact Or.inl rfl | (refine Or.inr ?_; (try simp); omega) | (refine Or.inl ?_; (try simp); omega))
      rintro e w2 ⟨⟨he, b2⟩, sg⟩
      rw [decide_eq_false Hx1.out] at he
      subst he
      have m2 : MvR g _ w2 := Sat.Mv.below b2
      have q2 : Q w2 g lo en dp st := (HQ1.out.mv sg (fun b hb => by have hb : b = w.heap.size := hb; omega)).below b2
      have z1 := m2.size
      try simp at z1
      have HS1 := hide (seg sg m2)
      have HQ2 := hide q2
      have hB : Blk 49 w2 (w.heap.size) #[.string ByteArray.empty, .string ByteArray.empty, .slice none 0 0, .slice none 0 0, .int .i64 0] := m2.blk (by (repeat' (first | with_reducible exact HB.out | with_reducible refine Blk.alloc ?_ _ | with_reducible refine Blk.drewN ?_ _ | with_reducible refine Blk.other ?_ ?_ _ | exact HB.out)) <;> (first | (simp; omega) | simp | omega)) (by omega)
      clear HB
      have HB := hide hB
      clear hB
      have hL : Blk 43 w2 (w1.heap.size) #[.int .i64 ((Syn.hd en st).k : Nat), .string (tx (Syn.hd en st).x), .int .i64 ((Syn.hd en st).a : Nat)] := m2.blk (by (repeat' (first | exact Blk.new _ _ _ | with_reducible refine Blk.alloc ?_ _ | with_reducible refine Blk.drewN ?_ _ | with_reducible refine Blk.other ?_ ?_ _)) <;> (first | (simp; omega) | simp | omega)) (by omega)
      have HL0 := hide hL
      clear hL
      obtain ⟨l0_0, l0_1, l0_2, f0_0, f0_1, f0_2⟩ := bk3 HL0.out
      clear m2 q2 sg b2
      go_wp2_with fail
      refine (step_q (fun b => b = w.heap.size) (wk := w2) ?_ HQ2.out (fun b hb => by have hb : b = w.heap.size := hb; omega) (fun wz qz => HC2.out wz qz (fun e => by cases e))).mono ?_
      · (repeat' (first | with_reducible exact Sat.Mv.refl _ _ | with_reducible refine Sat.Mv.alloc ?_ _ | with_reducible refine Sat.Mv.drew ?_ | with_reducible refine Sat.Mv.drewN ?_ _ | with_reducible refine Sat.Mv.set ?_ ?_ _)) <;> (first | exact Or.inl (Or.inl rfl) | exact Or.inl (Or.inr rfl) | exact Or.inl rfl | (refine Or.inr ?_; (try simp); omega) | (refine Or.inl ?_; (try simp); omega))
      rintro e w3 ⟨⟨m2, rfl⟩, sg⟩
      go_wp2
      refine ⟨rfl, ?_⟩
      rw [HRR.out]
      refine ⟨Mv.out (mvt (mvt HS0.out HS1.out) (seg sg m2)) (fun b hb => by have hb : b = g ∨ b = w.heap.size := hb; omega), rfl⟩
    | ok r2 s2 =>
      try simp only [Res.to_ok] at hRR
      have hI0 : ¬ (((Syn.hd en st).k : Nat) : Int) = 2 := by omega
      have Hy0 := hide y0
      clear y0
      have hI1 : ((tx (Syn.hd en st).x).toList == ([116, 114, 117, 101] : List UInt8)) = false := by rw [Lex.eqT, Lex.bs_tx]; exact decide_eq_false y1
      have Hy1 := hide y1
      clear y1
      have hI2 : ((tx (Syn.hd en st).x).toList == ([102, 97, 108, 115, 101] : List UInt8)) = false := by rw [Lex.eqT, Lex.bs_tx]; exact decide_eq_false y2
      have Hy2 := hide y2
      clear y2
      have hI3 : ((tx (Syn.hd en st).x).toList == ([110, 117, 108, 108] : List UInt8)) = false := by rw [Lex.eqT, Lex.bs_tx]; exact decide_eq_false y3
      have Hy3 := hide y3
      clear y3
      have hI4 : ((tx (Syn.hd en st).x).toList == ([116, 104, 105, 115] : List UInt8)) = false := by rw [Lex.eqT, Lex.bs_tx]; exact decide_eq_false y4
      have Hy4 := hide y4
      clear y4
      have hI5 : ((tx (Syn.hd en st).x).toList == ([110, 101, 119] : List UInt8)) = true := by rw [Lex.eqT, Lex.bs_tx]; exact decide_eq_true y5
      have Hy5 := hide y5
      clear y5
      have Hx1 := hide x1
      clear x1
      have HRR := hide hRR
      clear hRR
      go_enter Tryz.func192, Tryz.ntmps192
      go_wp2_with fail
      refine (step_q (fun b => b = w.heap.size) (wk := w) ?_ HQ0.out (fun b hb => by have hb : b = w.heap.size := hb; omega) (fun wz qz => next_q wz g lo en dp st qz)).mono ?_
      · (repeat' (first | with_reducible exact Sat.Mv.refl _ _ | with_reducible refine Sat.Mv.alloc ?_ _ | with_reducible refine Sat.Mv.drew ?_ | with_reducible refine Sat.Mv.drewN ?_ _ | with_reducible refine Sat.Mv.set ?_ ?_ _)) <;> (first | exact Or.inl (Or.inl rfl) | exact Or.inl (Or.inr rfl) | exact Or.inl rfl | (refine Or.inr ?_; (try simp); omega) | (refine Or.inl ?_; (try simp); omega))
      rintro e w1 ⟨⟨rfl, b2⟩, sg⟩
      have m2 : MvR g _ w1 := Sat.Mv.below b2
      have q2 : Q w1 g lo en dp st := (HQ0.out.mv sg (fun b hb => by have hb : b = w.heap.size := hb; omega)).below b2
      have z0 := m2.size
      try simp at z0
      have HS0 := hide (seg sg m2)
      have HQ1 := hide q2
      have hB : Blk 49 w1 (w.heap.size) #[.string ByteArray.empty, .string ByteArray.empty, .slice none 0 0, .slice none 0 0, .int .i64 0] := m2.blk (by (repeat' (first | exact Blk.new _ _ _ | with_reducible refine Blk.alloc ?_ _ | with_reducible refine Blk.drewN ?_ _ | with_reducible refine Blk.other ?_ ?_ _)) <;> (first | (simp; omega) | simp | omega)) (by omega)
      have HB := hide hB
      clear hB
      clear m2 q2 sg b2
      simp only [TV]
      have F10 := fun w => field_text (tx (Syn.hd en st).x) (Syn.hd en st).k (Syn.hd en st).a w
      have F20 := fun w => field_place (tx (Syn.hd en st).x) (Syn.hd en st).k (Syn.hd en st).a w
      go_wp2_with fail
      refine (step_isname (fun b => b = w.heap.size) (wk := w1) ?_ HQ1.out (fun b hb => by have hb : b = w.heap.size := hb; omega)).mono ?_
      · (repeat' (first | with_reducible exact Sat.Mv.refl _ _ | with_reducible refine Sat.Mv.alloc ?_ _ | with_reducible refine Sat.Mv.drew ?_ | with_reducible refine Sat.Mv.drewN ?_ _ | with_reducible refine Sat.Mv.set ?_ ?_ _)) <;> (first | exact Or.inl (Or.inl rfl) | exact Or.inl (Or.inr rfl) | exact Or.inl rfl | (refine Or.inr ?_; (try simp); omega) | (refine Or.inl ?_; (try simp); omega))
      rintro e w2 ⟨⟨he, b2⟩, sg⟩
      rw [decide_eq_false Hx1.out] at he
      subst he
      have m2 : MvR g _ w2 := Sat.Mv.below b2
      have q2 : Q w2 g lo en dp st := (HQ1.out.mv sg (fun b hb => by have hb : b = w.heap.size := hb; omega)).below b2
      have z1 := m2.size
      try simp at z1
      have HS1 := hide (seg sg m2)
      have HQ2 := hide q2
      have hB : Blk 49 w2 (w.heap.size) #[.string ByteArray.empty, .string ByteArray.empty, .slice none 0 0, .slice none 0 0, .int .i64 0] := m2.blk (by (repeat' (first | with_reducible exact HB.out | with_reducible refine Blk.alloc ?_ _ | with_reducible refine Blk.drewN ?_ _ | with_reducible refine Blk.other ?_ ?_ _ | exact HB.out)) <;> (first | (simp; omega) | simp | omega)) (by omega)
      clear HB
      have HB := hide hB
      clear hB
      have hL : Blk 43 w2 (w1.heap.size) #[.int .i64 ((Syn.hd en st).k : Nat), .string (tx (Syn.hd en st).x), .int .i64 ((Syn.hd en st).a : Nat)] := m2.blk (by (repeat' (first | exact Blk.new _ _ _ | with_reducible refine Blk.alloc ?_ _ | with_reducible refine Blk.drewN ?_ _ | with_reducible refine Blk.other ?_ ?_ _)) <;> (first | (simp; omega) | simp | omega)) (by omega)
      have HL0 := hide hL
      clear hL
      obtain ⟨l0_0, l0_1, l0_2, f0_0, f0_1, f0_2⟩ := bk3 HL0.out
      clear m2 q2 sg b2
      go_wp2_with fail
      refine (step_q (fun b => b = w.heap.size) (wk := w2) ?_ HQ2.out (fun b hb => by have hb : b = w.heap.size := hb; omega) (fun wz qz => HC2.out wz qz (fun e => by cases e))).mono ?_
      · (repeat' (first | with_reducible exact Sat.Mv.refl _ _ | with_reducible refine Sat.Mv.alloc ?_ _ | with_reducible refine Sat.Mv.drew ?_ | with_reducible refine Sat.Mv.drewN ?_ _ | with_reducible refine Sat.Mv.set ?_ ?_ _)) <;> (first | exact Or.inl (Or.inl rfl) | exact Or.inl (Or.inr rfl) | exact Or.inl rfl | (refine Or.inr ?_; (try simp); omega) | (refine Or.inl ?_; (try simp); omega))
      rintro e w3 ⟨⟨m2, q2, u, rfl, op2, nm2, args2, tys2, p2, A2, B2, rfl, rfl, xA2, xB2⟩, sg⟩
      obtain ⟨qA2, cA2, rfl⟩ := xA2.slice
      obtain ⟨qB2, cB2, rfl⟩ := xB2.slice
      have z2 := m2.size
      try simp at z2
      have HS2 := hide (seg sg m2)
      have HQ3 := hide q2
      have HX2 := hide (And.intro xA2 xB2)
      clear xA2 xB2
      have hB : Blk 49 w3 (w.heap.size) #[.string ByteArray.empty, .string ByteArray.empty, .slice none 0 0, .slice none 0 0, .int .i64 0] := m2.blk (by (repeat' (first | with_reducible exact HB.out | with_reducible refine Blk.alloc ?_ _ | with_reducible refine Blk.drewN ?_ _ | with_reducible refine Blk.other ?_ ?_ _ | exact HB.out)) <;> (first | (simp; omega) | simp | omega)) (by omega)
      clear HB
      have HB := hide hB
      clear hB
      have hL : Blk 43 w3 (w1.heap.size) #[.int .i64 ((Syn.hd en st).k : Nat), .string (tx (Syn.hd en st).x), .int .i64 ((Syn.hd en st).a : Nat)] := m2.blk (by (repeat' (first | with_reducible exact HL0.out | with_reducible refine Blk.alloc ?_ _ | with_reducible refine Blk.drewN ?_ _ | with_reducible refine Blk.other ?_ ?_ _ | exact HL0.out)) <;> (first | (simp; omega) | simp | omega)) (by omega)
      clear HL0 l0_0 l0_1 l0_2 f0_0 f0_1 f0_2
      have HL0 := hide hL
      clear hL
      obtain ⟨l0_0, l0_1, l0_2, f0_0, f0_1, f0_2⟩ := bk3 HL0.out
      clear m2 q2 sg
      go_wp2_with ((show wpList _ _ _ _ _ _); refine store_blk rfl 49 (.tmp 2) (.tmp 33) rfl (w.heap.size) _ rfl rfl 49 #[.string ByteArray.empty, .string ByteArray.empty, .slice none 0 0, .slice none 0 0, .int .i64 0] (by (repeat' (first | with_reducible exact HB.out | with_reducible refine Blk.alloc ?_ _ | with_reducible refine Blk.drewN ?_ _ | with_reducible refine Blk.other ?_ ?_ _ | exact HB.out)) <;> (first | (simp; omega) | simp | omega)) (by kernel_rfl) rfl rfl ?_; intro wf b2 m2; have HE := hide (show Sat.Mv (fun b => b = w.heap.size) w3 wf from mvt (by (repeat' (first | with_reducible exact Sat.Mv.refl _ _ | with_reducible refine Sat.Mv.alloc ?_ _ | with_reducible refine Sat.Mv.drew ?_ | with_reducible refine Sat.Mv.drewN ?_ _ | with_reducible refine Sat.Mv.set ?_ ?_ _)) <;> (first | exact Or.inl (Or.inl rfl) | exact Or.inl (Or.inr rfl) | exact Or.inl rfl | (refine Or.inr ?_; (try simp); omega) | (refine Or.inl ?_; (try simp); omega))) (Mv.wide m2 (fun b hb => hb))); have HM := hide m2; obtain ⟨c0, c1, c2, c3, c4, k0, k1, k2, k3, k4⟩ := bk5 b2; clear m2 b2)
      refine bodyPost_ret (v := .agg #[.string (tx op2), .string (tx nm2), .slice qA2 args2.length cA2, .slice qB2 tys2.length cB2, .int .i64 (p2 : Nat)]) (by simp [results, Tryz.results192, go_sem, c0, c1, c2, c3, c4]) rfl ?_
      rw [HRR.out]
      exact ans_fin (fun b => b = w.heap.size) HE.out (mvt (mvt HS0.out HS1.out) HS2.out) (fun b hb => by have hb : b = g ∨ b = w.heap.size := hb; omega) HQ3.out (fun b hb => by have hb : b = w.heap.size := hb; omega) ⟨_, _, _, _, _, _, _, rfl, rfl, HX2.out.1.far (G := fun b => b = g ∨ b = w.heap.size) (Mv.wide HE.out fun b k => Or.inr k) (by intro b hb hl hk; (try simp at hb); have hk : b = g ∨ b = w.heap.size := hk; omega) (by intro b hb; (try simp at hb); show w.heap.size ≤ b; omega), HX2.out.2.far (G := fun b => b = g ∨ b = w.heap.size) (Mv.wide HE.out fun b k => Or.inr k) (by intro b hb hl hk; (try simp at hb); have hk : b = g ∨ b = w.heap.size := hk; omega) (by intro b hb; (try simp at hb); show w.heap.size ≤ b; omega)⟩
  rw [if_neg y5] at hRR
  by_cases y6 : (Syn.hd en st).x = ([108, 105, 115, 116] : List UInt8)
  case pos =>
    rw [if_pos y6] at hRR
    have HC2 : Hid (∀ w1, Q w1 g lo en dp st → P en N .list dp st ≠ .out → Calls Tryz.prog 197 #[.pointer (some ⟨g, 0, none⟩)] w1 fun e w' => Ans ShE w1 g lo en dp e w' (P en N .list dp st)) := fun w1 q1 hn => hlist w1 dp st q1 (by exact hd_ne (by decide) y6) hn
    generalize P en N .list dp st = E2 at hRR HC2
    cases E2 with
    | out => exact absurd hRR hne
    | bad cc a =>
      have hI0 : ¬ (((Syn.hd en st).k : Nat) : Int) = 2 := by omega
      have Hy0 := hide y0
      clear y0
      have hI1 : ((tx (Syn.hd en st).x).toList == ([116, 114, 117, 101] : List UInt8)) = false := by rw [Lex.eqT, Lex.bs_tx]; exact decide_eq_false y1
      have Hy1 := hide y1
      clear y1
      have hI2 : ((tx (Syn.hd en st).x).toList == ([102, 97, 108, 115, 101] : List UInt8)) = false := by rw [Lex.eqT, Lex.bs_tx]; exact decide_eq_false y2
      have Hy2 := hide y2
      clear y2
      have hI3 : ((tx (Syn.hd en st).x).toList == ([110, 117, 108, 108] : List UInt8)) = false := by rw [Lex.eqT, Lex.bs_tx]; exact decide_eq_false y3
      have Hy3 := hide y3
      clear y3
      have hI4 : ((tx (Syn.hd en st).x).toList == ([116, 104, 105, 115] : List UInt8)) = false := by rw [Lex.eqT, Lex.bs_tx]; exact decide_eq_false y4
      have Hy4 := hide y4
      clear y4
      have hI5 : ((tx (Syn.hd en st).x).toList == ([110, 101, 119] : List UInt8)) = false := by rw [Lex.eqT, Lex.bs_tx]; exact decide_eq_false y5
      have Hy5 := hide y5
      clear y5
      have hI6 : ((tx (Syn.hd en st).x).toList == ([108, 105, 115, 116] : List UInt8)) = true := by rw [Lex.eqT, Lex.bs_tx]; exact decide_eq_true y6
      have Hy6 := hide y6
      clear y6
      have Hx1 := hide x1
      clear x1
      have HRR := hide hRR
      clear hRR
      go_enter Tryz.func192, Tryz.ntmps192
      go_wp2_with fail
      refine (step_q (fun b => b = w.heap.size) (wk := w) ?_ HQ0.out (fun b hb => by have hb : b = w.heap.size := hb; omega) (fun wz qz => next_q wz g lo en dp st qz)).mono ?_
      · (repeat' (first | with_reducible exact Sat.Mv.refl _ _ | with_reducible refine Sat.Mv.alloc ?_ _ | with_reducible refine Sat.Mv.drew ?_ | with_reducible refine Sat.Mv.drewN ?_ _ | with_reducible refine Sat.Mv.set ?_ ?_ _)) <;> (first | exact Or.inl (Or.inl rfl) | exact Or.inl (Or.inr rfl) | exact Or.inl rfl | (refine Or.inr ?_; (try simp); omega) | (refine Or.inl ?_; (try simp); omega))
      rintro e w1 ⟨⟨rfl, b2⟩, sg⟩
      have m2 : MvR g _ w1 := Sat.Mv.below b2
      have q2 : Q w1 g lo en dp st := (HQ0.out.mv sg (fun b hb => by have hb : b = w.heap.size := hb; omega)).below b2
      have z0 := m2.size
      try simp at z0
      have HS0 := hide (seg sg m2)
      have HQ1 := hide q2
      have hB : Blk 49 w1 (w.heap.size) #[.string ByteArray.empty, .string ByteArray.empty, .slice none 0 0, .slice none 0 0, .int .i64 0] := m2.blk (by (repeat' (first | exact Blk.new _ _ _ | with_reducible refine Blk.alloc ?_ _ | with_reducible refine Blk.drewN ?_ _ | with_reducible refine Blk.other ?_ ?_ _)) <;> (first | (simp; omega) | simp | omega)) (by omega)
      have HB := hide hB
      clear hB
      clear m2 q2 sg b2
      simp only [TV]
      have F10 := fun w => field_text (tx (Syn.hd en st).x) (Syn.hd en st).k (Syn.hd en st).a w
      have F20 := fun w => field_place (tx (Syn.hd en st).x) (Syn.hd en st).k (Syn.hd en st).a w
      go_wp2_with fail
      refine (step_isname (fun b => b = w.heap.size) (wk := w1) ?_ HQ1.out (fun b hb => by have hb : b = w.heap.size := hb; omega)).mono ?_
      · (repeat' (first | with_reducible exact Sat.Mv.refl _ _ | with_reducible refine Sat.Mv.alloc ?_ _ | with_reducible refine Sat.Mv.drew ?_ | with_reducible refine Sat.Mv.drewN ?_ _ | with_reducible refine Sat.Mv.set ?_ ?_ _)) <;> (first | exact Or.inl (Or.inl rfl) | exact Or.inl (Or.inr rfl) | exact Or.inl rfl | (refine Or.inr ?_; (try simp); omega) | (refine Or.inl ?_; (try simp); omega))
      rintro e w2 ⟨⟨he, b2⟩, sg⟩
      rw [decide_eq_false Hx1.out] at he
      subst he
      have m2 : MvR g _ w2 := Sat.Mv.below b2
      have q2 : Q w2 g lo en dp st := (HQ1.out.mv sg (fun b hb => by have hb : b = w.heap.size := hb; omega)).below b2
      have z1 := m2.size
      try simp at z1
      have HS1 := hide (seg sg m2)
      have HQ2 := hide q2
      have hB : Blk 49 w2 (w.heap.size) #[.string ByteArray.empty, .string ByteArray.empty, .slice none 0 0, .slice none 0 0, .int .i64 0] := m2.blk (by (repeat' (first | with_reducible exact HB.out | with_reducible refine Blk.alloc ?_ _ | with_reducible refine Blk.drewN ?_ _ | with_reducible refine Blk.other ?_ ?_ _ | exact HB.out)) <;> (first | (simp; omega) | simp | omega)) (by omega)
      clear HB
      have HB := hide hB
      clear hB
      have hL : Blk 43 w2 (w1.heap.size) #[.int .i64 ((Syn.hd en st).k : Nat), .string (tx (Syn.hd en st).x), .int .i64 ((Syn.hd en st).a : Nat)] := m2.blk (by (repeat' (first | exact Blk.new _ _ _ | with_reducible refine Blk.alloc ?_ _ | with_reducible refine Blk.drewN ?_ _ | with_reducible refine Blk.other ?_ ?_ _)) <;> (first | (simp; omega) | simp | omega)) (by omega)
      have HL0 := hide hL
      clear hL
      obtain ⟨l0_0, l0_1, l0_2, f0_0, f0_1, f0_2⟩ := bk3 HL0.out
      clear m2 q2 sg b2
      go_wp2_with fail
      refine (step_q (fun b => b = w.heap.size) (wk := w2) ?_ HQ2.out (fun b hb => by have hb : b = w.heap.size := hb; omega) (fun wz qz => HC2.out wz qz (fun e => by cases e))).mono ?_
      · (repeat' (first | with_reducible exact Sat.Mv.refl _ _ | with_reducible refine Sat.Mv.alloc ?_ _ | with_reducible refine Sat.Mv.drew ?_ | with_reducible refine Sat.Mv.drewN ?_ _ | with_reducible refine Sat.Mv.set ?_ ?_ _)) <;> (first | exact Or.inl (Or.inl rfl) | exact Or.inl (Or.inr rfl) | exact Or.inl rfl | (refine Or.inr ?_; (try simp); omega) | (refine Or.inl ?_; (try simp); omega))
      rintro e w3 ⟨⟨m2, rfl⟩, sg⟩
      go_wp2
      refine ⟨rfl, ?_⟩
      rw [HRR.out]
      refine ⟨Mv.out (mvt (mvt HS0.out HS1.out) (seg sg m2)) (fun b hb => by have hb : b = g ∨ b = w.heap.size := hb; omega), rfl⟩
    | ok r2 s2 =>
      try simp only [Res.to_ok] at hRR
      have hI0 : ¬ (((Syn.hd en st).k : Nat) : Int) = 2 := by omega
      have Hy0 := hide y0
      clear y0
      have hI1 : ((tx (Syn.hd en st).x).toList == ([116, 114, 117, 101] : List UInt8)) = false := by rw [Lex.eqT, Lex.bs_tx]; exact decide_eq_false y1
      have Hy1 := hide y1
      clear y1
      have hI2 : ((tx (Syn.hd en st).x).toList == ([102, 97, 108, 115, 101] : List UInt8)) = false := by rw [Lex.eqT, Lex.bs_tx]; exact decide_eq_false y2
      have Hy2 := hide y2
      clear y2
      have hI3 : ((tx (Syn.hd en st).x).toList == ([110, 117, 108, 108] : List UInt8)) = false := by rw [Lex.eqT, Lex.bs_tx]; exact decide_eq_false y3
      have Hy3 := hide y3
      clear y3
      have hI4 : ((tx (Syn.hd en st).x).toList == ([116, 104, 105, 115] : List UInt8)) = false := by rw [Lex.eqT, Lex.bs_tx]; exact decide_eq_false y4
      have Hy4 := hide y4
      clear y4
      have hI5 : ((tx (Syn.hd en st).x).toList == ([110, 101, 119] : List UInt8)) = false := by rw [Lex.eqT, Lex.bs_tx]; exact decide_eq_false y5
      have Hy5 := hide y5
      clear y5
      have hI6 : ((tx (Syn.hd en st).x).toList == ([108, 105, 115, 116] : List UInt8)) = true := by rw [Lex.eqT, Lex.bs_tx]; exact decide_eq_true y6
      have Hy6 := hide y6
      clear y6
      have Hx1 := hide x1
      clear x1
      have HRR := hide hRR
      clear hRR
      go_enter Tryz.func192, Tryz.ntmps192
      go_wp2_with fail
      refine (step_q (fun b => b = w.heap.size) (wk := w) ?_ HQ0.out (fun b hb => by have hb : b = w.heap.size := hb; omega) (fun wz qz => next_q wz g lo en dp st qz)).mono ?_
      · (repeat' (first | with_reducible exact Sat.Mv.refl _ _ | with_reducible refine Sat.Mv.alloc ?_ _ | with_reducible refine Sat.Mv.drew ?_ | with_reducible refine Sat.Mv.drewN ?_ _ | with_reducible refine Sat.Mv.set ?_ ?_ _)) <;> (first | exact Or.inl (Or.inl rfl) | exact Or.inl (Or.inr rfl) | exact Or.inl rfl | (refine Or.inr ?_; (try simp); omega) | (refine Or.inl ?_; (try simp); omega))
      rintro e w1 ⟨⟨rfl, b2⟩, sg⟩
      have m2 : MvR g _ w1 := Sat.Mv.below b2
      have q2 : Q w1 g lo en dp st := (HQ0.out.mv sg (fun b hb => by have hb : b = w.heap.size := hb; omega)).below b2
      have z0 := m2.size
      try simp at z0
      have HS0 := hide (seg sg m2)
      have HQ1 := hide q2
      have hB : Blk 49 w1 (w.heap.size) #[.string ByteArray.empty, .string ByteArray.empty, .slice none 0 0, .slice none 0 0, .int .i64 0] := m2.blk (by (repeat' (first | exact Blk.new _ _ _ | with_reducible refine Blk.alloc ?_ _ | with_reducible refine Blk.drewN ?_ _ | with_reducible refine Blk.other ?_ ?_ _)) <;> (first | (simp; omega) | simp | omega)) (by omega)
      have HB := hide hB
      clear hB
      clear m2 q2 sg b2
      simp only [TV]
      have F10 := fun w => field_text (tx (Syn.hd en st).x) (Syn.hd en st).k (Syn.hd en st).a w
      have F20 := fun w => field_place (tx (Syn.hd en st).x) (Syn.hd en st).k (Syn.hd en st).a w
      go_wp2_with fail
      refine (step_isname (fun b => b = w.heap.size) (wk := w1) ?_ HQ1.out (fun b hb => by have hb : b = w.heap.size := hb; omega)).mono ?_
      · (repeat' (first | with_reducible exact Sat.Mv.refl _ _ | with_reducible refine Sat.Mv.alloc ?_ _ | with_reducible refine Sat.Mv.drew ?_ | with_reducible refine Sat.Mv.drewN ?_ _ | with_reducible refine Sat.Mv.set ?_ ?_ _)) <;> (first | exact Or.inl (Or.inl rfl) | exact Or.inl (Or.inr rfl) | exact Or.inl rfl | (refine Or.inr ?_; (try simp); omega) | (refine Or.inl ?_; (try simp); omega))
      rintro e w2 ⟨⟨he, b2⟩, sg⟩
      rw [decide_eq_false Hx1.out] at he
      subst he
      have m2 : MvR g _ w2 := Sat.Mv.below b2
      have q2 : Q w2 g lo en dp st := (HQ1.out.mv sg (fun b hb => by have hb : b = w.heap.size := hb; omega)).below b2
      have z1 := m2.size
      try simp at z1
      have HS1 := hide (seg sg m2)
      have HQ2 := hide q2
      have hB : Blk 49 w2 (w.heap.size) #[.string ByteArray.empty, .string ByteArray.empty, .slice none 0 0, .slice none 0 0, .int .i64 0] := m2.blk (by (repeat' (first | with_reducible exact HB.out | with_reducible refine Blk.alloc ?_ _ | with_reducible refine Blk.drewN ?_ _ | with_reducible refine Blk.other ?_ ?_ _ | exact HB.out)) <;> (first | (simp; omega) | simp | omega)) (by omega)
      clear HB
      have HB := hide hB
      clear hB
      have hL : Blk 43 w2 (w1.heap.size) #[.int .i64 ((Syn.hd en st).k : Nat), .string (tx (Syn.hd en st).x), .int .i64 ((Syn.hd en st).a : Nat)] := m2.blk (by (repeat' (first | exact Blk.new _ _ _ | with_reducible refine Blk.alloc ?_ _ | with_reducible refine Blk.drewN ?_ _ | with_reducible refine Blk.other ?_ ?_ _)) <;> (first | (simp; omega) | simp | omega)) (by omega)
      have HL0 := hide hL
      clear hL
      obtain ⟨l0_0, l0_1, l0_2, f0_0, f0_1, f0_2⟩ := bk3 HL0.out
      clear m2 q2 sg b2
      go_wp2_with fail
      refine (step_q (fun b => b = w.heap.size) (wk := w2) ?_ HQ2.out (fun b hb => by have hb : b = w.heap.size := hb; omega) (fun wz qz => HC2.out wz qz (fun e => by cases e))).mono ?_
      · (repeat' (first | with_reducible exact Sat.Mv.refl _ _ | with_reducible refine Sat.Mv.alloc ?_ _ | with_reducible refine Sat.Mv.drew ?_ | with_reducible refine Sat.Mv.drewN ?_ _ | with_reducible refine Sat.Mv.set ?_ ?_ _)) <;> (first | exact Or.inl (Or.inl rfl) | exact Or.inl (Or.inr rfl) | exact Or.inl rfl | (refine Or.inr ?_; (try simp); omega) | (refine Or.inl ?_; (try simp); omega))
      rintro e w3 ⟨⟨m2, q2, u, rfl, op2, nm2, args2, tys2, p2, A2, B2, rfl, rfl, xA2, xB2⟩, sg⟩
      obtain ⟨qA2, cA2, rfl⟩ := xA2.slice
      obtain ⟨qB2, cB2, rfl⟩ := xB2.slice
      have z2 := m2.size
      try simp at z2
      have HS2 := hide (seg sg m2)
      have HQ3 := hide q2
      have HX2 := hide (And.intro xA2 xB2)
      clear xA2 xB2
      have hB : Blk 49 w3 (w.heap.size) #[.string ByteArray.empty, .string ByteArray.empty, .slice none 0 0, .slice none 0 0, .int .i64 0] := m2.blk (by (repeat' (first | with_reducible exact HB.out | with_reducible refine Blk.alloc ?_ _ | with_reducible refine Blk.drewN ?_ _ | with_reducible refine Blk.other ?_ ?_ _ | exact HB.out)) <;> (first | (simp; omega) | simp | omega)) (by omega)
      clear HB
      have HB := hide hB
      clear hB
      have hL : Blk 43 w3 (w1.heap.size) #[.int .i64 ((Syn.hd en st).k : Nat), .string (tx (Syn.hd en st).x), .int .i64 ((Syn.hd en st).a : Nat)] := m2.blk (by (repeat' (first | with_reducible exact HL0.out | with_reducible refine Blk.alloc ?_ _ | with_reducible refine Blk.drewN ?_ _ | with_reducible refine Blk.other ?_ ?_ _ | exact HL0.out)) <;> (first | (simp; omega) | simp | omega)) (by omega)
      clear HL0 l0_0 l0_1 l0_2 f0_0 f0_1 f0_2
      have HL0 := hide hL
      clear hL
      obtain ⟨l0_0, l0_1, l0_2, f0_0, f0_1, f0_2⟩ := bk3 HL0.out
      clear m2 q2 sg
      go_wp2_with ((show wpList _ _ _ _ _ _); refine store_blk rfl 49 (.tmp 2) (.tmp 37) rfl (w.heap.size) _ rfl rfl 49 #[.string ByteArray.empty, .string ByteArray.empty, .slice none 0 0, .slice none 0 0, .int .i64 0] (by (repeat' (first | with_reducible exact HB.out | with_reducible refine Blk.alloc ?_ _ | with_reducible refine Blk.drewN ?_ _ | with_reducible refine Blk.other ?_ ?_ _ | exact HB.out)) <;> (first | (simp; omega) | simp | omega)) (by kernel_rfl) rfl rfl ?_; intro wf b2 m2; have HE := hide (show Sat.Mv (fun b => b = w.heap.size) w3 wf from mvt (by (repeat' (first | with_reducible exact Sat.Mv.refl _ _ | with_reducible refine Sat.Mv.alloc ?_ _ | with_reducible refine Sat.Mv.drew ?_ | with_reducible refine Sat.Mv.drewN ?_ _ | with_reducible refine Sat.Mv.set ?_ ?_ _)) <;> (first | exact Or.inl (Or.inl rfl) | exact Or.inl (Or.inr rfl) | exact Or.inl rfl | (refine Or.inr ?_; (try simp); omega) | (refine Or.inl ?_; (try simp); omega))) (Mv.wide m2 (fun b hb => hb))); have HM := hide m2; obtain ⟨c0, c1, c2, c3, c4, k0, k1, k2, k3, k4⟩ := bk5 b2; clear m2 b2)
      refine bodyPost_ret (v := .agg #[.string (tx op2), .string (tx nm2), .slice qA2 args2.length cA2, .slice qB2 tys2.length cB2, .int .i64 (p2 : Nat)]) (by simp [results, Tryz.results192, go_sem, c0, c1, c2, c3, c4]) rfl ?_
      rw [HRR.out]
      exact ans_fin (fun b => b = w.heap.size) HE.out (mvt (mvt HS0.out HS1.out) HS2.out) (fun b hb => by have hb : b = g ∨ b = w.heap.size := hb; omega) HQ3.out (fun b hb => by have hb : b = w.heap.size := hb; omega) ⟨_, _, _, _, _, _, _, rfl, rfl, HX2.out.1.far (G := fun b => b = g ∨ b = w.heap.size) (Mv.wide HE.out fun b k => Or.inr k) (by intro b hb hl hk; (try simp at hb); have hk : b = g ∨ b = w.heap.size := hk; omega) (by intro b hb; (try simp at hb); show w.heap.size ≤ b; omega), HX2.out.2.far (G := fun b => b = g ∨ b = w.heap.size) (Mv.wide HE.out fun b k => Or.inr k) (by intro b hb hl hk; (try simp at hb); have hk : b = g ∨ b = w.heap.size := hk; omega) (by intro b hb; (try simp at hb); show w.heap.size ≤ b; omega)⟩
  rw [if_neg y6] at hRR
  by_cases y7 : (Syn.hd en st).x = ([108, 101, 110] : List UInt8)
  case pos =>
    rw [if_pos y7] at hRR
    have HC3 : Hid (∀ w1, Q w1 g lo en dp st.tail → P en N .inRound dp st.tail ≠ .out → Calls Tryz.prog 177 #[.pointer (some ⟨g, 0, none⟩)] w1 fun e w' => Ans (ShL 0) w1 g lo en dp e w' (P en N .inRound dp st.tail)) := fun w1 q1 hn => hinRound w1 dp st.tail q1 hn
    generalize P en N .inRound dp st.tail = E3 at hRR HC3
    cases E3 with
    | out => exact absurd hRR hne
    | bad cc a =>
      have hI0 : ¬ (((Syn.hd en st).k : Nat) : Int) = 2 := by omega
      have Hy0 := hide y0
      clear y0
      have hI1 : ((tx (Syn.hd en st).x).toList == ([116, 114, 117, 101] : List UInt8)) = false := by rw [Lex.eqT, Lex.bs_tx]; exact decide_eq_false y1
      have Hy1 := hide y1
      clear y1
      have hI2 : ((tx (Syn.hd en st).x).toList == ([102, 97, 108, 115, 101] : List UInt8)) = false := by rw [Lex.eqT, Lex.bs_tx]; exact decide_eq_false y2
      have Hy2 := hide y2
      clear y2
      have hI3 : ((tx (Syn.hd en st).x).toList == ([110, 117, 108, 108] : List UInt8)) = false := by rw [Lex.eqT, Lex.bs_tx]; exact decide_eq_false y3
      have Hy3 := hide y3
      clear y3
      have hI4 : ((tx (Syn.hd en st).x).toList == ([116, 104, 105, 115] : List UInt8)) = false := by rw [Lex.eqT, Lex.bs_tx]; exact decide_eq_false y4
      have Hy4 := hide y4
      clear y4
      have hI5 : ((tx (Syn.hd en st).x).toList == ([110, 101, 119] : List UInt8)) = false := by rw [Lex.eqT, Lex.bs_tx]; exact decide_eq_false y5
      have Hy5 := hide y5
      clear y5
      have hI6 : ((tx (Syn.hd en st).x).toList == ([108, 105, 115, 116] : List UInt8)) = false := by rw [Lex.eqT, Lex.bs_tx]; exact decide_eq_false y6
      have Hy6 := hide y6
      clear y6
      have hI7 : ((tx (Syn.hd en st).x).toList == ([108, 101, 110] : List UInt8)) = true := by rw [Lex.eqT, Lex.bs_tx]; exact decide_eq_true y7
      have Hy7 := hide y7
      clear y7
      have Hx1 := hide x1
      clear x1
      have HRR := hide hRR
      clear hRR
      go_enter Tryz.func192, Tryz.ntmps192
      go_wp2_with fail
      refine (step_q (fun b => b = w.heap.size) (wk := w) ?_ HQ0.out (fun b hb => by have hb : b = w.heap.size := hb; omega) (fun wz qz => next_q wz g lo en dp st qz)).mono ?_
      · (repeat' (first | with_reducible exact Sat.Mv.refl _ _ | with_reducible refine Sat.Mv.alloc ?_ _ | with_reducible refine Sat.Mv.drew ?_ | with_reducible refine Sat.Mv.drewN ?_ _ | with_reducible refine Sat.Mv.set ?_ ?_ _)) <;> (first | exact Or.inl (Or.inl rfl) | exact Or.inl (Or.inr rfl) | exact Or.inl rfl | (refine Or.inr ?_; (try simp); omega) | (refine Or.inl ?_; (try simp); omega))
      rintro e w1 ⟨⟨rfl, b2⟩, sg⟩
      have m2 : MvR g _ w1 := Sat.Mv.below b2
      have q2 : Q w1 g lo en dp st := (HQ0.out.mv sg (fun b hb => by have hb : b = w.heap.size := hb; omega)).below b2
      have z0 := m2.size
      try simp at z0
      have HS0 := hide (seg sg m2)
      have HQ1 := hide q2
      have hB : Blk 49 w1 (w.heap.size) #[.string ByteArray.empty, .string ByteArray.empty, .slice none 0 0, .slice none 0 0, .int .i64 0] := m2.blk (by (repeat' (first | exact Blk.new _ _ _ | with_reducible refine Blk.alloc ?_ _ | with_reducible refine Blk.drewN ?_ _ | with_reducible refine Blk.other ?_ ?_ _)) <;> (first | (simp; omega) | simp | omega)) (by omega)
      have HB := hide hB
      clear hB
      clear m2 q2 sg b2
      simp only [TV]
      have F10 := fun w => field_text (tx (Syn.hd en st).x) (Syn.hd en st).k (Syn.hd en st).a w
      have F20 := fun w => field_place (tx (Syn.hd en st).x) (Syn.hd en st).k (Syn.hd en st).a w
      go_wp2_with fail
      refine (step_isname (fun b => b = w.heap.size) (wk := w1) ?_ HQ1.out (fun b hb => by have hb : b = w.heap.size := hb; omega)).mono ?_
      · (repeat' (first | with_reducible exact Sat.Mv.refl _ _ | with_reducible refine Sat.Mv.alloc ?_ _ | with_reducible refine Sat.Mv.drew ?_ | with_reducible refine Sat.Mv.drewN ?_ _ | with_reducible refine Sat.Mv.set ?_ ?_ _)) <;> (first | exact Or.inl (Or.inl rfl) | exact Or.inl (Or.inr rfl) | exact Or.inl rfl | (refine Or.inr ?_; (try simp); omega) | (refine Or.inl ?_; (try simp); omega))
      rintro e w2 ⟨⟨he, b2⟩, sg⟩
      rw [decide_eq_false Hx1.out] at he
      subst he
      have m2 : MvR g _ w2 := Sat.Mv.below b2
      have q2 : Q w2 g lo en dp st := (HQ1.out.mv sg (fun b hb => by have hb : b = w.heap.size := hb; omega)).below b2
      have z1 := m2.size
      try simp at z1
      have HS1 := hide (seg sg m2)
      have HQ2 := hide q2
      have hB : Blk 49 w2 (w.heap.size) #[.string ByteArray.empty, .string ByteArray.empty, .slice none 0 0, .slice none 0 0, .int .i64 0] := m2.blk (by (repeat' (first | with_reducible exact HB.out | with_reducible refine Blk.alloc ?_ _ | with_reducible refine Blk.drewN ?_ _ | with_reducible refine Blk.other ?_ ?_ _ | exact HB.out)) <;> (first | (simp; omega) | simp | omega)) (by omega)
      clear HB
      have HB := hide hB
      clear hB
      have hL : Blk 43 w2 (w1.heap.size) #[.int .i64 ((Syn.hd en st).k : Nat), .string (tx (Syn.hd en st).x), .int .i64 ((Syn.hd en st).a : Nat)] := m2.blk (by (repeat' (first | exact Blk.new _ _ _ | with_reducible refine Blk.alloc ?_ _ | with_reducible refine Blk.drewN ?_ _ | with_reducible refine Blk.other ?_ ?_ _)) <;> (first | (simp; omega) | simp | omega)) (by omega)
      have HL0 := hide hL
      clear hL
      obtain ⟨l0_0, l0_1, l0_2, f0_0, f0_1, f0_2⟩ := bk3 HL0.out
      clear m2 q2 sg b2
      go_wp2_with fail
      refine (step_q (fun b => b = w.heap.size) (wk := w2) ?_ HQ2.out (fun b hb => by have hb : b = w.heap.size := hb; omega) (fun wz qz => take_q wz g lo en dp st qz (by exact hd_ne (by decide) Hy7.out))).mono ?_
      · (repeat' (first | with_reducible exact Sat.Mv.refl _ _ | with_reducible refine Sat.Mv.alloc ?_ _ | with_reducible refine Sat.Mv.drew ?_ | with_reducible refine Sat.Mv.drewN ?_ _ | with_reducible refine Sat.Mv.set ?_ ?_ _)) <;> (first | exact Or.inl (Or.inl rfl) | exact Or.inl (Or.inr rfl) | exact Or.inl rfl | (refine Or.inr ?_; (try simp); omega) | (refine Or.inl ?_; (try simp); omega))
      rintro e w3 ⟨⟨rfl, q2, m2⟩, sg⟩
      have z2 := m2.size
      try simp at z2
      have HS2 := hide (seg sg m2)
      have HQ3 := hide q2
      have hB : Blk 49 w3 (w.heap.size) #[.string ByteArray.empty, .string ByteArray.empty, .slice none 0 0, .slice none 0 0, .int .i64 0] := m2.blk (by (repeat' (first | with_reducible exact HB.out | with_reducible refine Blk.alloc ?_ _ | with_reducible refine Blk.drewN ?_ _ | with_reducible refine Blk.other ?_ ?_ _ | exact HB.out)) <;> (first | (simp; omega) | simp | omega)) (by omega)
      clear HB
      have HB := hide hB
      clear hB
      have hL : Blk 43 w3 (w1.heap.size) #[.int .i64 ((Syn.hd en st).k : Nat), .string (tx (Syn.hd en st).x), .int .i64 ((Syn.hd en st).a : Nat)] := m2.blk (by (repeat' (first | with_reducible exact HL0.out | with_reducible refine Blk.alloc ?_ _ | with_reducible refine Blk.drewN ?_ _ | with_reducible refine Blk.other ?_ ?_ _ | exact HL0.out)) <;> (first | (simp; omega) | simp | omega)) (by omega)
      clear HL0 l0_0 l0_1 l0_2 f0_0 f0_1 f0_2
      have HL0 := hide hL
      clear hL
      obtain ⟨l0_0, l0_1, l0_2, f0_0, f0_1, f0_2⟩ := bk3 HL0.out
      clear m2 q2 sg
      simp only [TV]
      have F12 := fun w => field_text (tx (Syn.hd en st).x) (Syn.hd en st).k (Syn.hd en st).a w
      have F22 := fun w => field_place (tx (Syn.hd en st).x) (Syn.hd en st).k (Syn.hd en st).a w
      go_wp2_with fail
      refine region_at ?_
      intro W hW
      have hMW : Sat.Mv (fun b => b = w.heap.size) w3 W := by rw [hW]; (repeat' (first | with_reducible exact Sat.Mv.refl _ _ | with_reducible refine Sat.Mv.alloc ?_ _ | with_reducible refine Sat.Mv.drew ?_ | with_reducible refine Sat.Mv.drewN ?_ _ | with_reducible refine Sat.Mv.set ?_ ?_ _)) <;> (first | exact Or.inl (Or.inl rfl) | exact Or.inl (Or.inr rfl) | exact Or.inl rfl | (refine Or.inr ?_; (try simp); omega) | (refine Or.inl ?_; (try simp); omega))
      have hRB : Blk 49 W (w.heap.size) #[.string ByteArray.empty, .string ByteArray.empty, .slice none 0 0, .slice none 0 0, .int .i64 0] := by rw [hW]; (repeat' (first | with_reducible exact HB.out | with_reducible refine Blk.alloc ?_ _ | with_reducible refine Blk.drewN ?_ _ | with_reducible refine Blk.other ?_ ?_ _ | exact HB.out)) <;> (first | (simp; omega) | simp | omega)
      have hLB0 : Blk 43 W (w1.heap.size) #[.int .i64 ((Syn.hd en st).k : Nat), .string (tx (Syn.hd en st).x), .int .i64 ((Syn.hd en st).a : Nat)] := by rw [hW]; (repeat' (first | with_reducible exact HL0.out | with_reducible refine Blk.alloc ?_ _ | with_reducible refine Blk.drewN ?_ _ | with_reducible refine Blk.other ?_ ?_ _ | exact HL0.out)) <;> (first | (simp; omega) | simp | omega)
      have HMW := hide hMW
      have HRB := hide hRB
      have HQW := hide (HQ3.out.mv hMW (fun b hb => by have hb : b = w.heap.size := hb; omega))
      have hgW := HQW.out.lt
      have hWz := hMW.size
      have hrz := hRB.lt
      clear hMW hRB hW
      have HLB0 := hide hLB0
      have hLz0 := hLB0.lt
      clear hLB0
      obtain ⟨Ph, hPhE⟩ : ∃ Ph : Phase, Ph = (fun i vs wz => (i < 3 → MvR g W wz) ∧ match i with | 0 => Q wz g lo en dp st.tail | _ => False) := ⟨_, rfl⟩
      refine wp_region_F (by kernel_rfl) [some 42, some 43, some 44, some 45, some 46, none] [none, none, none, none, none, none, none, none, none, none, none, none, none, none, none, none, none, none, none, none, none, none, none, none, none, none, none, none, none, none, none, none, none, none, none, none, none, none, none, none, none, none, some 42, some 43, some 44, some 45, some 46] (fun U => by kernel_rfl) [fun u => u = (.pointer (some ⟨g, 0, none⟩)), fun _ => True, fun u => u = (.pointer (some ⟨w1.heap.size, 2, none⟩)), fun u => u = (.int .i64 ((Syn.hd en st).a : Nat)), fun _ => True, fun _ => True] (PC [(1, some 43), (4, some 46), (5, none)] Ph) (by kernel_rfl) (by decide) (by kernel_rfl) (by kernel_rfl) (fun U => PC.start (by rw [hPhE]; exact ⟨fun _ => Sat.Mv.below (Below.refl _ _).drew, HQW.out.below (Below.refl _ _).drew⟩)) ?_ ?_
      · refine StepsF.run rfl ?_ ?_
        · intro L U wr hC hP hlk hcl haf A K hFm hK
          clear haf
          have e0 : A.tmps[0]? = some (.pointer (some ⟨g, 0, none⟩)) := (hFm.old 0 (by decide)).trans (by kernel_rfl)
          have HC9 := hide hC
          clear hC
          refine ⟨?_⟩
          go_simp
          exact hK _ _ rfl (HC9.out.read (by decide) (by decide))
        refine StepsF.run rfl ?_ ?_
        · intro L U wr hC hP hlk hcl haf A K hFm hK
          simp [Aft, Region.binds] at haf
          obtain ⟨vs, hvs, hPh, hnx⟩ := hC.step 0 (by decide) hlk (Or.inl rfl) (by decide) (by decide)
          rw [hPhE] at hPh
          have e42 : A.tmps[42]? = some (.pointer (some ⟨g, 0, none⟩)) := hFm.is 0 42 rfl (hP 0 42 (by simp [haf]) rfl)
          clear hC
          refine ⟨?_⟩
          have HPh := hide hPh
          have Hnx := hide hnx
          clear hPh hnx
          go_simp
          refine (HC3.out wr HPh.out.2 (fun e => by cases e)).mono ?_
          rintro e w9 ⟨m9, rfl⟩
          obtain ⟨tm9, df9⟩ := A
          have hd9 : df9 = [] := hFm.def_
          subst hd9
          clear hFm hK
          go_simp
          refine ⟨rfl, ?_⟩
          rw [HRR.out]
          exact ⟨Mv.out (mvt (mvt (mvt HS0.out HS1.out) HS2.out) (seg HMW.out (MvR.to (HPh.out.1 (by decide)) m9))) (fun b hb => by have hb : b = g ∨ b = w.heap.size := hb; omega), rfl⟩
        refine StepsF.run rfl ?_ ?_
        · intro L U wr hC hP hlk hcl haf A K hFm hK
          clear haf
          have e3 : A.tmps[3]? = some (.pointer (some ⟨w1.heap.size, 0, none⟩)) := (hFm.old 3 (by decide)).trans (by kernel_rfl)
          have HC9 := hide hC
          clear hC
          refine ⟨?_⟩
          go_simp
          exact hK _ _ rfl (HC9.out.read (by decide) (by decide))
        refine StepsF.run rfl ?_ ?_
        · intro L U wr hC hP hlk hcl haf A K hFm hK
          simp [Aft, Region.binds] at haf
          have e44 : A.tmps[44]? = some (.pointer (some ⟨w1.heap.size, 2, none⟩)) := hFm.is 2 44 rfl (hP 2 44 (by simp [haf]) rfl)
          have hkb : L 4 = false := by cases h : L 4 with | false => rfl | true => have h9 := hcl 4 _ rfl h; simp [Aft, Region.binds, hlk] at h9
          obtain ⟨iz, vz, hiz, hPz⟩ := hC.at_ 1 (by decide) hkb
          rw [hPhE] at hPz
          have hMz : MvR g W wr := hPz.1 (by omega)
          clear hPz hiz
          have hLk : Blk 43 wr (w1.heap.size) #[.int .i64 ((Syn.hd en st).k : Nat), .string (tx (Syn.hd en st).x), .int .i64 ((Syn.hd en st).a : Nat)] := hMz.blk HLB0.out (by omega)
          obtain ⟨l0_0, l0_1, l0_2, f0_0, f0_1, f0_2⟩ := bk3 hLk
          clear hLk
          have HC9 := hide hC
          clear hC hMz
          refine ⟨?_⟩
          go_simp
          exact hK _ _ rfl (HC9.out.read (by decide) (by decide))
        refine StepsF.run rfl ?_ ?_
        · intro L U wr hC hP hlk hcl haf A K hFm hK
          simp [Aft, Region.binds] at haf
          obtain ⟨vs, hvs, hPh, hnx⟩ := hC.step 1 (by decide) hlk (Or.inr (by first | exact haf | exact haf.1 | exact haf.2 | simp [chN, haf])) (by decide) (by decide)
          rw [hPhE] at hPh
          have e43 : A.tmps[43]? = some (vs 0) := hFm.is 1 43 rfl (hvs 0 43 (by decide) rfl)
          have e45 : A.tmps[45]? = some (.int .i64 ((Syn.hd en st).a : Nat)) := hFm.is 3 45 rfl (hP 3 45 (by simp [haf]) rfl)
          clear hC
          exact hPh.2.elim
        refine StepsF.run rfl ?_ StepsF.nil
        · intro L U wr hC hP hlk hcl haf A K hFm hK
          simp [Aft, Region.binds] at haf
          obtain ⟨vs, hvs, hPh, hnx⟩ := hC.step 2 (by decide) hlk (Or.inr (by first | exact haf | exact haf.1 | exact haf.2 | simp [chN, haf])) (by decide) (by decide)
          rw [hPhE] at hPh
          have e46 : A.tmps[46]? = some (vs 1) := hFm.is 4 46 rfl (hvs 1 46 (by decide) rfl)
          have e2 : A.tmps[2]? = some (.pointer (some ⟨w.heap.size, 0, none⟩)) := (hFm.old 2 (by decide)).trans (by kernel_rfl)
          clear hC
          exact hPh.2.elim
      intro L U5 V5 hall hC hP
      obtain ⟨vs, hvs, hPh⟩ := hC.fin (by decide) (hall 5 (by decide))
      rw [hPhE] at hPh
      clear hPhE hC hP hall
      simp only [setM_some, setM_none, setM_nil]
      exact hPh.2.elim
    | ok r3 s3 =>
      try simp only [Res.to_ok] at hRR
      have hI0 : ¬ (((Syn.hd en st).k : Nat) : Int) = 2 := by omega
      have Hy0 := hide y0
      clear y0
      have hI1 : ((tx (Syn.hd en st).x).toList == ([116, 114, 117, 101] : List UInt8)) = false := by rw [Lex.eqT, Lex.bs_tx]; exact decide_eq_false y1
      have Hy1 := hide y1
      clear y1
      have hI2 : ((tx (Syn.hd en st).x).toList == ([102, 97, 108, 115, 101] : List UInt8)) = false := by rw [Lex.eqT, Lex.bs_tx]; exact decide_eq_false y2
      have Hy2 := hide y2
      clear y2
      have hI3 : ((tx (Syn.hd en st).x).toList == ([110, 117, 108, 108] : List UInt8)) = false := by rw [Lex.eqT, Lex.bs_tx]; exact decide_eq_false y3
      have Hy3 := hide y3
      clear y3
      have hI4 : ((tx (Syn.hd en st).x).toList == ([116, 104, 105, 115] : List UInt8)) = false := by rw [Lex.eqT, Lex.bs_tx]; exact decide_eq_false y4
      have Hy4 := hide y4
      clear y4
      have hI5 : ((tx (Syn.hd en st).x).toList == ([110, 101, 119] : List UInt8)) = false := by rw [Lex.eqT, Lex.bs_tx]; exact decide_eq_false y5
      have Hy5 := hide y5
      clear y5
      have hI6 : ((tx (Syn.hd en st).x).toList == ([108, 105, 115, 116] : List UInt8)) = false := by rw [Lex.eqT, Lex.bs_tx]; exact decide_eq_false y6
      have Hy6 := hide y6
      clear y6
      have hI7 : ((tx (Syn.hd en st).x).toList == ([108, 101, 110] : List UInt8)) = true := by rw [Lex.eqT, Lex.bs_tx]; exact decide_eq_true y7
      have Hy7 := hide y7
      clear y7
      have Hx1 := hide x1
      clear x1
      have HRR := hide hRR
      clear hRR
      go_enter Tryz.func192, Tryz.ntmps192
      go_wp2_with fail
      refine (step_q (fun b => b = w.heap.size) (wk := w) ?_ HQ0.out (fun b hb => by have hb : b = w.heap.size := hb; omega) (fun wz qz => next_q wz g lo en dp st qz)).mono ?_
      · (repeat' (first | with_reducible exact Sat.Mv.refl _ _ | with_reducible refine Sat.Mv.alloc ?_ _ | with_reducible refine Sat.Mv.drew ?_ | with_reducible refine Sat.Mv.drewN ?_ _ | with_reducible refine Sat.Mv.set ?_ ?_ _)) <;> (first | exact Or.inl (Or.inl rfl) | exact Or.inl (Or.inr rfl) | exact Or.inl rfl | (refine Or.inr ?_; (try simp); omega) | (refine Or.inl ?_; (try simp); omega))
      rintro e w1 ⟨⟨rfl, b2⟩, sg⟩
      have m2 : MvR g _ w1 := Sat.Mv.below b2
      have q2 : Q w1 g lo en dp st := (HQ0.out.mv sg (fun b hb => by have hb : b = w.heap.size := hb; omega)).below b2
      have z0 := m2.size
      try simp at z0
      have HS0 := hide (seg sg m2)
      have HQ1 := hide q2
      have hB : Blk 49 w1 (w.heap.size) #[.string ByteArray.empty, .string ByteArray.empty, .slice none 0 0, .slice none 0 0, .int .i64 0] := m2.blk (by (repeat' (first | exact Blk.new _ _ _ | with_reducible refine Blk.alloc ?_ _ | with_reducible refine Blk.drewN ?_ _ | with_reducible refine Blk.other ?_ ?_ _)) <;> (first | (simp; omega) | simp | omega)) (by omega)
      have HB := hide hB
      clear hB
      clear m2 q2 sg b2
      simp only [TV]
      have F10 := fun w => field_text (tx (Syn.hd en st).x) (Syn.hd en st).k (Syn.hd en st).a w
      have F20 := fun w => field_place (tx (Syn.hd en st).x) (Syn.hd en st).k (Syn.hd en st).a w
      go_wp2_with fail
      refine (step_isname (fun b => b = w.heap.size) (wk := w1) ?_ HQ1.out (fun b hb => by have hb : b = w.heap.size := hb; omega)).mono ?_
      · (repeat' (first | with_reducible exact Sat.Mv.refl _ _ | with_reducible refine Sat.Mv.alloc ?_ _ | with_reducible refine Sat.Mv.drew ?_ | with_reducible refine Sat.Mv.drewN ?_ _ | with_reducible refine Sat.Mv.set ?_ ?_ _)) <;> (first | exact Or.inl (Or.inl rfl) | exact Or.inl (Or.inr rfl) | exact Or.inl rfl | (refine Or.inr ?_; (try simp); omega) | (refine Or.inl ?_; (try simp); omega))
      rintro e w2 ⟨⟨he, b2⟩, sg⟩
      rw [decide_eq_false Hx1.out] at he
      subst he
      have m2 : MvR g _ w2 := Sat.Mv.below b2
      have q2 : Q w2 g lo en dp st := (HQ1.out.mv sg (fun b hb => by have hb : b = w.heap.size := hb; omega)).below b2
      have z1 := m2.size
      try simp at z1
      have HS1 := hide (seg sg m2)
      have HQ2 := hide q2
      have hB : Blk 49 w2 (w.heap.size) #[.string ByteArray.empty, .string ByteArray.empty, .slice none 0 0, .slice none 0 0, .int .i64 0] := m2.blk (by (repeat' (first | with_reducible exact HB.out | with_reducible refine Blk.alloc ?_ _ | with_reducible refine Blk.drewN ?_ _ | with_reducible refine Blk.other ?_ ?_ _ | exact HB.out)) <;> (first | (simp; omega) | simp | omega)) (by omega)
      clear HB
      have HB := hide hB
      clear hB
      have hL : Blk 43 w2 (w1.heap.size) #[.int .i64 ((Syn.hd en st).k : Nat), .string (tx (Syn.hd en st).x), .int .i64 ((Syn.hd en st).a : Nat)] := m2.blk (by (repeat' (first | exact Blk.new _ _ _ | with_reducible refine Blk.alloc ?_ _ | with_reducible refine Blk.drewN ?_ _ | with_reducible refine Blk.other ?_ ?_ _)) <;> (first | (simp; omega) | simp | omega)) (by omega)
      have HL0 := hide hL
      clear hL
      obtain ⟨l0_0, l0_1, l0_2, f0_0, f0_1, f0_2⟩ := bk3 HL0.out
      clear m2 q2 sg b2
      go_wp2_with fail
      refine (step_q (fun b => b = w.heap.size) (wk := w2) ?_ HQ2.out (fun b hb => by have hb : b = w.heap.size := hb; omega) (fun wz qz => take_q wz g lo en dp st qz (by exact hd_ne (by decide) Hy7.out))).mono ?_
      · (repeat' (first | with_reducible exact Sat.Mv.refl _ _ | with_reducible refine Sat.Mv.alloc ?_ _ | with_reducible refine Sat.Mv.drew ?_ | with_reducible refine Sat.Mv.drewN ?_ _ | with_reducible refine Sat.Mv.set ?_ ?_ _)) <;> (first | exact Or.inl (Or.inl rfl) | exact Or.inl (Or.inr rfl) | exact Or.inl rfl | (refine Or.inr ?_; (try simp); omega) | (refine Or.inl ?_; (try simp); omega))
      rintro e w3 ⟨⟨rfl, q2, m2⟩, sg⟩
      have z2 := m2.size
      try simp at z2
      have HS2 := hide (seg sg m2)
      have HQ3 := hide q2
      have hB : Blk 49 w3 (w.heap.size) #[.string ByteArray.empty, .string ByteArray.empty, .slice none 0 0, .slice none 0 0, .int .i64 0] := m2.blk (by (repeat' (first | with_reducible exact HB.out | with_reducible refine Blk.alloc ?_ _ | with_reducible refine Blk.drewN ?_ _ | with_reducible refine Blk.other ?_ ?_ _ | exact HB.out)) <;> (first | (simp; omega) | simp | omega)) (by omega)
      clear HB
      have HB := hide hB
      clear hB
      have hL : Blk 43 w3 (w1.heap.size) #[.int .i64 ((Syn.hd en st).k : Nat), .string (tx (Syn.hd en st).x), .int .i64 ((Syn.hd en st).a : Nat)] := m2.blk (by (repeat' (first | with_reducible exact HL0.out | with_reducible refine Blk.alloc ?_ _ | with_reducible refine Blk.drewN ?_ _ | with_reducible refine Blk.other ?_ ?_ _ | exact HL0.out)) <;> (first | (simp; omega) | simp | omega)) (by omega)
      clear HL0 l0_0 l0_1 l0_2 f0_0 f0_1 f0_2
      have HL0 := hide hL
      clear hL
      obtain ⟨l0_0, l0_1, l0_2, f0_0, f0_1, f0_2⟩ := bk3 HL0.out
      clear m2 q2 sg
      simp only [TV]
      have F12 := fun w => field_text (tx (Syn.hd en st).x) (Syn.hd en st).k (Syn.hd en st).a w
      have F22 := fun w => field_place (tx (Syn.hd en st).x) (Syn.hd en st).k (Syn.hd en st).a w
      go_wp2_with fail
      refine region_at ?_
      intro W hW
      have hMW : Sat.Mv (fun b => b = w.heap.size) w3 W := by rw [hW]; (repeat' (first | with_reducible exact Sat.Mv.refl _ _ | with_reducible refine Sat.Mv.alloc ?_ _ | with_reducible refine Sat.Mv.drew ?_ | with_reducible refine Sat.Mv.drewN ?_ _ | with_reducible refine Sat.Mv.set ?_ ?_ _)) <;> (first | exact Or.inl (Or.inl rfl) | exact Or.inl (Or.inr rfl) | exact Or.inl rfl | (refine Or.inr ?_; (try simp); omega) | (refine Or.inl ?_; (try simp); omega))
      have hRB : Blk 49 W (w.heap.size) #[.string ByteArray.empty, .string ByteArray.empty, .slice none 0 0, .slice none 0 0, .int .i64 0] := by rw [hW]; (repeat' (first | with_reducible exact HB.out | with_reducible refine Blk.alloc ?_ _ | with_reducible refine Blk.drewN ?_ _ | with_reducible refine Blk.other ?_ ?_ _ | exact HB.out)) <;> (first | (simp; omega) | simp | omega)
      have hLB0 : Blk 43 W (w1.heap.size) #[.int .i64 ((Syn.hd en st).k : Nat), .string (tx (Syn.hd en st).x), .int .i64 ((Syn.hd en st).a : Nat)] := by rw [hW]; (repeat' (first | with_reducible exact HL0.out | with_reducible refine Blk.alloc ?_ _ | with_reducible refine Blk.drewN ?_ _ | with_reducible refine Blk.other ?_ ?_ _ | exact HL0.out)) <;> (first | (simp; omega) | simp | omega)
      have HMW := hide hMW
      have HRB := hide hRB
      have HQW := hide (HQ3.out.mv hMW (fun b hb => by have hb : b = w.heap.size := hb; omega))
      have hgW := HQW.out.lt
      have hWz := hMW.size
      have hrz := hRB.lt
      clear hMW hRB hW
      have HLB0 := hide hLB0
      have hLz0 := hLB0.lt
      clear hLB0
      obtain ⟨Ph, hPhE⟩ : ∃ Ph : Phase, Ph = (fun i vs wz => (i < 3 → MvR g W wz) ∧ match i with | 0 => Q wz g lo en dp st.tail | 1 => ∃ rows3 qA3 cA3, r3 = [.l 0 rows3] ∧ vs 0 = .slice qA3 rows3.length cA3 ∧ MvR g W wz ∧ Q wz g lo en dp s3 ∧ X wz (fun b => W.heap.size ≤ b) (.slice qA3 rows3.length cA3) (.l 0 rows3) | 2 => ∃ rows3 qA3 cA3, r3 = [.l 0 rows3] ∧ vs 0 = .slice qA3 rows3.length cA3 ∧ vs 1 = .agg #[.string (tx ([108, 101, 110] : List UInt8)), .string { data := #[] }, .slice qA3 rows3.length cA3, .slice none 0 0, .int .i64 ((Syn.hd en st).a : Nat)] ∧ MvR g W wz ∧ Q wz g lo en dp s3 ∧ X wz (fun b => W.heap.size ≤ b) (.slice qA3 rows3.length cA3) (.l 0 rows3) | _ => ∃ rows3 qA3 cA3, r3 = [.l 0 rows3] ∧ ∃ wy, Blk 49 wz (w.heap.size) #[.string (tx ([108, 101, 110] : List UInt8)), .string { data := #[] }, .slice qA3 rows3.length cA3, .slice none 0 0, .int .i64 ((Syn.hd en st).a : Nat)] ∧ Sat.Mv (fun b => b = w.heap.size) wy wz ∧ MvR g W wy ∧ Q wy g lo en dp s3 ∧ X wy (fun b => W.heap.size ≤ b) (.slice qA3 rows3.length cA3) (.l 0 rows3)) := ⟨_, rfl⟩
      refine wp_region_F (by kernel_rfl) [some 42, some 43, some 44, some 45, some 46, none] [none, none, none, none, none, none, none, none, none, none, none, none, none, none, none, none, none, none, none, none, none, none, none, none, none, none, none, none, none, none, none, none, none, none, none, none, none, none, none, none, none, none, some 42, some 43, some 44, some 45, some 46] (fun U => by kernel_rfl) [fun u => u = (.pointer (some ⟨g, 0, none⟩)), fun _ => True, fun u => u = (.pointer (some ⟨w1.heap.size, 2, none⟩)), fun u => u = (.int .i64 ((Syn.hd en st).a : Nat)), fun _ => True, fun _ => True] (PC [(1, some 43), (4, some 46), (5, none)] Ph) (by kernel_rfl) (by decide) (by kernel_rfl) (by kernel_rfl) (fun U => PC.start (by rw [hPhE]; exact ⟨fun _ => Sat.Mv.below (Below.refl _ _).drew, HQW.out.below (Below.refl _ _).drew⟩)) ?_ ?_
      · refine StepsF.run rfl ?_ ?_
        · intro L U wr hC hP hlk hcl haf A K hFm hK
          clear haf
          have e0 : A.tmps[0]? = some (.pointer (some ⟨g, 0, none⟩)) := (hFm.old 0 (by decide)).trans (by kernel_rfl)
          have HC9 := hide hC
          clear hC
          refine ⟨?_⟩
          go_simp
          exact hK _ _ rfl (HC9.out.read (by decide) (by decide))
        refine StepsF.run rfl ?_ ?_
        · intro L U wr hC hP hlk hcl haf A K hFm hK
          simp [Aft, Region.binds] at haf
          obtain ⟨vs, hvs, hPh, hnx⟩ := hC.step 0 (by decide) hlk (Or.inl rfl) (by decide) (by decide)
          rw [hPhE] at hPh
          have e42 : A.tmps[42]? = some (.pointer (some ⟨g, 0, none⟩)) := hFm.is 0 42 rfl (hP 0 42 (by simp [haf]) rfl)
          clear hC
          refine ⟨?_⟩
          have HPh := hide hPh
          have Hnx := hide hnx
          clear hPh hnx
          go_simp
          refine (HC3.out wr HPh.out.2 (fun e => by cases e)).mono ?_
          rintro e w9 ⟨m9, q9, u, rfl, ⟨rows3, hr9, xA3⟩⟩
          obtain ⟨qA3, cA3, rfl⟩ := xA3.slice
          have m99 := MvR.to (HPh.out.1 (by decide)) m9
          have hz9 := (HPh.out.1 (by decide)).size
          go_simp
          exact hK _ _ trivial (Hnx.out _ _ (by rw [hPhE]; exact ⟨fun _ => m99, _, _, _, hr9, rfl, m99, q9, xA3.stay (fun b hb _ => ⟨rfl, Nat.le_trans hz9 hb⟩)⟩))
        refine StepsF.run rfl ?_ ?_
        · intro L U wr hC hP hlk hcl haf A K hFm hK
          clear haf
          have e3 : A.tmps[3]? = some (.pointer (some ⟨w1.heap.size, 0, none⟩)) := (hFm.old 3 (by decide)).trans (by kernel_rfl)
          have HC9 := hide hC
          clear hC
          refine ⟨?_⟩
          go_simp
          exact hK _ _ rfl (HC9.out.read (by decide) (by decide))
        refine StepsF.run rfl ?_ ?_
        · intro L U wr hC hP hlk hcl haf A K hFm hK
          simp [Aft, Region.binds] at haf
          have e44 : A.tmps[44]? = some (.pointer (some ⟨w1.heap.size, 2, none⟩)) := hFm.is 2 44 rfl (hP 2 44 (by simp [haf]) rfl)
          have hkb : L 4 = false := by cases h : L 4 with | false => rfl | true => have h9 := hcl 4 _ rfl h; simp [Aft, Region.binds, hlk] at h9
          obtain ⟨iz, vz, hiz, hPz⟩ := hC.at_ 1 (by decide) hkb
          rw [hPhE] at hPz
          have hMz : MvR g W wr := hPz.1 (by omega)
          clear hPz hiz
          have hLk : Blk 43 wr (w1.heap.size) #[.int .i64 ((Syn.hd en st).k : Nat), .string (tx (Syn.hd en st).x), .int .i64 ((Syn.hd en st).a : Nat)] := hMz.blk HLB0.out (by omega)
          obtain ⟨l0_0, l0_1, l0_2, f0_0, f0_1, f0_2⟩ := bk3 hLk
          clear hLk
          have HC9 := hide hC
          clear hC hMz
          refine ⟨?_⟩
          go_simp
          exact hK _ _ rfl (HC9.out.read (by decide) (by decide))
        refine StepsF.run rfl ?_ ?_
        · intro L U wr hC hP hlk hcl haf A K hFm hK
          simp [Aft, Region.binds] at haf
          obtain ⟨vs, hvs, hPh, hnx⟩ := hC.step 1 (by decide) hlk (Or.inr (by first | exact haf | exact haf.1 | exact haf.2 | simp [chN, haf])) (by decide) (by decide)
          rw [hPhE] at hPh
          have e43 : A.tmps[43]? = some (vs 0) := hFm.is 1 43 rfl (hvs 0 43 (by decide) rfl)
          have e45 : A.tmps[45]? = some (.int .i64 ((Syn.hd en st).a : Nat)) := hFm.is 3 45 rfl (hP 3 45 (by simp [haf]) rfl)
          clear hC
          obtain ⟨h3, rows3, qA3, cA3, hr9, hv9, hz9⟩ := hPh
          rw [hv9] at e43
          have HZ := hide (And.intro h3 (And.intro hr9 hz9))
          have Hnx := hide hnx
          have Hv9 := hide hv9
          clear h3 hr9 hz9 hnx hv9
          refine ⟨?_⟩
          go_simp
          exact hK _ _ trivial (Hnx.out _ _ (by rw [hPhE]; exact ⟨fun _ => HZ.out.1 (by decide), _, _, _, HZ.out.2.1, Hv9.out, rfl, HZ.out.2.2⟩))
        refine StepsF.run rfl ?_ StepsF.nil
        · intro L U wr hC hP hlk hcl haf A K hFm hK
          simp [Aft, Region.binds] at haf
          obtain ⟨vs, hvs, hPh, hnx⟩ := hC.step 2 (by decide) hlk (Or.inr (by first | exact haf | exact haf.1 | exact haf.2 | simp [chN, haf])) (by decide) (by decide)
          rw [hPhE] at hPh
          have e46 : A.tmps[46]? = some (vs 1) := hFm.is 4 46 rfl (hvs 1 46 (by decide) rfl)
          have e2 : A.tmps[2]? = some (.pointer (some ⟨w.heap.size, 0, none⟩)) := (hFm.old 2 (by decide)).trans (by kernel_rfl)
          clear hC
          obtain ⟨h3, rows3, qA3, cA3, hr9, hv8, hv9, hz9⟩ := hPh
          rw [hv9] at e46
          have hb9 := (h3 (by decide)).blk HRB.out (by omega)
          refine ⟨?_⟩
          refine op_list 49 (.tmp 2) (.tmp 46) rfl (w.heap.size) #[.string (tx ([108, 101, 110] : List UInt8)), .string { data := #[] }, .slice qA3 rows3.length cA3, .slice none 0 0, .int .i64 ((Syn.hd en st).a : Nat)] (by simp [Act.eval, e2]) (by simp [Act.eval, e46]) 49 #[.string ByteArray.empty, .string ByteArray.empty, .slice none 0 0, .slice none 0 0, .int .i64 0] hb9 (by kernel_rfl) rfl rfl ?_
          exact hK _ _ trivial (hnx _ _ (by rw [hPhE]; exact ⟨(fun h => absurd h (by decide)), _, _, _, hr9, wr, setRow_heap wr (w.heap.size) _ _ 49 (0, 0) hb9, ⟨rfl, rfl, rfl, by simp [World.setRow], fun k _ hk => setRow_other wr (w.heap.size) k _ hk⟩, hz9⟩))
      intro L U5 V5 hall hC hP
      obtain ⟨vs, hvs, hPh⟩ := hC.fin (by decide) (hall 5 (by decide))
      rw [hPhE] at hPh
      clear hPhE hC hP hall
      simp only [setM_some, setM_none, setM_nil]
      obtain ⟨-, rows3, qA3, cA3, rfl, wy, hB9, hM9, m9, q9, xA3⟩ := hPh
      obtain ⟨c0, c1, c2, c3, c4, k0, k1, k2, k3, k4⟩ := bk5 hB9
      have HE := hide hM9
      have HS3 := hide (seg HMW.out m9)
      have HQ4 := hide q9
      have hz9 := m9.size
      have HXxA3 := hide xA3
      clear hM9 m9 q9 hB9 xA3 hvs
      go_wp2
      refine bodyPost_ret (v := .agg #[.string (tx ([108, 101, 110] : List UInt8)), .string { data := #[] }, .slice qA3 rows3.length cA3, .slice none 0 0, .int .i64 ((Syn.hd en st).a : Nat)]) (by simp [results, Tryz.results192, go_sem, c0, c1, c2, c3, c4]) rfl ?_
      rw [HRR.out]
      exact ans_fin (fun b => b = w.heap.size) (Mv.wide HE.out (fun b (hb : b = w.heap.size) => by show b = w.heap.size; omega)) (mvt (mvt (mvt HS0.out HS1.out) HS2.out) HS3.out) (fun b hb => by have hb : b = g ∨ b = w.heap.size := hb; omega) HQ4.out (fun b hb => by have hb : b = w.heap.size := hb; omega) ⟨_, _, _, _, _, _, _, rfl, rfl, HXxA3.out.far (Mv.wide HE.out (fun b (hb : b = w.heap.size) => (Or.inr (by show b = w.heap.size; omega) : b = g ∨ b = w.heap.size))) (by intro b hb hl hk; (try simp at hb); have hk : b = g ∨ b = w.heap.size := hk; omega) (by intro b hb; (try simp at hb); show w.heap.size ≤ b; omega), X.nil _ _ _⟩
  rw [if_neg y7] at hRR
  by_cases y8 : (Syn.hd en st).x = ([114, 101, 97, 100] : List UInt8)
  case pos =>
    rw [if_pos y8] at hRR
    by_cases x3 : (Syn.hd en st.tail).x = ([40] : List UInt8)
    case neg =>
      rw [if_neg x3] at hRR
      have hI0 : ¬ (((Syn.hd en st).k : Nat) : Int) = 2 := by omega
      have Hy0 := hide y0
      clear y0
      have hI1 : ((tx (Syn.hd en st).x).toList == ([116, 114, 117, 101] : List UInt8)) = false := by rw [Lex.eqT, Lex.bs_tx]; exact decide_eq_false y1
      have Hy1 := hide y1
      clear y1
      have hI2 : ((tx (Syn.hd en st).x).toList == ([102, 97, 108, 115, 101] : List UInt8)) = false := by rw [Lex.eqT, Lex.bs_tx]; exact decide_eq_false y2
      have Hy2 := hide y2
      clear y2
      have hI3 : ((tx (Syn.hd en st).x).toList == ([110, 117, 108, 108] : List UInt8)) = false := by rw [Lex.eqT, Lex.bs_tx]; exact decide_eq_false y3
      have Hy3 := hide y3
      clear y3
      have hI4 : ((tx (Syn.hd en st).x).toList == ([116, 104, 105, 115] : List UInt8)) = false := by rw [Lex.eqT, Lex.bs_tx]; exact decide_eq_false y4
      have Hy4 := hide y4
      clear y4
      have hI5 : ((tx (Syn.hd en st).x).toList == ([110, 101, 119] : List UInt8)) = false := by rw [Lex.eqT, Lex.bs_tx]; exact decide_eq_false y5
      have Hy5 := hide y5
      clear y5
      have hI6 : ((tx (Syn.hd en st).x).toList == ([108, 105, 115, 116] : List UInt8)) = false := by rw [Lex.eqT, Lex.bs_tx]; exact decide_eq_false y6
      have Hy6 := hide y6
      clear y6
      have hI7 : ((tx (Syn.hd en st).x).toList == ([108, 101, 110] : List UInt8)) = false := by rw [Lex.eqT, Lex.bs_tx]; exact decide_eq_false y7
      have Hy7 := hide y7
      clear y7
      have hI8 : ((tx (Syn.hd en st).x).toList == ([114, 101, 97, 100] : List UInt8)) = true := by rw [Lex.eqT, Lex.bs_tx]; exact decide_eq_true y8
      have Hy8 := hide y8
      clear y8
      have Hx1 := hide x1
      clear x1
      have Hx3 := hide x3
      clear x3
      have HRR := hide hRR
      clear hRR
      go_enter Tryz.func192, Tryz.ntmps192
      go_wp2_with fail
      refine (step_q (fun b => b = w.heap.size) (wk := w) ?_ HQ0.out (fun b hb => by have hb : b = w.heap.size := hb; omega) (fun wz qz => next_q wz g lo en dp st qz)).mono ?_
      · (repeat' (first | with_reducible exact Sat.Mv.refl _ _ | with_reducible refine Sat.Mv.alloc ?_ _ | with_reducible refine Sat.Mv.drew ?_ | with_reducible refine Sat.Mv.drewN ?_ _ | with_reducible refine Sat.Mv.set ?_ ?_ _)) <;> (first | exact Or.inl (Or.inl rfl) | exact Or.inl (Or.inr rfl) | exact Or.inl rfl | (refine Or.inr ?_; (try simp); omega) | (refine Or.inl ?_; (try simp); omega))
      rintro e w1 ⟨⟨rfl, b2⟩, sg⟩
      have m2 : MvR g _ w1 := Sat.Mv.below b2
      have q2 : Q w1 g lo en dp st := (HQ0.out.mv sg (fun b hb => by have hb : b = w.heap.size := hb; omega)).below b2
      have z0 := m2.size
      try simp at z0
      have HS0 := hide (seg sg m2)
      have HQ1 := hide q2
      have hB : Blk 49 w1 (w.heap.size) #[.string ByteArray.empty, .string ByteArray.empty, .slice none 0 0, .slice none 0 0, .int .i64 0] := m2.blk (by (repeat' (first | exact Blk.new _ _ _ | with_reducible refine Blk.alloc ?_ _ | with_reducible refine Blk.drewN ?_ _ | with_reducible refine Blk.other ?_ ?_ _)) <;> (first | (simp; omega) | simp | omega)) (by omega)
      have HB := hide hB
      clear hB
      clear m2 q2 sg b2
      simp only [TV]
      have F10 := fun w => field_text (tx (Syn.hd en st).x) (Syn.hd en st).k (Syn.hd en st).a w
      have F20 := fun w => field_place (tx (Syn.hd en st).x) (Syn.hd en st).k (Syn.hd en st).a w
      go_wp2_with fail
      refine (step_isname (fun b => b = w.heap.size) (wk := w1) ?_ HQ1.out (fun b hb => by have hb : b = w.heap.size := hb; omega)).mono ?_
      · (repeat' (first | with_reducible exact Sat.Mv.refl _ _ | with_reducible refine Sat.Mv.alloc ?_ _ | with_reducible refine Sat.Mv.drew ?_ | with_reducible refine Sat.Mv.drewN ?_ _ | with_reducible refine Sat.Mv.set ?_ ?_ _)) <;> (first | exact Or.inl (Or.inl rfl) | exact Or.inl (Or.inr rfl) | exact Or.inl rfl | (refine Or.inr ?_; (try simp); omega) | (refine Or.inl ?_; (try simp); omega))
      rintro e w2 ⟨⟨he, b2⟩, sg⟩
      rw [decide_eq_false Hx1.out] at he
      subst he
      have m2 : MvR g _ w2 := Sat.Mv.below b2
      have q2 : Q w2 g lo en dp st := (HQ1.out.mv sg (fun b hb => by have hb : b = w.heap.size := hb; omega)).below b2
      have z1 := m2.size
      try simp at z1
      have HS1 := hide (seg sg m2)
      have HQ2 := hide q2
      have hB : Blk 49 w2 (w.heap.size) #[.string ByteArray.empty, .string ByteArray.empty, .slice none 0 0, .slice none 0 0, .int .i64 0] := m2.blk (by (repeat' (first | with_reducible exact HB.out | with_reducible refine Blk.alloc ?_ _ | with_reducible refine Blk.drewN ?_ _ | with_reducible refine Blk.other ?_ ?_ _ | exact HB.out)) <;> (first | (simp; omega) | simp | omega)) (by omega)
      clear HB
      have HB := hide hB
      clear hB
      have hL : Blk 43 w2 (w1.heap.size) #[.int .i64 ((Syn.hd en st).k : Nat), .string (tx (Syn.hd en st).x), .int .i64 ((Syn.hd en st).a : Nat)] := m2.blk (by (repeat' (first | exact Blk.new _ _ _ | with_reducible refine Blk.alloc ?_ _ | with_reducible refine Blk.drewN ?_ _ | with_reducible refine Blk.other ?_ ?_ _)) <;> (first | (simp; omega) | simp | omega)) (by omega)
      have HL0 := hide hL
      clear hL
      obtain ⟨l0_0, l0_1, l0_2, f0_0, f0_1, f0_2⟩ := bk3 HL0.out
      clear m2 q2 sg b2
      go_wp2_with fail
      refine (step_q (fun b => b = w.heap.size) (wk := w2) ?_ HQ2.out (fun b hb => by have hb : b = w.heap.size := hb; omega) (fun wz qz => take_q wz g lo en dp st qz (by exact hd_ne (by decide) Hy8.out))).mono ?_
      · (repeat' (first | with_reducible exact Sat.Mv.refl _ _ | with_reducible refine Sat.Mv.alloc ?_ _ | with_reducible refine Sat.Mv.drew ?_ | with_reducible refine Sat.Mv.drewN ?_ _ | with_reducible refine Sat.Mv.set ?_ ?_ _)) <;> (first | exact Or.inl (Or.inl rfl) | exact Or.inl (Or.inr rfl) | exact Or.inl rfl | (refine Or.inr ?_; (try simp); omega) | (refine Or.inl ?_; (try simp); omega))
      rintro e w3 ⟨⟨rfl, q2, m2⟩, sg⟩
      have z2 := m2.size
      try simp at z2
      have HS2 := hide (seg sg m2)
      have HQ3 := hide q2
      have hB : Blk 49 w3 (w.heap.size) #[.string ByteArray.empty, .string ByteArray.empty, .slice none 0 0, .slice none 0 0, .int .i64 0] := m2.blk (by (repeat' (first | with_reducible exact HB.out | with_reducible refine Blk.alloc ?_ _ | with_reducible refine Blk.drewN ?_ _ | with_reducible refine Blk.other ?_ ?_ _ | exact HB.out)) <;> (first | (simp; omega) | simp | omega)) (by omega)
      clear HB
      have HB := hide hB
      clear hB
      have hL : Blk 43 w3 (w1.heap.size) #[.int .i64 ((Syn.hd en st).k : Nat), .string (tx (Syn.hd en st).x), .int .i64 ((Syn.hd en st).a : Nat)] := m2.blk (by (repeat' (first | with_reducible exact HL0.out | with_reducible refine Blk.alloc ?_ _ | with_reducible refine Blk.drewN ?_ _ | with_reducible refine Blk.other ?_ ?_ _ | exact HL0.out)) <;> (first | (simp; omega) | simp | omega)) (by omega)
      clear HL0 l0_0 l0_1 l0_2 f0_0 f0_1 f0_2
      have HL0 := hide hL
      clear hL
      obtain ⟨l0_0, l0_1, l0_2, f0_0, f0_1, f0_2⟩ := bk3 HL0.out
      clear m2 q2 sg
      simp only [TV]
      have F12 := fun w => field_text (tx (Syn.hd en st).x) (Syn.hd en st).k (Syn.hd en st).a w
      have F22 := fun w => field_place (tx (Syn.hd en st).x) (Syn.hd en st).k (Syn.hd en st).a w
      go_wp2_with fail
      refine (step_q (fun b => b = w.heap.size) (wk := w3) ?_ HQ3.out (fun b hb => by have hb : b = w.heap.size := hb; omega) (fun wz qz => want_q ([40] : List UInt8) (by decide) wz g lo en dp st.tail qz)).mono ?_
      · (repeat' (first | with_reducible exact Sat.Mv.refl _ _ | with_reducible refine Sat.Mv.alloc ?_ _ | with_reducible refine Sat.Mv.drew ?_ | with_reducible refine Sat.Mv.drewN ?_ _ | with_reducible refine Sat.Mv.set ?_ ?_ _)) <;> (first | exact Or.inl (Or.inl rfl) | exact Or.inl (Or.inr rfl) | exact Or.inl rfl | (refine Or.inr ?_; (try simp); omega) | (refine Or.inl ?_; (try simp); omega))
      rintro e w4 ⟨⟨m2, ⟨hyes, -, -⟩ | ⟨-, rfl⟩⟩, sg⟩
      case inl => exact absurd hyes Hx3.out
      go_wp2
      refine ⟨rfl, ?_⟩
      rw [HRR.out]
      refine ⟨Mv.out (mvt (mvt (mvt HS0.out HS1.out) HS2.out) (seg sg m2)) (fun b hb => by have hb : b = g ∨ b = w.heap.size := hb; omega), rfl⟩
    rw [if_pos x3] at hRR
    by_cases x4 : (Syn.hd en st.tail.tail).x = ([41] : List UInt8)
    case neg =>
      rw [if_neg x4] at hRR
      have hI0 : ¬ (((Syn.hd en st).k : Nat) : Int) = 2 := by omega
      have Hy0 := hide y0
      clear y0
      have hI1 : ((tx (Syn.hd en st).x).toList == ([116, 114, 117, 101] : List UInt8)) = false := by rw [Lex.eqT, Lex.bs_tx]; exact decide_eq_false y1
      have Hy1 := hide y1
      clear y1
      have hI2 : ((tx (Syn.hd en st).x).toList == ([102, 97, 108, 115, 101] : List UInt8)) = false := by rw [Lex.eqT, Lex.bs_tx]; exact decide_eq_false y2
      have Hy2 := hide y2
      clear y2
      have hI3 : ((tx (Syn.hd en st).x).toList == ([110, 117, 108, 108] : List UInt8)) = false := by rw [Lex.eqT, Lex.bs_tx]; exact decide_eq_false y3
      have Hy3 := hide y3
      clear y3
      have hI4 : ((tx (Syn.hd en st).x).toList == ([116, 104, 105, 115] : List UInt8)) = false := by rw [Lex.eqT, Lex.bs_tx]; exact decide_eq_false y4
      have Hy4 := hide y4
      clear y4
      have hI5 : ((tx (Syn.hd en st).x).toList == ([110, 101, 119] : List UInt8)) = false := by rw [Lex.eqT, Lex.bs_tx]; exact decide_eq_false y5
      have Hy5 := hide y5
      clear y5
      have hI6 : ((tx (Syn.hd en st).x).toList == ([108, 105, 115, 116] : List UInt8)) = false := by rw [Lex.eqT, Lex.bs_tx]; exact decide_eq_false y6
      have Hy6 := hide y6
      clear y6
      have hI7 : ((tx (Syn.hd en st).x).toList == ([108, 101, 110] : List UInt8)) = false := by rw [Lex.eqT, Lex.bs_tx]; exact decide_eq_false y7
      have Hy7 := hide y7
      clear y7
      have hI8 : ((tx (Syn.hd en st).x).toList == ([114, 101, 97, 100] : List UInt8)) = true := by rw [Lex.eqT, Lex.bs_tx]; exact decide_eq_true y8
      have Hy8 := hide y8
      clear y8
      have Hx1 := hide x1
      clear x1
      have Hx3 := hide x3
      clear x3
      have Hx4 := hide x4
      clear x4
      have HRR := hide hRR
      clear hRR
      go_enter Tryz.func192, Tryz.ntmps192
      go_wp2_with fail
      refine (step_q (fun b => b = w.heap.size) (wk := w) ?_ HQ0.out (fun b hb => by have hb : b = w.heap.size := hb; omega) (fun wz qz => next_q wz g lo en dp st qz)).mono ?_
      · (repeat' (first | with_reducible exact Sat.Mv.refl _ _ | with_reducible refine Sat.Mv.alloc ?_ _ | with_reducible refine Sat.Mv.drew ?_ | with_reducible refine Sat.Mv.drewN ?_ _ | with_reducible refine Sat.Mv.set ?_ ?_ _)) <;> (first | exact Or.inl (Or.inl rfl) | exact Or.inl (Or.inr rfl) | exact Or.inl rfl | (refine Or.inr ?_; (try simp); omega) | (refine Or.inl ?_; (try simp); omega))
      rintro e w1 ⟨⟨rfl, b2⟩, sg⟩
      have m2 : MvR g _ w1 := Sat.Mv.below b2
      have q2 : Q w1 g lo en dp st := (HQ0.out.mv sg (fun b hb => by have hb : b = w.heap.size := hb; omega)).below b2
      have z0 := m2.size
      try simp at z0
      have HS0 := hide (seg sg m2)
      have HQ1 := hide q2
      have hB : Blk 49 w1 (w.heap.size) #[.string ByteArray.empty, .string ByteArray.empty, .slice none 0 0, .slice none 0 0, .int .i64 0] := m2.blk (by (repeat' (first | exact Blk.new _ _ _ | with_reducible refine Blk.alloc ?_ _ | with_reducible refine Blk.drewN ?_ _ | with_reducible refine Blk.other ?_ ?_ _)) <;> (first | (simp; omega) | simp | omega)) (by omega)
      have HB := hide hB
      clear hB
      clear m2 q2 sg b2
      simp only [TV]
      have F10 := fun w => field_text (tx (Syn.hd en st).x) (Syn.hd en st).k (Syn.hd en st).a w
      have F20 := fun w => field_place (tx (Syn.hd en st).x) (Syn.hd en st).k (Syn.hd en st).a w
      go_wp2_with fail
      refine (step_isname (fun b => b = w.heap.size) (wk := w1) ?_ HQ1.out (fun b hb => by have hb : b = w.heap.size := hb; omega)).mono ?_
      · (repeat' (first | with_reducible exact Sat.Mv.refl _ _ | with_reducible refine Sat.Mv.alloc ?_ _ | with_reducible refine Sat.Mv.drew ?_ | with_reducible refine Sat.Mv.drewN ?_ _ | with_reducible refine Sat.Mv.set ?_ ?_ _)) <;> (first | exact Or.inl (Or.inl rfl) | exact Or.inl (Or.inr rfl) | exact Or.inl rfl | (refine Or.inr ?_; (try simp); omega) | (refine Or.inl ?_; (try simp); omega))
      rintro e w2 ⟨⟨he, b2⟩, sg⟩
      rw [decide_eq_false Hx1.out] at he
      subst he
      have m2 : MvR g _ w2 := Sat.Mv.below b2
      have q2 : Q w2 g lo en dp st := (HQ1.out.mv sg (fun b hb => by have hb : b = w.heap.size := hb; omega)).below b2
      have z1 := m2.size
      try simp at z1
      have HS1 := hide (seg sg m2)
      have HQ2 := hide q2
      have hB : Blk 49 w2 (w.heap.size) #[.string ByteArray.empty, .string ByteArray.empty, .slice none 0 0, .slice none 0 0, .int .i64 0] := m2.blk (by (repeat' (first | with_reducible exact HB.out | with_reducible refine Blk.alloc ?_ _ | with_reducible refine Blk.drewN ?_ _ | with_reducible refine Blk.other ?_ ?_ _ | exact HB.out)) <;> (first | (simp; omega) | simp | omega)) (by omega)
      clear HB
      have HB := hide hB
      clear hB
      have hL : Blk 43 w2 (w1.heap.size) #[.int .i64 ((Syn.hd en st).k : Nat), .string (tx (Syn.hd en st).x), .int .i64 ((Syn.hd en st).a : Nat)] := m2.blk (by (repeat' (first | exact Blk.new _ _ _ | with_reducible refine Blk.alloc ?_ _ | with_reducible refine Blk.drewN ?_ _ | with_reducible refine Blk.other ?_ ?_ _)) <;> (first | (simp; omega) | simp | omega)) (by omega)
      have HL0 := hide hL
      clear hL
      obtain ⟨l0_0, l0_1, l0_2, f0_0, f0_1, f0_2⟩ := bk3 HL0.out
      clear m2 q2 sg b2
      go_wp2_with fail
      refine (step_q (fun b => b = w.heap.size) (wk := w2) ?_ HQ2.out (fun b hb => by have hb : b = w.heap.size := hb; omega) (fun wz qz => take_q wz g lo en dp st qz (by exact hd_ne (by decide) Hy8.out))).mono ?_
      · (repeat' (first | with_reducible exact Sat.Mv.refl _ _ | with_reducible refine Sat.Mv.alloc ?_ _ | with_reducible refine Sat.Mv.drew ?_ | with_reducible refine Sat.Mv.drewN ?_ _ | with_reducible refine Sat.Mv.set ?_ ?_ _)) <;> (first | exact Or.inl (Or.inl rfl) | exact Or.inl (Or.inr rfl) | exact Or.inl rfl | (refine Or.inr ?_; (try simp); omega) | (refine Or.inl ?_; (try simp); omega))
      rintro e w3 ⟨⟨rfl, q2, m2⟩, sg⟩
      have z2 := m2.size
      try simp at z2
      have HS2 := hide (seg sg m2)
      have HQ3 := hide q2
      have hB : Blk 49 w3 (w.heap.size) #[.string ByteArray.empty, .string ByteArray.empty, .slice none 0 0, .slice none 0 0, .int .i64 0] := m2.blk (by (repeat' (first | with_reducible exact HB.out | with_reducible refine Blk.alloc ?_ _ | with_reducible refine Blk.drewN ?_ _ | with_reducible refine Blk.other ?_ ?_ _ | exact HB.out)) <;> (first | (simp; omega) | simp | omega)) (by omega)
      clear HB
      have HB := hide hB
      clear hB
      have hL : Blk 43 w3 (w1.heap.size) #[.int .i64 ((Syn.hd en st).k : Nat), .string (tx (Syn.hd en st).x), .int .i64 ((Syn.hd en st).a : Nat)] := m2.blk (by (repeat' (first | with_reducible exact HL0.out | with_reducible refine Blk.alloc ?_ _ | with_reducible refine Blk.drewN ?_ _ | with_reducible refine Blk.other ?_ ?_ _ | exact HL0.out)) <;> (first | (simp; omega) | simp | omega)) (by omega)
      clear HL0 l0_0 l0_1 l0_2 f0_0 f0_1 f0_2
      have HL0 := hide hL
      clear hL
      obtain ⟨l0_0, l0_1, l0_2, f0_0, f0_1, f0_2⟩ := bk3 HL0.out
      clear m2 q2 sg
      simp only [TV]
      have F12 := fun w => field_text (tx (Syn.hd en st).x) (Syn.hd en st).k (Syn.hd en st).a w
      have F22 := fun w => field_place (tx (Syn.hd en st).x) (Syn.hd en st).k (Syn.hd en st).a w
      go_wp2_with fail
      refine (step_q (fun b => b = w.heap.size) (wk := w3) ?_ HQ3.out (fun b hb => by have hb : b = w.heap.size := hb; omega) (fun wz qz => want_q ([40] : List UInt8) (by decide) wz g lo en dp st.tail qz)).mono ?_
      · (repeat' (first | with_reducible exact Sat.Mv.refl _ _ | with_reducible refine Sat.Mv.alloc ?_ _ | with_reducible refine Sat.Mv.drew ?_ | with_reducible refine Sat.Mv.drewN ?_ _ | with_reducible refine Sat.Mv.set ?_ ?_ _)) <;> (first | exact Or.inl (Or.inl rfl) | exact Or.inl (Or.inr rfl) | exact Or.inl rfl | (refine Or.inr ?_; (try simp); omega) | (refine Or.inl ?_; (try simp); omega))
      rintro e w4 ⟨⟨m2, ⟨-, rfl, q2⟩ | ⟨hno, -⟩⟩, sg⟩
      case inr => exact absurd Hx3.out hno
      have z3 := m2.size
      try simp at z3
      have HS3 := hide (seg sg m2)
      have HQ4 := hide q2
      have hB : Blk 49 w4 (w.heap.size) #[.string ByteArray.empty, .string ByteArray.empty, .slice none 0 0, .slice none 0 0, .int .i64 0] := m2.blk (by (repeat' (first | with_reducible exact HB.out | with_reducible refine Blk.alloc ?_ _ | with_reducible refine Blk.drewN ?_ _ | with_reducible refine Blk.other ?_ ?_ _ | exact HB.out)) <;> (first | (simp; omega) | simp | omega)) (by omega)
      clear HB
      have HB := hide hB
      clear hB
      have hL : Blk 43 w4 (w1.heap.size) #[.int .i64 ((Syn.hd en st).k : Nat), .string (tx (Syn.hd en st).x), .int .i64 ((Syn.hd en st).a : Nat)] := m2.blk (by (repeat' (first | with_reducible exact HL0.out | with_reducible refine Blk.alloc ?_ _ | with_reducible refine Blk.drewN ?_ _ | with_reducible refine Blk.other ?_ ?_ _ | exact HL0.out)) <;> (first | (simp; omega) | simp | omega)) (by omega)
      clear HL0 l0_0 l0_1 l0_2 f0_0 f0_1 f0_2
      have HL0 := hide hL
      clear hL
      obtain ⟨l0_0, l0_1, l0_2, f0_0, f0_1, f0_2⟩ := bk3 HL0.out
      clear m2 q2 sg
      go_wp2_with fail
      refine (step_q (fun b => b = w.heap.size) (wk := w4) ?_ HQ4.out (fun b hb => by have hb : b = w.heap.size := hb; omega) (fun wz qz => want_q ([41] : List UInt8) (by decide) wz g lo en dp st.tail.tail qz)).mono ?_
      · (repeat' (first | with_reducible exact Sat.Mv.refl _ _ | with_reducible refine Sat.Mv.alloc ?_ _ | with_reducible refine Sat.Mv.drew ?_ | with_reducible refine Sat.Mv.drewN ?_ _ | with_reducible refine Sat.Mv.set ?_ ?_ _)) <;> (first | exact Or.inl (Or.inl rfl) | exact Or.inl (Or.inr rfl) | exact Or.inl rfl | (refine Or.inr ?_; (try simp); omega) | (refine Or.inl ?_; (try simp); omega))
      rintro e w5 ⟨⟨m2, ⟨hyes, -, -⟩ | ⟨-, rfl⟩⟩, sg⟩
      case inl => exact absurd hyes Hx4.out
      go_wp2
      refine ⟨rfl, ?_⟩
      rw [HRR.out]
      refine ⟨Mv.out (mvt (mvt (mvt (mvt HS0.out HS1.out) HS2.out) HS3.out) (seg sg m2)) (fun b hb => by have hb : b = g ∨ b = w.heap.size := hb; omega), rfl⟩
    rw [if_pos x4] at hRR
    have hI0 : ¬ (((Syn.hd en st).k : Nat) : Int) = 2 := by omega
    have Hy0 := hide y0
    clear y0
    have hI1 : ((tx (Syn.hd en st).x).toList == ([116, 114, 117, 101] : List UInt8)) = false := by rw [Lex.eqT, Lex.bs_tx]; exact decide_eq_false y1
    have Hy1 := hide y1
    clear y1
    have hI2 : ((tx (Syn.hd en st).x).toList == ([102, 97, 108, 115, 101] : List UInt8)) = false := by rw [Lex.eqT, Lex.bs_tx]; exact decide_eq_false y2
    have Hy2 := hide y2
    clear y2
    have hI3 : ((tx (Syn.hd en st).x).toList == ([110, 117, 108, 108] : List UInt8)) = false := by rw [Lex.eqT, Lex.bs_tx]; exact decide_eq_false y3
    have Hy3 := hide y3
    clear y3
    have hI4 : ((tx (Syn.hd en st).x).toList == ([116, 104, 105, 115] : List UInt8)) = false := by rw [Lex.eqT, Lex.bs_tx]; exact decide_eq_false y4
    have Hy4 := hide y4
    clear y4
    have hI5 : ((tx (Syn.hd en st).x).toList == ([110, 101, 119] : List UInt8)) = false := by rw [Lex.eqT, Lex.bs_tx]; exact decide_eq_false y5
    have Hy5 := hide y5
    clear y5
    have hI6 : ((tx (Syn.hd en st).x).toList == ([108, 105, 115, 116] : List UInt8)) = false := by rw [Lex.eqT, Lex.bs_tx]; exact decide_eq_false y6
    have Hy6 := hide y6
    clear y6
    have hI7 : ((tx (Syn.hd en st).x).toList == ([108, 101, 110] : List UInt8)) = false := by rw [Lex.eqT, Lex.bs_tx]; exact decide_eq_false y7
    have Hy7 := hide y7
    clear y7
    have hI8 : ((tx (Syn.hd en st).x).toList == ([114, 101, 97, 100] : List UInt8)) = true := by rw [Lex.eqT, Lex.bs_tx]; exact decide_eq_true y8
    have Hy8 := hide y8
    clear y8
    have Hx1 := hide x1
    clear x1
    have Hx3 := hide x3
    clear x3
    have Hx4 := hide x4
    clear x4
    have HRR := hide hRR
    clear hRR
    go_enter Tryz.func192, Tryz.ntmps192
    go_wp2_with fail
    refine (step_q (fun b => b = w.heap.size) (wk := w) ?_ HQ0.out (fun b hb => by have hb : b = w.heap.size := hb; omega) (fun wz qz => next_q wz g lo en dp st qz)).mono ?_
    · (repeat' (first | with_reducible exact Sat.Mv.refl _ _ | with_reducible refine Sat.Mv.alloc ?_ _ | with_reducible refine Sat.Mv.drew ?_ | with_reducible refine Sat.Mv.drewN ?_ _ | with_reducible refine Sat.Mv.set ?_ ?_ _)) <;> (first | exact Or.inl (Or.inl rfl) | exact Or.inl (Or.inr rfl) | exact Or.inl rfl | (refine Or.inr ?_; (try simp); omega) | (refine Or.inl ?_; (try simp); omega))
    rintro e w1 ⟨⟨rfl, b2⟩, sg⟩
    have m2 : MvR g _ w1 := Sat.Mv.below b2
    have q2 : Q w1 g lo en dp st := (HQ0.out.mv sg (fun b hb => by have hb : b = w.heap.size := hb; omega)).below b2
    have z0 := m2.size
    try simp at z0
    have HS0 := hide (seg sg m2)
    have HQ1 := hide q2
    have hB : Blk 49 w1 (w.heap.size) #[.string ByteArray.empty, .string ByteArray.empty, .slice none 0 0, .slice none 0 0, .int .i64 0] := m2.blk (by (repeat' (first | exact Blk.new _ _ _ | with_reducible refine Blk.alloc ?_ _ | with_reducible refine Blk.drewN ?_ _ | with_reducible refine Blk.other ?_ ?_ _)) <;> (first | (simp; omega) | simp | omega)) (by omega)
    have HB := hide hB
    clear hB
    clear m2 q2 sg b2
    simp only [TV]
    have F10 := fun w => field_text (tx (Syn.hd en st).x) (Syn.hd en st).k (Syn.hd en st).a w
    have F20 := fun w => field_place (tx (Syn.hd en st).x) (Syn.hd en st).k (Syn.hd en st).a w
    go_wp2_with fail
    refine (step_isname (fun b => b = w.heap.size) (wk := w1) ?_ HQ1.out (fun b hb => by have hb : b = w.heap.size := hb; omega)).mono ?_
    · (repeat' (first | with_reducible exact Sat.Mv.refl _ _ | with_reducible refine Sat.Mv.alloc ?_ _ | with_reducible refine Sat.Mv.drew ?_ | with_reducible refine Sat.Mv.drewN ?_ _ | with_reducible refine Sat.Mv.set ?_ ?_ _)) <;> (first | exact Or.inl (Or.inl rfl) | exact Or.inl (Or.inr rfl) | exact Or.inl rfl | (refine Or.inr ?_; (try simp); omega) | (refine Or.inl ?_; (try simp); omega))
    rintro e w2 ⟨⟨he, b2⟩, sg⟩
    rw [decide_eq_false Hx1.out] at he
    subst he
    have m2 : MvR g _ w2 := Sat.Mv.below b2
    have q2 : Q w2 g lo en dp st := (HQ1.out.mv sg (fun b hb => by have hb : b = w.heap.size := hb; omega)).below b2
    have z1 := m2.size
    try simp at z1
    have HS1 := hide (seg sg m2)
    have HQ2 := hide q2
    have hB : Blk 49 w2 (w.heap.size) #[.string ByteArray.empty, .string ByteArray.empty, .slice none 0 0, .slice none 0 0, .int .i64 0] := m2.blk (by (repeat' (first | with_reducible exact HB.out | with_reducible refine Blk.alloc ?_ _ | with_reducible refine Blk.drewN ?_ _ | with_reducible refine Blk.other ?_ ?_ _ | exact HB.out)) <;> (first | (simp; omega) | simp | omega)) (by omega)
    clear HB
    have HB := hide hB
    clear hB
    have hL : Blk 43 w2 (w1.heap.size) #[.int .i64 ((Syn.hd en st).k : Nat), .string (tx (Syn.hd en st).x), .int .i64 ((Syn.hd en st).a : Nat)] := m2.blk (by (repeat' (first | exact Blk.new _ _ _ | with_reducible refine Blk.alloc ?_ _ | with_reducible refine Blk.drewN ?_ _ | with_reducible refine Blk.other ?_ ?_ _)) <;> (first | (simp; omega) | simp | omega)) (by omega)
    have HL0 := hide hL
    clear hL
    obtain ⟨l0_0, l0_1, l0_2, f0_0, f0_1, f0_2⟩ := bk3 HL0.out
    clear m2 q2 sg b2
    go_wp2_with fail
    refine (step_q (fun b => b = w.heap.size) (wk := w2) ?_ HQ2.out (fun b hb => by have hb : b = w.heap.size := hb; omega) (fun wz qz => take_q wz g lo en dp st qz (by exact hd_ne (by decide) Hy8.out))).mono ?_
    · (repeat' (first | with_reducible exact Sat.Mv.refl _ _ | with_reducible refine Sat.Mv.alloc ?_ _ | with_reducible refine Sat.Mv.drew ?_ | with_reducible refine Sat.Mv.drewN ?_ _ | with_reducible refine Sat.Mv.set ?_ ?_ _)) <;> (first | exact Or.inl (Or.inl rfl) | exact Or.inl (Or.inr rfl) | exact Or.inl rfl | (refine Or.inr ?_; (try simp); omega) | (refine Or.inl ?_; (try simp); omega))
    rintro e w3 ⟨⟨rfl, q2, m2⟩, sg⟩
    have z2 := m2.size
    try simp at z2
    have HS2 := hide (seg sg m2)
    have HQ3 := hide q2
    have hB : Blk 49 w3 (w.heap.size) #[.string ByteArray.empty, .string ByteArray.empty, .slice none 0 0, .slice none 0 0, .int .i64 0] := m2.blk (by (repeat' (first | with_reducible exact HB.out | with_reducible refine Blk.alloc ?_ _ | with_reducible refine Blk.drewN ?_ _ | with_reducible refine Blk.other ?_ ?_ _ | exact HB.out)) <;> (first | (simp; omega) | simp | omega)) (by omega)
    clear HB
    have HB := hide hB
    clear hB
    have hL : Blk 43 w3 (w1.heap.size) #[.int .i64 ((Syn.hd en st).k : Nat), .string (tx (Syn.hd en st).x), .int .i64 ((Syn.hd en st).a : Nat)] := m2.blk (by (repeat' (first | with_reducible exact HL0.out | with_reducible refine Blk.alloc ?_ _ | with_reducible refine Blk.drewN ?_ _ | with_reducible refine Blk.other ?_ ?_ _ | exact HL0.out)) <;> (first | (simp; omega) | simp | omega)) (by omega)
    clear HL0 l0_0 l0_1 l0_2 f0_0 f0_1 f0_2
    have HL0 := hide hL
    clear hL
    obtain ⟨l0_0, l0_1, l0_2, f0_0, f0_1, f0_2⟩ := bk3 HL0.out
    clear m2 q2 sg
    simp only [TV]
    have F12 := fun w => field_text (tx (Syn.hd en st).x) (Syn.hd en st).k (Syn.hd en st).a w
    have F22 := fun w => field_place (tx (Syn.hd en st).x) (Syn.hd en st).k (Syn.hd en st).a w
    go_wp2_with fail
    refine (step_q (fun b => b = w.heap.size) (wk := w3) ?_ HQ3.out (fun b hb => by have hb : b = w.heap.size := hb; omega) (fun wz qz => want_q ([40] : List UInt8) (by decide) wz g lo en dp st.tail qz)).mono ?_
    · (repeat' (first | with_reducible exact Sat.Mv.refl _ _ | with_reducible refine Sat.Mv.alloc ?_ _ | with_reducible refine Sat.Mv.drew ?_ | with_reducible refine Sat.Mv.drewN ?_ _ | with_reducible refine Sat.Mv.set ?_ ?_ _)) <;> (first | exact Or.inl (Or.inl rfl) | exact Or.inl (Or.inr rfl) | exact Or.inl rfl | (refine Or.inr ?_; (try simp); omega) | (refine Or.inl ?_; (try simp); omega))
    rintro e w4 ⟨⟨m2, ⟨-, rfl, q2⟩ | ⟨hno, -⟩⟩, sg⟩
    case inr => exact absurd Hx3.out hno
    have z3 := m2.size
    try simp at z3
    have HS3 := hide (seg sg m2)
    have HQ4 := hide q2
    have hB : Blk 49 w4 (w.heap.size) #[.string ByteArray.empty, .string ByteArray.empty, .slice none 0 0, .slice none 0 0, .int .i64 0] := m2.blk (by (repeat' (first | with_reducible exact HB.out | with_reducible refine Blk.alloc ?_ _ | with_reducible refine Blk.drewN ?_ _ | with_reducible refine Blk.other ?_ ?_ _ | exact HB.out)) <;> (first | (simp; omega) | simp | omega)) (by omega)
    clear HB
    have HB := hide hB
    clear hB
    have hL : Blk 43 w4 (w1.heap.size) #[.int .i64 ((Syn.hd en st).k : Nat), .string (tx (Syn.hd en st).x), .int .i64 ((Syn.hd en st).a : Nat)] := m2.blk (by (repeat' (first | with_reducible exact HL0.out | with_reducible refine Blk.alloc ?_ _ | with_reducible refine Blk.drewN ?_ _ | with_reducible refine Blk.other ?_ ?_ _ | exact HL0.out)) <;> (first | (simp; omega) | simp | omega)) (by omega)
    clear HL0 l0_0 l0_1 l0_2 f0_0 f0_1 f0_2
    have HL0 := hide hL
    clear hL
    obtain ⟨l0_0, l0_1, l0_2, f0_0, f0_1, f0_2⟩ := bk3 HL0.out
    clear m2 q2 sg
    go_wp2_with fail
    refine (step_q (fun b => b = w.heap.size) (wk := w4) ?_ HQ4.out (fun b hb => by have hb : b = w.heap.size := hb; omega) (fun wz qz => want_q ([41] : List UInt8) (by decide) wz g lo en dp st.tail.tail qz)).mono ?_
    · (repeat' (first | with_reducible exact Sat.Mv.refl _ _ | with_reducible refine Sat.Mv.alloc ?_ _ | with_reducible refine Sat.Mv.drew ?_ | with_reducible refine Sat.Mv.drewN ?_ _ | with_reducible refine Sat.Mv.set ?_ ?_ _)) <;> (first | exact Or.inl (Or.inl rfl) | exact Or.inl (Or.inr rfl) | exact Or.inl rfl | (refine Or.inr ?_; (try simp); omega) | (refine Or.inl ?_; (try simp); omega))
    rintro e w5 ⟨⟨m2, ⟨-, rfl, q2⟩ | ⟨hno, -⟩⟩, sg⟩
    case inr => exact absurd Hx4.out hno
    have z4 := m2.size
    try simp at z4
    have HS4 := hide (seg sg m2)
    have HQ5 := hide q2
    have hB : Blk 49 w5 (w.heap.size) #[.string ByteArray.empty, .string ByteArray.empty, .slice none 0 0, .slice none 0 0, .int .i64 0] := m2.blk (by (repeat' (first | with_reducible exact HB.out | with_reducible refine Blk.alloc ?_ _ | with_reducible refine Blk.drewN ?_ _ | with_reducible refine Blk.other ?_ ?_ _ | exact HB.out)) <;> (first | (simp; omega) | simp | omega)) (by omega)
    clear HB
    have HB := hide hB
    clear hB
    have hL : Blk 43 w5 (w1.heap.size) #[.int .i64 ((Syn.hd en st).k : Nat), .string (tx (Syn.hd en st).x), .int .i64 ((Syn.hd en st).a : Nat)] := m2.blk (by (repeat' (first | with_reducible exact HL0.out | with_reducible refine Blk.alloc ?_ _ | with_reducible refine Blk.drewN ?_ _ | with_reducible refine Blk.other ?_ ?_ _ | exact HL0.out)) <;> (first | (simp; omega) | simp | omega)) (by omega)
    clear HL0 l0_0 l0_1 l0_2 f0_0 f0_1 f0_2
    have HL0 := hide hL
    clear hL
    obtain ⟨l0_0, l0_1, l0_2, f0_0, f0_1, f0_2⟩ := bk3 HL0.out
    clear m2 q2 sg
    go_wp2_with ((show wpList _ _ _ _ _ _); refine store_blk rfl 49 (.tmp 2) (.tmp 57) rfl (w.heap.size) _ rfl rfl 49 #[.string ByteArray.empty, .string ByteArray.empty, .slice none 0 0, .slice none 0 0, .int .i64 0] (by (repeat' (first | with_reducible exact HB.out | with_reducible refine Blk.alloc ?_ _ | with_reducible refine Blk.drewN ?_ _ | with_reducible refine Blk.other ?_ ?_ _ | exact HB.out)) <;> (first | (simp; omega) | simp | omega)) (by kernel_rfl) rfl rfl ?_; intro wf b2 m2; have HE := hide (show Sat.Mv (fun b => b = w.heap.size) w5 wf from mvt (by (repeat' (first | with_reducible exact Sat.Mv.refl _ _ | with_reducible refine Sat.Mv.alloc ?_ _ | with_reducible refine Sat.Mv.drew ?_ | with_reducible refine Sat.Mv.drewN ?_ _ | with_reducible refine Sat.Mv.set ?_ ?_ _)) <;> (first | exact Or.inl (Or.inl rfl) | exact Or.inl (Or.inr rfl) | exact Or.inl rfl | (refine Or.inr ?_; (try simp); omega) | (refine Or.inl ?_; (try simp); omega))) (Mv.wide m2 (fun b hb => hb))); have HM := hide m2; obtain ⟨c0, c1, c2, c3, c4, k0, k1, k2, k3, k4⟩ := bk5 b2; clear m2 b2)
    refine bodyPost_ret (v := .agg #[.string { data := #[114, 101, 97, 100] }, .string { data := #[] }, .slice none 0 0, .slice none 0 0, .int .i64 ((Syn.hd en st).a : Nat)]) (by simp [results, Tryz.results192, go_sem, c0, c1, c2, c3, c4]) rfl ?_
    rw [HRR.out]
    exact ans_fin (fun b => b = w.heap.size) HE.out (mvt (mvt (mvt (mvt HS0.out HS1.out) HS2.out) HS3.out) HS4.out) (fun b hb => by have hb : b = g ∨ b = w.heap.size := hb; omega) HQ5.out (fun b hb => by have hb : b = w.heap.size := hb; omega) ⟨_, _, _, _, _, _, _, rfl, rfl, X.nil _ _ _, X.nil _ _ _⟩
  rw [if_neg y8] at hRR
  by_cases y9 : (Syn.hd en st).x = ([40] : List UInt8)
  case pos =>
    rw [if_pos y9] at hRR
    have HC2 : Hid (∀ w1, Q w1 g lo en dp st → P en N .inRound dp st ≠ .out → Calls Tryz.prog 177 #[.pointer (some ⟨g, 0, none⟩)] w1 fun e w' => Ans (ShL 0) w1 g lo en dp e w' (P en N .inRound dp st)) := fun w1 q1 hn => hinRound w1 dp st q1 hn
    have HP2 := hide <| inRound1 en N dp st
    generalize P en N .inRound dp st = E2 at hRR HC2 HP2
    cases E2 with
    | out => exact absurd hRR hne
    | bad cc a =>
      have hI0 : ¬ (((Syn.hd en st).k : Nat) : Int) = 2 := by omega
      have Hy0 := hide y0
      clear y0
      have hI1 : ((tx (Syn.hd en st).x).toList == ([116, 114, 117, 101] : List UInt8)) = false := by rw [Lex.eqT, Lex.bs_tx]; exact decide_eq_false y1
      have Hy1 := hide y1
      clear y1
      have hI2 : ((tx (Syn.hd en st).x).toList == ([102, 97, 108, 115, 101] : List UInt8)) = false := by rw [Lex.eqT, Lex.bs_tx]; exact decide_eq_false y2
      have Hy2 := hide y2
      clear y2
      have hI3 : ((tx (Syn.hd en st).x).toList == ([110, 117, 108, 108] : List UInt8)) = false := by rw [Lex.eqT, Lex.bs_tx]; exact decide_eq_false y3
      have Hy3 := hide y3
      clear y3
      have hI4 : ((tx (Syn.hd en st).x).toList == ([116, 104, 105, 115] : List UInt8)) = false := by rw [Lex.eqT, Lex.bs_tx]; exact decide_eq_false y4
      have Hy4 := hide y4
      clear y4
      have hI5 : ((tx (Syn.hd en st).x).toList == ([110, 101, 119] : List UInt8)) = false := by rw [Lex.eqT, Lex.bs_tx]; exact decide_eq_false y5
      have Hy5 := hide y5
      clear y5
      have hI6 : ((tx (Syn.hd en st).x).toList == ([108, 105, 115, 116] : List UInt8)) = false := by rw [Lex.eqT, Lex.bs_tx]; exact decide_eq_false y6
      have Hy6 := hide y6
      clear y6
      have hI7 : ((tx (Syn.hd en st).x).toList == ([108, 101, 110] : List UInt8)) = false := by rw [Lex.eqT, Lex.bs_tx]; exact decide_eq_false y7
      have Hy7 := hide y7
      clear y7
      have hI8 : ((tx (Syn.hd en st).x).toList == ([114, 101, 97, 100] : List UInt8)) = false := by rw [Lex.eqT, Lex.bs_tx]; exact decide_eq_false y8
      have Hy8 := hide y8
      clear y8
      have hI9 : ((tx (Syn.hd en st).x).toList == ([40] : List UInt8)) = true := by rw [Lex.eqT, Lex.bs_tx]; exact decide_eq_true y9
      have Hy9 := hide y9
      clear y9
      have Hx1 := hide x1
      clear x1
      have HRR := hide hRR
      clear hRR
      go_enter Tryz.func192, Tryz.ntmps192
      go_wp2_with fail
      refine (step_q (fun b => b = w.heap.size) (wk := w) ?_ HQ0.out (fun b hb => by have hb : b = w.heap.size := hb; omega) (fun wz qz => next_q wz g lo en dp st qz)).mono ?_
      · (repeat' (first | with_reducible exact Sat.Mv.refl _ _ | with_reducible refine Sat.Mv.alloc ?_ _ | with_reducible refine Sat.Mv.drew ?_ | with_reducible refine Sat.Mv.drewN ?_ _ | with_reducible refine Sat.Mv.set ?_ ?_ _)) <;> (first | exact Or.inl (Or.inl rfl) | exact Or.inl (Or.inr rfl) | exact Or.inl rfl | (refine Or.inr ?_; (try simp); omega) | (refine Or.inl ?_; (try simp); omega))
      rintro e w1 ⟨⟨rfl, b2⟩, sg⟩
      have m2 : MvR g _ w1 := Sat.Mv.below b2
      have q2 : Q w1 g lo en dp st := (HQ0.out.mv sg (fun b hb => by have hb : b = w.heap.size := hb; omega)).below b2
      have z0 := m2.size
      try simp at z0
      have HS0 := hide (seg sg m2)
      have HQ1 := hide q2
      have hB : Blk 49 w1 (w.heap.size) #[.string ByteArray.empty, .string ByteArray.empty, .slice none 0 0, .slice none 0 0, .int .i64 0] := m2.blk (by (repeat' (first | exact Blk.new _ _ _ | with_reducible refine Blk.alloc ?_ _ | with_reducible refine Blk.drewN ?_ _ | with_reducible refine Blk.other ?_ ?_ _)) <;> (first | (simp; omega) | simp | omega)) (by omega)
      have HB := hide hB
      clear hB
      clear m2 q2 sg b2
      simp only [TV]
      have F10 := fun w => field_text (tx (Syn.hd en st).x) (Syn.hd en st).k (Syn.hd en st).a w
      have F20 := fun w => field_place (tx (Syn.hd en st).x) (Syn.hd en st).k (Syn.hd en st).a w
      go_wp2_with fail
      refine (step_isname (fun b => b = w.heap.size) (wk := w1) ?_ HQ1.out (fun b hb => by have hb : b = w.heap.size := hb; omega)).mono ?_
      · (repeat' (first | with_reducible exact Sat.Mv.refl _ _ | with_reducible refine Sat.Mv.alloc ?_ _ | with_reducible refine Sat.Mv.drew ?_ | with_reducible refine Sat.Mv.drewN ?_ _ | with_reducible refine Sat.Mv.set ?_ ?_ _)) <;> (first | exact Or.inl (Or.inl rfl) | exact Or.inl (Or.inr rfl) | exact Or.inl rfl | (refine Or.inr ?_; (try simp); omega) | (refine Or.inl ?_; (try simp); omega))
      rintro e w2 ⟨⟨he, b2⟩, sg⟩
      rw [decide_eq_false Hx1.out] at he
      subst he
      have m2 : MvR g _ w2 := Sat.Mv.below b2
      have q2 : Q w2 g lo en dp st := (HQ1.out.mv sg (fun b hb => by have hb : b = w.heap.size := hb; omega)).below b2
      have z1 := m2.size
      try simp at z1
      have HS1 := hide (seg sg m2)
      have HQ2 := hide q2
      have hB : Blk 49 w2 (w.heap.size) #[.string ByteArray.empty, .string ByteArray.empty, .slice none 0 0, .slice none 0 0, .int .i64 0] := m2.blk (by (repeat' (first | with_reducible exact HB.out | with_reducible refine Blk.alloc ?_ _ | with_reducible refine Blk.drewN ?_ _ | with_reducible refine Blk.other ?_ ?_ _ | exact HB.out)) <;> (first | (simp; omega) | simp | omega)) (by omega)
      clear HB
      have HB := hide hB
      clear hB
      have hL : Blk 43 w2 (w1.heap.size) #[.int .i64 ((Syn.hd en st).k : Nat), .string (tx (Syn.hd en st).x), .int .i64 ((Syn.hd en st).a : Nat)] := m2.blk (by (repeat' (first | exact Blk.new _ _ _ | with_reducible refine Blk.alloc ?_ _ | with_reducible refine Blk.drewN ?_ _ | with_reducible refine Blk.other ?_ ?_ _)) <;> (first | (simp; omega) | simp | omega)) (by omega)
      have HL0 := hide hL
      clear hL
      obtain ⟨l0_0, l0_1, l0_2, f0_0, f0_1, f0_2⟩ := bk3 HL0.out
      clear m2 q2 sg b2
      go_wp2_with fail
      refine (step_q (fun b => b = w.heap.size) (wk := w2) ?_ HQ2.out (fun b hb => by have hb : b = w.heap.size := hb; omega) (fun wz qz => HC2.out wz qz (fun e => by cases e))).mono ?_
      · (repeat' (first | with_reducible exact Sat.Mv.refl _ _ | with_reducible refine Sat.Mv.alloc ?_ _ | with_reducible refine Sat.Mv.drew ?_ | with_reducible refine Sat.Mv.drewN ?_ _ | with_reducible refine Sat.Mv.set ?_ ?_ _)) <;> (first | exact Or.inl (Or.inl rfl) | exact Or.inl (Or.inr rfl) | exact Or.inl rfl | (refine Or.inr ?_; (try simp); omega) | (refine Or.inl ?_; (try simp); omega))
      rintro e w3 ⟨⟨m2, rfl⟩, sg⟩
      go_wp2
      refine ⟨rfl, ?_⟩
      rw [HRR.out]
      refine ⟨Mv.out (mvt (mvt HS0.out HS1.out) (seg sg m2)) (fun b hb => by have hb : b = g ∨ b = w.heap.size := hb; omega), rfl⟩
    | ok r2 s2 =>
      try simp only [Res.to_ok] at hRR
      obtain ⟨op2, nm2, args2, tys2, p2, rfl⟩ := HP2.out r2 s2 rfl
      have hI0 : ¬ (((Syn.hd en st).k : Nat) : Int) = 2 := by omega
      have Hy0 := hide y0
      clear y0
      have hI1 : ((tx (Syn.hd en st).x).toList == ([116, 114, 117, 101] : List UInt8)) = false := by rw [Lex.eqT, Lex.bs_tx]; exact decide_eq_false y1
      have Hy1 := hide y1
      clear y1
      have hI2 : ((tx (Syn.hd en st).x).toList == ([102, 97, 108, 115, 101] : List UInt8)) = false := by rw [Lex.eqT, Lex.bs_tx]; exact decide_eq_false y2
      have Hy2 := hide y2
      clear y2
      have hI3 : ((tx (Syn.hd en st).x).toList == ([110, 117, 108, 108] : List UInt8)) = false := by rw [Lex.eqT, Lex.bs_tx]; exact decide_eq_false y3
      have Hy3 := hide y3
      clear y3
      have hI4 : ((tx (Syn.hd en st).x).toList == ([116, 104, 105, 115] : List UInt8)) = false := by rw [Lex.eqT, Lex.bs_tx]; exact decide_eq_false y4
      have Hy4 := hide y4
      clear y4
      have hI5 : ((tx (Syn.hd en st).x).toList == ([110, 101, 119] : List UInt8)) = false := by rw [Lex.eqT, Lex.bs_tx]; exact decide_eq_false y5
      have Hy5 := hide y5
      clear y5
      have hI6 : ((tx (Syn.hd en st).x).toList == ([108, 105, 115, 116] : List UInt8)) = false := by rw [Lex.eqT, Lex.bs_tx]; exact decide_eq_false y6
      have Hy6 := hide y6
      clear y6
      have hI7 : ((tx (Syn.hd en st).x).toList == ([108, 101, 110] : List UInt8)) = false := by rw [Lex.eqT, Lex.bs_tx]; exact decide_eq_false y7
      have Hy7 := hide y7
      clear y7
      have hI8 : ((tx (Syn.hd en st).x).toList == ([114, 101, 97, 100] : List UInt8)) = false := by rw [Lex.eqT, Lex.bs_tx]; exact decide_eq_false y8
      have Hy8 := hide y8
      clear y8
      have hI9 : ((tx (Syn.hd en st).x).toList == ([40] : List UInt8)) = true := by rw [Lex.eqT, Lex.bs_tx]; exact decide_eq_true y9
      have Hy9 := hide y9
      clear y9
      have Hx1 := hide x1
      clear x1
      have HRR := hide hRR
      clear hRR
      go_enter Tryz.func192, Tryz.ntmps192
      go_wp2_with fail
      refine (step_q (fun b => b = w.heap.size) (wk := w) ?_ HQ0.out (fun b hb => by have hb : b = w.heap.size := hb; omega) (fun wz qz => next_q wz g lo en dp st qz)).mono ?_
      · (repeat' (first | with_reducible exact Sat.Mv.refl _ _ | with_reducible refine Sat.Mv.alloc ?_ _ | with_reducible refine Sat.Mv.drew ?_ | with_reducible refine Sat.Mv.drewN ?_ _ | with_reducible refine Sat.Mv.set ?_ ?_ _)) <;> (first | exact Or.inl (Or.inl rfl) | exact Or.inl (Or.inr rfl) | exact Or.inl rfl | (refine Or.inr ?_; (try simp); omega) | (refine Or.inl ?_; (try simp); omega))
      rintro e w1 ⟨⟨rfl, b2⟩, sg⟩
      have m2 : MvR g _ w1 := Sat.Mv.below b2
      have q2 : Q w1 g lo en dp st := (HQ0.out.mv sg (fun b hb => by have hb : b = w.heap.size := hb; omega)).below b2
      have z0 := m2.size
      try simp at z0
      have HS0 := hide (seg sg m2)
      have HQ1 := hide q2
      have hB : Blk 49 w1 (w.heap.size) #[.string ByteArray.empty, .string ByteArray.empty, .slice none 0 0, .slice none 0 0, .int .i64 0] := m2.blk (by (repeat' (first | exact Blk.new _ _ _ | with_reducible refine Blk.alloc ?_ _ | with_reducible refine Blk.drewN ?_ _ | with_reducible refine Blk.other ?_ ?_ _)) <;> (first | (simp; omega) | simp | omega)) (by omega)
      have HB := hide hB
      clear hB
      clear m2 q2 sg b2
      simp only [TV]
      have F10 := fun w => field_text (tx (Syn.hd en st).x) (Syn.hd en st).k (Syn.hd en st).a w
      have F20 := fun w => field_place (tx (Syn.hd en st).x) (Syn.hd en st).k (Syn.hd en st).a w
      go_wp2_with fail
      refine (step_isname (fun b => b = w.heap.size) (wk := w1) ?_ HQ1.out (fun b hb => by have hb : b = w.heap.size := hb; omega)).mono ?_
      · (repeat' (first | with_reducible exact Sat.Mv.refl _ _ | with_reducible refine Sat.Mv.alloc ?_ _ | with_reducible refine Sat.Mv.drew ?_ | with_reducible refine Sat.Mv.drewN ?_ _ | with_reducible refine Sat.Mv.set ?_ ?_ _)) <;> (first | exact Or.inl (Or.inl rfl) | exact Or.inl (Or.inr rfl) | exact Or.inl rfl | (refine Or.inr ?_; (try simp); omega) | (refine Or.inl ?_; (try simp); omega))
      rintro e w2 ⟨⟨he, b2⟩, sg⟩
      rw [decide_eq_false Hx1.out] at he
      subst he
      have m2 : MvR g _ w2 := Sat.Mv.below b2
      have q2 : Q w2 g lo en dp st := (HQ1.out.mv sg (fun b hb => by have hb : b = w.heap.size := hb; omega)).below b2
      have z1 := m2.size
      try simp at z1
      have HS1 := hide (seg sg m2)
      have HQ2 := hide q2
      have hB : Blk 49 w2 (w.heap.size) #[.string ByteArray.empty, .string ByteArray.empty, .slice none 0 0, .slice none 0 0, .int .i64 0] := m2.blk (by (repeat' (first | with_reducible exact HB.out | with_reducible refine Blk.alloc ?_ _ | with_reducible refine Blk.drewN ?_ _ | with_reducible refine Blk.other ?_ ?_ _ | exact HB.out)) <;> (first | (simp; omega) | simp | omega)) (by omega)
      clear HB
      have HB := hide hB
      clear hB
      have hL : Blk 43 w2 (w1.heap.size) #[.int .i64 ((Syn.hd en st).k : Nat), .string (tx (Syn.hd en st).x), .int .i64 ((Syn.hd en st).a : Nat)] := m2.blk (by (repeat' (first | exact Blk.new _ _ _ | with_reducible refine Blk.alloc ?_ _ | with_reducible refine Blk.drewN ?_ _ | with_reducible refine Blk.other ?_ ?_ _)) <;> (first | (simp; omega) | simp | omega)) (by omega)
      have HL0 := hide hL
      clear hL
      obtain ⟨l0_0, l0_1, l0_2, f0_0, f0_1, f0_2⟩ := bk3 HL0.out
      clear m2 q2 sg b2
      go_wp2_with fail
      refine (step_q (fun b => b = w.heap.size) (wk := w2) ?_ HQ2.out (fun b hb => by have hb : b = w.heap.size := hb; omega) (fun wz qz => HC2.out wz qz (fun e => by cases e))).mono ?_
      · (repeat' (first | with_reducible exact Sat.Mv.refl _ _ | with_reducible refine Sat.Mv.alloc ?_ _ | with_reducible refine Sat.Mv.drew ?_ | with_reducible refine Sat.Mv.drewN ?_ _ | with_reducible refine Sat.Mv.set ?_ ?_ _)) <;> (first | exact Or.inl (Or.inl rfl) | exact Or.inl (Or.inr rfl) | exact Or.inl rfl | (refine Or.inr ?_; (try simp); omega) | (refine Or.inl ?_; (try simp); omega))
      rintro e w3 ⟨⟨m2, q2, u, rfl, rows2, hr9, xA2⟩, sg⟩
      cases hr9
      obtain ⟨bk2, cp2, qA2, cA2, qB2, cB2, rfl, hF2, hl2, hc2, hm2, -, d2_0, d2_1, d2_2, d2_3, d2_4, xA2, xB2⟩ := xA2.oneE
      have z2 := m2.size
      try simp at z2
      have HS2 := hide (seg sg m2)
      have HQ3 := hide q2
      have HX2 := hide (And.intro xA2 xB2)
      clear xA2 xB2
      have hB : Blk 49 w3 (w.heap.size) #[.string ByteArray.empty, .string ByteArray.empty, .slice none 0 0, .slice none 0 0, .int .i64 0] := m2.blk (by (repeat' (first | with_reducible exact HB.out | with_reducible refine Blk.alloc ?_ _ | with_reducible refine Blk.drewN ?_ _ | with_reducible refine Blk.other ?_ ?_ _ | exact HB.out)) <;> (first | (simp; omega) | simp | omega)) (by omega)
      clear HB
      have HB := hide hB
      clear hB
      have hL : Blk 43 w3 (w1.heap.size) #[.int .i64 ((Syn.hd en st).k : Nat), .string (tx (Syn.hd en st).x), .int .i64 ((Syn.hd en st).a : Nat)] := m2.blk (by (repeat' (first | with_reducible exact HL0.out | with_reducible refine Blk.alloc ?_ _ | with_reducible refine Blk.drewN ?_ _ | with_reducible refine Blk.other ?_ ?_ _ | exact HL0.out)) <;> (first | (simp; omega) | simp | omega)) (by omega)
      clear HL0 l0_0 l0_1 l0_2 f0_0 f0_1 f0_2
      have HL0 := hide hL
      clear hL
      obtain ⟨l0_0, l0_1, l0_2, f0_0, f0_1, f0_2⟩ := bk3 HL0.out
      clear m2 q2 sg
      go_wp2_with ((show wpList _ _ _ _ _ _); refine store_blk rfl 49 (.tmp 2) (.tmp 63) rfl (w.heap.size) _ rfl rfl 49 #[.string ByteArray.empty, .string ByteArray.empty, .slice none 0 0, .slice none 0 0, .int .i64 0] (by (repeat' (first | with_reducible exact HB.out | with_reducible refine Blk.alloc ?_ _ | with_reducible refine Blk.drewN ?_ _ | with_reducible refine Blk.other ?_ ?_ _ | exact HB.out)) <;> (first | (simp; omega) | simp | omega)) (by kernel_rfl) rfl rfl ?_; intro wf b2 m2; have HE := hide (show Sat.Mv (fun b => b = w.heap.size) w3 wf from mvt (by (repeat' (first | with_reducible exact Sat.Mv.refl _ _ | with_reducible refine Sat.Mv.alloc ?_ _ | with_reducible refine Sat.Mv.drew ?_ | with_reducible refine Sat.Mv.drewN ?_ _ | with_reducible refine Sat.Mv.set ?_ ?_ _)) <;> (first | exact Or.inl (Or.inl rfl) | exact Or.inl (Or.inr rfl) | exact Or.inl rfl | (refine Or.inr ?_; (try simp); omega) | (refine Or.inl ?_; (try simp); omega))) (Mv.wide m2 (fun b hb => hb))); have HM := hide m2; obtain ⟨c0, c1, c2, c3, c4, k0, k1, k2, k3, k4⟩ := bk5 b2; clear m2 b2)
      refine bodyPost_ret (v := .agg #[.string (tx op2), .string (tx nm2), .slice qA2 args2.length cA2, .slice qB2 tys2.length cB2, .int .i64 (p2 : Nat)]) (by simp [results, Tryz.results192, go_sem, c0, c1, c2, c3, c4]) rfl ?_
      rw [HRR.out]
      exact ans_fin (fun b => b = w.heap.size) HE.out (mvt (mvt HS0.out HS1.out) HS2.out) (fun b hb => by have hb : b = g ∨ b = w.heap.size := hb; omega) HQ3.out (fun b hb => by have hb : b = w.heap.size := hb; omega) ⟨_, _, _, _, _, _, _, rfl, rfl, HX2.out.1.far (G := fun b => b = g ∨ b = w.heap.size) (Mv.wide HE.out fun b k => Or.inr k) (by intro b hb hl hk; (try simp at hb); have hk : b = g ∨ b = w.heap.size := hk; omega) (by intro b hb; (try simp at hb); show w.heap.size ≤ b; omega), HX2.out.2.far (G := fun b => b = g ∨ b = w.heap.size) (Mv.wide HE.out fun b k => Or.inr k) (by intro b hb hl hk; (try simp at hb); have hk : b = g ∨ b = w.heap.size := hk; omega) (by intro b hb; (try simp at hb); show w.heap.size ≤ b; omega)⟩
  rw [if_neg y9] at hRR
  have hI0 : ¬ (((Syn.hd en st).k : Nat) : Int) = 2 := by omega
  have Hy0 := hide y0
  clear y0
  have hI1 : ((tx (Syn.hd en st).x).toList == ([116, 114, 117, 101] : List UInt8)) = false := by rw [Lex.eqT, Lex.bs_tx]; exact decide_eq_false y1
  have Hy1 := hide y1
  clear y1
  have hI2 : ((tx (Syn.hd en st).x).toList == ([102, 97, 108, 115, 101] : List UInt8)) = false := by rw [Lex.eqT, Lex.bs_tx]; exact decide_eq_false y2
  have Hy2 := hide y2
  clear y2
  have hI3 : ((tx (Syn.hd en st).x).toList == ([110, 117, 108, 108] : List UInt8)) = false := by rw [Lex.eqT, Lex.bs_tx]; exact decide_eq_false y3
  have Hy3 := hide y3
  clear y3
  have hI4 : ((tx (Syn.hd en st).x).toList == ([116, 104, 105, 115] : List UInt8)) = false := by rw [Lex.eqT, Lex.bs_tx]; exact decide_eq_false y4
  have Hy4 := hide y4
  clear y4
  have hI5 : ((tx (Syn.hd en st).x).toList == ([110, 101, 119] : List UInt8)) = false := by rw [Lex.eqT, Lex.bs_tx]; exact decide_eq_false y5
  have Hy5 := hide y5
  clear y5
  have hI6 : ((tx (Syn.hd en st).x).toList == ([108, 105, 115, 116] : List UInt8)) = false := by rw [Lex.eqT, Lex.bs_tx]; exact decide_eq_false y6
  have Hy6 := hide y6
  clear y6
  have hI7 : ((tx (Syn.hd en st).x).toList == ([108, 101, 110] : List UInt8)) = false := by rw [Lex.eqT, Lex.bs_tx]; exact decide_eq_false y7
  have Hy7 := hide y7
  clear y7
  have hI8 : ((tx (Syn.hd en st).x).toList == ([114, 101, 97, 100] : List UInt8)) = false := by rw [Lex.eqT, Lex.bs_tx]; exact decide_eq_false y8
  have Hy8 := hide y8
  clear y8
  have hI9 : ((tx (Syn.hd en st).x).toList == ([40] : List UInt8)) = false := by rw [Lex.eqT, Lex.bs_tx]; exact decide_eq_false y9
  have Hy9 := hide y9
  clear y9
  have Hx1 := hide x1
  clear x1
  have HRR := hide hRR
  clear hRR
  go_enter Tryz.func192, Tryz.ntmps192
  go_wp2_with fail
  refine (step_q (fun b => b = w.heap.size) (wk := w) ?_ HQ0.out (fun b hb => by have hb : b = w.heap.size := hb; omega) (fun wz qz => next_q wz g lo en dp st qz)).mono ?_
  · (repeat' (first | with_reducible exact Sat.Mv.refl _ _ | with_reducible refine Sat.Mv.alloc ?_ _ | with_reducible refine Sat.Mv.drew ?_ | with_reducible refine Sat.Mv.drewN ?_ _ | with_reducible refine Sat.Mv.set ?_ ?_ _)) <;> (first | exact Or.inl (Or.inl rfl) | exact Or.inl (Or.inr rfl) | exact Or.inl rfl | (refine Or.inr ?_; (try simp); omega) | (refine Or.inl ?_; (try simp); omega))
  rintro e w1 ⟨⟨rfl, b2⟩, sg⟩
  have m2 : MvR g _ w1 := Sat.Mv.below b2
  have q2 : Q w1 g lo en dp st := (HQ0.out.mv sg (fun b hb => by have hb : b = w.heap.size := hb; omega)).below b2
  have z0 := m2.size
  try simp at z0
  have HS0 := hide (seg sg m2)
  have HQ1 := hide q2
  have hB : Blk 49 w1 (w.heap.size) #[.string ByteArray.empty, .string ByteArray.empty, .slice none 0 0, .slice none 0 0, .int .i64 0] := m2.blk (by (repeat' (first | exact Blk.new _ _ _ | with_reducible refine Blk.alloc ?_ _ | with_reducible refine Blk.drewN ?_ _ | with_reducible refine Blk.other ?_ ?_ _)) <;> (first | (simp; omega) | simp | omega)) (by omega)
  have HB := hide hB
  clear hB
  clear m2 q2 sg b2
  simp only [TV]
  have F10 := fun w => field_text (tx (Syn.hd en st).x) (Syn.hd en st).k (Syn.hd en st).a w
  have F20 := fun w => field_place (tx (Syn.hd en st).x) (Syn.hd en st).k (Syn.hd en st).a w
  go_wp2_with fail
  refine (step_isname (fun b => b = w.heap.size) (wk := w1) ?_ HQ1.out (fun b hb => by have hb : b = w.heap.size := hb; omega)).mono ?_
  · (repeat' (first | with_reducible exact Sat.Mv.refl _ _ | with_reducible refine Sat.Mv.alloc ?_ _ | with_reducible refine Sat.Mv.drew ?_ | with_reducible refine Sat.Mv.drewN ?_ _ | with_reducible refine Sat.Mv.set ?_ ?_ _)) <;> (first | exact Or.inl (Or.inl rfl) | exact Or.inl (Or.inr rfl) | exact Or.inl rfl | (refine Or.inr ?_; (try simp); omega) | (refine Or.inl ?_; (try simp); omega))
  rintro e w2 ⟨⟨he, b2⟩, sg⟩
  rw [decide_eq_false Hx1.out] at he
  subst he
  have m2 : MvR g _ w2 := Sat.Mv.below b2
  have q2 : Q w2 g lo en dp st := (HQ1.out.mv sg (fun b hb => by have hb : b = w.heap.size := hb; omega)).below b2
  have z1 := m2.size
  try simp at z1
  have HS1 := hide (seg sg m2)
  have HQ2 := hide q2
  have hB : Blk 49 w2 (w.heap.size) #[.string ByteArray.empty, .string ByteArray.empty, .slice none 0 0, .slice none 0 0, .int .i64 0] := m2.blk (by (repeat' (first | with_reducible exact HB.out | with_reducible refine Blk.alloc ?_ _ | with_reducible refine Blk.drewN ?_ _ | with_reducible refine Blk.other ?_ ?_ _ | exact HB.out)) <;> (first | (simp; omega) | simp | omega)) (by omega)
  clear HB
  have HB := hide hB
  clear hB
  have hL : Blk 43 w2 (w1.heap.size) #[.int .i64 ((Syn.hd en st).k : Nat), .string (tx (Syn.hd en st).x), .int .i64 ((Syn.hd en st).a : Nat)] := m2.blk (by (repeat' (first | exact Blk.new _ _ _ | with_reducible refine Blk.alloc ?_ _ | with_reducible refine Blk.drewN ?_ _ | with_reducible refine Blk.other ?_ ?_ _)) <;> (first | (simp; omega) | simp | omega)) (by omega)
  have HL0 := hide hL
  clear hL
  obtain ⟨l0_0, l0_1, l0_2, f0_0, f0_1, f0_2⟩ := bk3 HL0.out
  clear m2 q2 sg b2
  go_wp2_with fail
  refine (step_q (fun b => b = w.heap.size) (wk := w2) ?_ HQ2.out (fun b hb => by have hb : b = w.heap.size := hb; omega) (fun wz qz => fault_q 110 wz g lo en dp st qz)).mono ?_
  · (repeat' (first | with_reducible exact Sat.Mv.refl _ _ | with_reducible refine Sat.Mv.alloc ?_ _ | with_reducible refine Sat.Mv.drew ?_ | with_reducible refine Sat.Mv.drewN ?_ _ | with_reducible refine Sat.Mv.set ?_ ?_ _)) <;> (first | exact Or.inl (Or.inl rfl) | exact Or.inl (Or.inr rfl) | exact Or.inl rfl | (refine Or.inr ?_; (try simp); omega) | (refine Or.inl ?_; (try simp); omega))
  rintro e w3 ⟨⟨rfl, b2⟩, sg⟩
  have m2 : MvR g _ w3 := Sat.Mv.below b2
  clear b2
  simp only [FV]
  go_wp2
  refine ⟨rfl, ?_⟩
  rw [HRR.out]
  refine ⟨Mv.out (mvt (mvt HS0.out HS1.out) (seg sg m2)) (fun b hb => by have hb : b = g ∨ b = w.heap.size := hb; omega), rfl⟩
end Syn
end Go.Proofs.YtomldkljlbdnjaaGreat
