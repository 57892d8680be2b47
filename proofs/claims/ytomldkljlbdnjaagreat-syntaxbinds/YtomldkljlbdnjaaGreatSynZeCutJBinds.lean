/- Methods of the reader: operand. No statement of the seat is proved here. -/
import Derived.Test.YtomldkljlbdnjaaGreatJoin12Binds
namespace Go.Proofs.YtomldkljlbdnjaaGreat
open Go.RowKit
set_option linter.unusedVariables false
set_option linter.unusedSimpArgs false
namespace Syn
open Euf (OL App Stop)
open Lex (T TL tx bs tkC FV IsNm hide)
set_option maxRecDepth 4000 in
set_option maxHeartbeats 2000000 in
theorem operand_sp (en g lo N : Nat) (hprefixed : ∀ op m, m ≤ N → Sp1A 191 #[.pointer (some ⟨g, 0, none⟩), .string (tx op)] ShE (.prefixed op) en g lo m) (hprimary : ∀ m, m ≤ N → Sp 192 ShE .primary en g lo m) (hpart : ∀ m, m ≤ N → SpB 193 ShE .part en g lo m) (hindex : ∀ m, m ≤ N → SpB1 194 ShE .index en g lo m) : Sp 189 ShE .operand en g lo (N + 1) := by
  intro w dp st h hne
  have hgl := h.gl
  have hlw := h.lw
  have hgw := h.lt
  have HQ0 := hide h
  clear h
  obtain ⟨R, hRR⟩ : ∃ R, R = P en (N + 1) .operand dp st := ⟨_, rfl⟩
  rw [← hRR] at hne ⊢
  simp only [P, wantP, nameP] at hRR
  by_cases x0 : (Syn.hd en st).x = ([45] : List UInt8)
  case pos =>
    rw [if_pos x0] at hRR
    try rw [decide_eq_true x0] at hRR
    have HC1 : Hid (∀ w1, Q w1 g lo en dp st → P en N (.prefixed ([110, 101, 103] : List UInt8)) dp st ≠ .out → Calls Tryz.prog 191 #[.pointer (some ⟨g, 0, none⟩), .string (tx ([110, 101, 103] : List UInt8))] w1 fun e w' => Ans ShE w1 g lo en dp e w' (P en N (.prefixed ([110, 101, 103] : List UInt8)) dp st)) := fun w1 q1 hn => hprefixed ([110, 101, 103] : List UInt8) N (Nat.le_refl _) w1 dp st q1 (by exact hd_ne (by decide) x0) hn
    generalize P en N (.prefixed ([110, 101, 103] : List UInt8)) dp st = E1 at hRR HC1
    cases E1 with
    | out => exact absurd hRR hne
    | bad cc a =>
      have Hx0 := hide x0
      clear x0
      have HRR := hide hRR
      clear hRR
      go_enter Tryz.func189, Tryz.ntmps189
      go_wp2_with fail
      refine (step_sees (fun b => b = w.heap.size) ([45] : List UInt8) (wk := w) ?_ HQ0.out (fun b hb => by have hb : b = w.heap.size := hb; omega) ?_).mono ?_
      · (repeat' (first | with_reducible exact Sat.Mv.refl _ _ | with_reducible refine Sat.Mv.alloc ?_ _ | with_reducible refine Sat.Mv.drew ?_ | with_reducible refine Sat.Mv.drewN ?_ _ | with_reducible refine Sat.Mv.set ?_ ?_ _)) <;> (first | exact Or.inl (Or.inl rfl) | exact Or.inl (Or.inr rfl) | exact Or.inl rfl | (refine Or.inr ?_; (try simp); omega) | (refine Or.inl ?_; (try simp); omega))
      · first | exact heap_alloc_new _ _ | exact new_at1 _ _ _ | exact new_at2 _ _ _ _ | exact new_at3 _ _ _ _ _ | (simp only [World.size_setCell]; exact heap_alloc_new _ _)
      rintro e w1 ⟨⟨he, b2⟩, sg⟩
      rw [decide_eq_true Hx0.out] at he
      subst he
      have m2 : MvR g _ w1 := Sat.Mv.below b2
      have q2 : Q w1 g lo en dp st := (HQ0.out.mv sg (fun b hb => by have hb : b = w.heap.size := hb; omega)).below b2
      have z0 := m2.size
      try simp at z0
      have HS0 := hide (seg sg m2)
      have HQ1 := hide q2
      have hB : Blk 49 w1 (w.heap.size) #[.string ByteArray.empty, .string ByteArray.empty, .slice none 0 0, .slice none 0 0, .int .i64 0] := m2.blk (by (repeat' (first | exact Blk.new _ _ _ | with_reducible refine Blk.alloc ?_ _ | with_reducible refine Blk.drewN ?_ _ | with_reducible refine Blk.other ?_ ?_ _)) <;> (first | (simp; omega) | simp | omega)) (by omega)
      have HB := hide hB
      clear hB
      clear m2 q2 sg b2
      go_wp2_with fail
      refine (step_q (fun b => b = w.heap.size) (wk := w1) ?_ HQ1.out (fun b hb => by have hb : b = w.heap.size := hb; omega) (fun wz qz => HC1.out wz qz (fun e => by cases e))).mono ?_
      · (repeat' (first | with_reducible exact Sat.Mv.refl _ _ | with_reducible refine Sat.Mv.alloc ?_ _ | with_reducible refine Sat.Mv.drew ?_ | with_reducible refine Sat.Mv.drewN ?_ _ | with_reducible refine Sat.Mv.set ?_ ?_ _)) <;> (first | exact Or.inl (Or.inl rfl) | exact Or.inl (Or.inr rfl) | exact Or.inl rfl | (refine Or.inr ?_; (try simp); omega) | (refine Or.inl ?_; (try simp); omega))
      rintro e w2 ⟨⟨m2, rfl⟩, sg⟩
      go_wp2
      refine ⟨rfl, ?_⟩
      rw [HRR.out]
      refine ⟨Mv.out (mvt HS0.out (seg sg m2)) (fun b hb => by have hb : b = g ∨ b = w.heap.size := hb; omega), rfl⟩
    | ok r1 s1 =>
      try simp only [Res.to_ok] at hRR
      have Hx0 := hide x0
      clear x0
      have HRR := hide hRR
      clear hRR
      go_enter Tryz.func189, Tryz.ntmps189
      go_wp2_with fail
      refine (step_sees (fun b => b = w.heap.size) ([45] : List UInt8) (wk := w) ?_ HQ0.out (fun b hb => by have hb : b = w.heap.size := hb; omega) ?_).mono ?_
      · (repeat' (first | with_reducible exact Sat.Mv.refl _ _ | with_reducible refine Sat.Mv.alloc ?_ _ | with_reducible refine Sat.Mv.drew ?_ | with_reducible refine Sat.Mv.drewN ?_ _ | with_reducible refine Sat.Mv.set ?_ ?_ _)) <;> (first | exact Or.inl (Or.inl rfl) | exact Or.inl (Or.inr rfl) | exact Or.inl rfl | (refine Or.inr ?_; (try simp); omega) | (refine Or.inl ?_; (try simp); omega))
      · first | exact heap_alloc_new _ _ | exact new_at1 _ _ _ | exact new_at2 _ _ _ _ | exact new_at3 _ _ _ _ _ | (simp only [World.size_setCell]; exact heap_alloc_new _ _)
      rintro e w1 ⟨⟨he, b2⟩, sg⟩
      rw [decide_eq_true Hx0.out] at he
      subst he
      have m2 : MvR g _ w1 := Sat.Mv.below b2
      have q2 : Q w1 g lo en dp st := (HQ0.out.mv sg (fun b hb => by have hb : b = w.heap.size := hb; omega)).below b2
      have z0 := m2.size
      try simp at z0
      have HS0 := hide (seg sg m2)
      have HQ1 := hide q2
      have hB : Blk 49 w1 (w.heap.size) #[.string ByteArray.empty, .string ByteArray.empty, .slice none 0 0, .slice none 0 0, .int .i64 0] := m2.blk (by (repeat' (first | exact Blk.new _ _ _ | with_reducible refine Blk.alloc ?_ _ | with_reducible refine Blk.drewN ?_ _ | with_reducible refine Blk.other ?_ ?_ _)) <;> (first | (simp; omega) | simp | omega)) (by omega)
      have HB := hide hB
      clear hB
      clear m2 q2 sg b2
      go_wp2_with fail
      refine (step_q (fun b => b = w.heap.size) (wk := w1) ?_ HQ1.out (fun b hb => by have hb : b = w.heap.size := hb; omega) (fun wz qz => HC1.out wz qz (fun e => by cases e))).mono ?_
      · (repeat' (first | with_reducible exact Sat.Mv.refl _ _ | with_reducible refine Sat.Mv.alloc ?_ _ | with_reducible refine Sat.Mv.drew ?_ | with_reducible refine Sat.Mv.drewN ?_ _ | with_reducible refine Sat.Mv.set ?_ ?_ _)) <;> (first | exact Or.inl (Or.inl rfl) | exact Or.inl (Or.inr rfl) | exact Or.inl rfl | (refine Or.inr ?_; (try simp); omega) | (refine Or.inl ?_; (try simp); omega))
      rintro e w2 ⟨⟨m2, q2, u, rfl, op1, nm1, args1, tys1, p1, A1, B1, rfl, rfl, xA1, xB1⟩, sg⟩
      obtain ⟨qA1, cA1, rfl⟩ := xA1.slice
      obtain ⟨qB1, cB1, rfl⟩ := xB1.slice
      have z1 := m2.size
      try simp at z1
      have HS1 := hide (seg sg m2)
      have HQ2 := hide q2
      have HX1 := hide (And.intro xA1 xB1)
      clear xA1 xB1
      have hB : Blk 49 w2 (w.heap.size) #[.string ByteArray.empty, .string ByteArray.empty, .slice none 0 0, .slice none 0 0, .int .i64 0] := m2.blk (by (repeat' (first | with_reducible exact HB.out | with_reducible refine Blk.alloc ?_ _ | with_reducible refine Blk.drewN ?_ _ | with_reducible refine Blk.other ?_ ?_ _ | exact HB.out)) <;> (first | (simp; omega) | simp | omega)) (by omega)
      clear HB
      have HB := hide hB
      clear hB
      clear m2 q2 sg
      go_wp2_with ((show wpList _ _ _ _ _ _); refine store_blk rfl 49 (.tmp 2) (.tmp 9) rfl (w.heap.size) _ rfl rfl 49 #[.string ByteArray.empty, .string ByteArray.empty, .slice none 0 0, .slice none 0 0, .int .i64 0] (by (repeat' (first | with_reducible exact HB.out | with_reducible refine Blk.alloc ?_ _ | with_reducible refine Blk.drewN ?_ _ | with_reducible refine Blk.other ?_ ?_ _ | exact HB.out)) <;> (first | (simp; omega) | simp | omega)) (by kernel_rfl) rfl rfl ?_; intro wf b2 m2; have HE := hide (show Sat.Mv (fun b => b = w.heap.size) w2 wf from mvt (by (repeat' (first | with_reducible exact Sat.Mv.refl _ _ | with_reducible refine Sat.Mv.alloc ?_ _ | with_reducible refine Sat.Mv.drew ?_ | with_reducible refine Sat.Mv.drewN ?_ _ | with_reducible refine Sat.Mv.set ?_ ?_ _)) <;> (first | exact Or.inl (Or.inl rfl) | exact Or.inl (Or.inr rfl) | exact Or.inl rfl | (refine Or.inr ?_; (try simp); omega) | (refine Or.inl ?_; (try simp); omega))) (Mv.wide m2 (fun b hb => hb))); have HM := hide m2; obtain ⟨c0, c1, c2, c3, c4, k0, k1, k2, k3, k4⟩ := bk5 b2; clear m2 b2)
      refine bodyPost_ret (v := .agg #[.string (tx op1), .string (tx nm1), .slice qA1 args1.length cA1, .slice qB1 tys1.length cB1, .int .i64 (p1 : Nat)]) (by simp [results, Tryz.results189, go_sem, c0, c1, c2, c3, c4]) rfl ?_
      rw [HRR.out]
      exact ans_fin (fun b => b = w.heap.size) HE.out (mvt HS0.out HS1.out) (fun b hb => by have hb : b = g ∨ b = w.heap.size := hb; omega) HQ2.out (fun b hb => by have hb : b = w.heap.size := hb; omega) ⟨_, _, _, _, _, _, _, rfl, rfl, HX1.out.1.far (G := fun b => b = g ∨ b = w.heap.size) (Mv.wide HE.out fun b k => Or.inr k) (by intro b hb hl hk; (try simp at hb); have hk : b = g ∨ b = w.heap.size := hk; omega) (by intro b hb; (try simp at hb); show w.heap.size ≤ b; omega), HX1.out.2.far (G := fun b => b = g ∨ b = w.heap.size) (Mv.wide HE.out fun b k => Or.inr k) (by intro b hb hl hk; (try simp at hb); have hk : b = g ∨ b = w.heap.size := hk; omega) (by intro b hb; (try simp at hb); show w.heap.size ≤ b; omega)⟩
  rw [if_neg x0] at hRR
  try rw [decide_eq_false x0] at hRR
  by_cases x1 : (Syn.hd en st).x = ([33] : List UInt8)
  case pos =>
    rw [if_pos x1] at hRR
    try rw [decide_eq_true x1] at hRR
    have HC2 : Hid (∀ w1, Q w1 g lo en dp st → P en N (.prefixed ([110, 111, 116] : List UInt8)) dp st ≠ .out → Calls Tryz.prog 191 #[.pointer (some ⟨g, 0, none⟩), .string (tx ([110, 111, 116] : List UInt8))] w1 fun e w' => Ans ShE w1 g lo en dp e w' (P en N (.prefixed ([110, 111, 116] : List UInt8)) dp st)) := fun w1 q1 hn => hprefixed ([110, 111, 116] : List UInt8) N (Nat.le_refl _) w1 dp st q1 (by exact hd_ne (by decide) x1) hn
    generalize P en N (.prefixed ([110, 111, 116] : List UInt8)) dp st = E2 at hRR HC2
    cases E2 with
    | out => exact absurd hRR hne
    | bad cc a =>
      have Hx0 := hide x0
      clear x0
      have Hx1 := hide x1
      clear x1
      have HRR := hide hRR
      clear hRR
      go_enter Tryz.func189, Tryz.ntmps189
      go_wp2_with fail
      refine (step_sees (fun b => b = w.heap.size) ([45] : List UInt8) (wk := w) ?_ HQ0.out (fun b hb => by have hb : b = w.heap.size := hb; omega) ?_).mono ?_
      · (repeat' (first | with_reducible exact Sat.Mv.refl _ _ | with_reducible refine Sat.Mv.alloc ?_ _ | with_reducible refine Sat.Mv.drew ?_ | with_reducible refine Sat.Mv.drewN ?_ _ | with_reducible refine Sat.Mv.set ?_ ?_ _)) <;> (first | exact Or.inl (Or.inl rfl) | exact Or.inl (Or.inr rfl) | exact Or.inl rfl | (refine Or.inr ?_; (try simp); omega) | (refine Or.inl ?_; (try simp); omega))
      · first | exact heap_alloc_new _ _ | exact new_at1 _ _ _ | exact new_at2 _ _ _ _ | exact new_at3 _ _ _ _ _ | (simp only [World.size_setCell]; exact heap_alloc_new _ _)
      rintro e w1 ⟨⟨he, b2⟩, sg⟩
      rw [decide_eq_false Hx0.out] at he
      subst he
      have m2 : MvR g _ w1 := Sat.Mv.below b2
      have q2 : Q w1 g lo en dp st := (HQ0.out.mv sg (fun b hb => by have hb : b = w.heap.size := hb; omega)).below b2
      have z0 := m2.size
      try simp at z0
      have HS0 := hide (seg sg m2)
      have HQ1 := hide q2
      have hB : Blk 49 w1 (w.heap.size) #[.string ByteArray.empty, .string ByteArray.empty, .slice none 0 0, .slice none 0 0, .int .i64 0] := m2.blk (by (repeat' (first | exact Blk.new _ _ _ | with_reducible refine Blk.alloc ?_ _ | with_reducible refine Blk.drewN ?_ _ | with_reducible refine Blk.other ?_ ?_ _)) <;> (first | (simp; omega) | simp | omega)) (by omega)
      have HB := hide hB
      clear hB
      clear m2 q2 sg b2
      go_wp2_with fail
      refine (step_sees (fun b => b = w.heap.size) ([33] : List UInt8) (wk := w1) ?_ HQ1.out (fun b hb => by have hb : b = w.heap.size := hb; omega) ?_).mono ?_
      · (repeat' (first | with_reducible exact Sat.Mv.refl _ _ | with_reducible refine Sat.Mv.alloc ?_ _ | with_reducible refine Sat.Mv.drew ?_ | with_reducible refine Sat.Mv.drewN ?_ _ | with_reducible refine Sat.Mv.set ?_ ?_ _)) <;> (first | exact Or.inl (Or.inl rfl) | exact Or.inl (Or.inr rfl) | exact Or.inl rfl | (refine Or.inr ?_; (try simp); omega) | (refine Or.inl ?_; (try simp); omega))
      · first | exact heap_alloc_new _ _ | exact new_at1 _ _ _ | exact new_at2 _ _ _ _ | exact new_at3 _ _ _ _ _ | (simp only [World.size_setCell]; exact heap_alloc_new _ _)
      rintro e w2 ⟨⟨he, b2⟩, sg⟩
      rw [decide_eq_true Hx1.out] at he
      subst he
      have m2 : MvR g _ w2 := Sat.Mv.below b2
      have q2 : Q w2 g lo en dp st := (HQ1.out.mv sg (fun b hb => by have hb : b = w.heap.size := hb; omega)).below b2
      have z1 := m2.size
      try simp at z1
      have HS1 := hide (seg sg m2)
      have HQ2 := hide q2
      have hB : Blk 49 w2 (w.heap.size) #[.string ByteArray.empty, .string ByteArray.empty, .slice none 0 0, .slice none 0 0, .int .i64 0] := m2.blk (by (repeat' (first | with_reducible exact HB.out | with_reducible refine Blk.alloc ?_ _ | with_reducible refine Blk.drewN ?_ _ | with_reducible refine Blk.other ?_ ?_ _ | exact HB.out)) <;> (first | (simp; omega) | simp | omega)) (by omega)
      clear HB
      have HB := hide hB
      clear hB
      clear m2 q2 sg b2
      go_wp2_with fail
      refine (step_q (fun b => b = w.heap.size) (wk := w2) ?_ HQ2.out (fun b hb => by have hb : b = w.heap.size := hb; omega) (fun wz qz => HC2.out wz qz (fun e => by cases e))).mono ?_
      · (repeat' (first | with_reducible exact Sat.Mv.refl _ _ | with_reducible refine Sat.Mv.alloc ?_ _ | with_reducible refine Sat.Mv.drew ?_ | with_reducible refine Sat.Mv.drewN ?_ _ | with_reducible refine Sat.Mv.set ?_ ?_ _)) <;> (first | exact Or.inl (Or.inl rfl) | exact Or.inl (Or.inr rfl) | exact Or.inl rfl | (refine Or.inr ?_; (try simp); omega) | (refine Or.inl ?_; (try simp); omega))
      rintro e w3 ⟨⟨m2, rfl⟩, sg⟩
      go_wp2
      refine ⟨rfl, ?_⟩
      rw [HRR.out]
      refine ⟨Mv.out (mvt (mvt HS0.out HS1.out) (seg sg m2)) (fun b hb => by have hb : b = g ∨ b = w.heap.size := hb; omega), rfl⟩
    | ok r2 s2 =>
      try simp only [Res.to_ok] at hRR
      have Hx0 := hide x0
      clear x0
      have Hx1 := hide x1
      clear x1
      have HRR := hide hRR
      clear hRR
      go_enter Tryz.func189, Tryz.ntmps189
      go_wp2_with fail
      refine (step_sees (fun b => b = w.heap.size) ([45] : List UInt8) (wk := w) ?_ HQ0.out (fun b hb => by have hb : b = w.heap.size := hb; omega) ?_).mono ?_
      · (repeat' (first | with_reducible exact Sat.Mv.refl _ _ | with_reducible refine Sat.Mv.alloc ?_ _ | with_reducible refine Sat.Mv.drew ?_ | with_reducible refine Sat.Mv.drewN ?_ _ | with_reducible refine Sat.Mv.set ?_ ?_ _)) <;> (first | exact Or.inl (Or.inl rfl) | exact Or.inl (Or.inr rfl) | exact Or.inl rfl | (refine Or.inr ?_; (try simp); omega) | (refine Or.inl ?_; (try simp); omega))
      · first | exact heap_alloc_new _ _ | exact new_at1 _ _ _ | exact new_at2 _ _ _ _ | exact new_at3 _ _ _ _ _ | (simp only [World.size_setCell]; exact heap_alloc_new _ _)
      rintro e w1 ⟨⟨he, b2⟩, sg⟩
      rw [decide_eq_false Hx0.out] at he
      subst he
      have m2 : MvR g _ w1 := Sat.Mv.below b2
      have q2 : Q w1 g lo en dp st := (HQ0.out.mv sg (fun b hb => by have hb : b = w.heap.size := hb; omega)).below b2
      have z0 := m2.size
      try simp at z0
      have HS0 := hide (seg sg m2)
      have HQ1 := hide q2
      have hB : Blk 49 w1 (w.heap.size) #[.string ByteArray.empty, .string ByteArray.empty, .slice none 0 0, .slice none 0 0, .int .i64 0] := m2.blk (by (repeat' (first | exact Blk.new _ _ _ | with_reducible refine Blk.alloc ?_ _ | with_reducible refine Blk.drewN ?_ _ | with_reducible refine Blk.other ?_ ?_ _)) <;> (first | (simp; omega) | simp | omega)) (by omega)
      have HB := hide hB
      clear hB
      clear m2 q2 sg b2
      go_wp2_with fail
      refine (step_sees (fun b => b = w.heap.size) ([33] : List UInt8) (wk := w1) ?_ HQ1.out (fun b hb => by have hb : b = w.heap.size := hb; omega) ?_).mono ?_
      · (repeat' (first | with_reducible exact Sat.Mv.refl _ _ | with_reducible refine Sat.Mv.alloc ?_ _ | with_reducible refine Sat.Mv.drew ?_ | with_reducible refine Sat.Mv.drewN ?_ _ | with_reducible refine Sat.Mv.set ?_ ?_ _)) <;> (first | exact Or.inl (Or.inl rfl) | exact Or.inl (Or.inr rfl) | exact Or.inl rfl | (refine Or.inr ?_; (try simp); omega) | (refine Or.inl ?_; (try simp); omega))
      · first | exact heap_alloc_new _ _ | exact new_at1 _ _ _ | exact new_at2 _ _ _ _ | exact new_at3 _ _ _ _ _ | (simp only [World.size_setCell]; exact heap_alloc_new _ _)
      rintro e w2 ⟨⟨he, b2⟩, sg⟩
      rw [decide_eq_true Hx1.out] at he
      subst he
      have m2 : MvR g _ w2 := Sat.Mv.below b2
      have q2 : Q w2 g lo en dp st := (HQ1.out.mv sg (fun b hb => by have hb : b = w.heap.size := hb; omega)).below b2
      have z1 := m2.size
      try simp at z1
      have HS1 := hide (seg sg m2)
      have HQ2 := hide q2
      have hB : Blk 49 w2 (w.heap.size) #[.string ByteArray.empty, .string ByteArray.empty, .slice none 0 0, .slice none 0 0, .int .i64 0] := m2.blk (by (repeat' (first | with_reducible exact HB.out | with_reducible refine Blk.alloc ?_ _ | with_reducible refine Blk.drewN ?_ _ | with_reducible refine Blk.other ?_ ?_ _ | exact HB.out)) <;> (first | (simp; omega) | simp | omega)) (by omega)
      clear HB
      have HB := hide hB
      clear hB
      clear m2 q2 sg b2
      go_wp2_with fail
      refine (step_q (fun b => b = w.heap.size) (wk := w2) ?_ HQ2.out (fun b hb => by have hb : b = w.heap.size := hb; omega) (fun wz qz => HC2.out wz qz (fun e => by cases e))).mono ?_
      · (repeat' (first | with_reducible exact Sat.Mv.refl _ _ | with_reducible refine Sat.Mv.alloc ?_ _ | with_reducible refine Sat.Mv.drew ?_ | with_reducible refine Sat.Mv.drewN ?_ _ | with_reducible refine Sat.Mv.set ?_ ?_ _)) <;> (first | exact Or.inl (Or.inl rfl) | exact Or.inl (Or.inr rfl) | exact Or.inl rfl | (refine Or.inr ?_; (try simp); omega) | (refine Or.inl ?_; (try simp); omega))
      rintro e w3 ⟨⟨m2, q2, u, rfl, op2, nm2, args2, tys2, p2, A2, B2, rfl, rfl, xA2, xB2⟩, sg⟩
      obtain ⟨qA2, cA2, rfl⟩ := xA2.slice
      obtain ⟨qB2, cB2, rfl⟩ := xB2.slice
      have z2 := m2.size
      try simp at z2
      have HS2 := hide (seg sg m2)
      have HQ3 := hide q2
      replace HS0 := hide (Mv.wide (G := fun b => b = g ∨ b = w.heap.size ∨ b = w3.heap.size) HS0.out (fun b hb => by have hb : b = g ∨ b = w.heap.size := hb; show b = g ∨ b = w.heap.size ∨ b = w3.heap.size; omega))
      replace HS1 := hide (Mv.wide (G := fun b => b = g ∨ b = w.heap.size ∨ b = w3.heap.size) HS1.out (fun b hb => by have hb : b = g ∨ b = w.heap.size := hb; show b = g ∨ b = w.heap.size ∨ b = w3.heap.size; omega))
      replace HS2 := hide (Mv.wide (G := fun b => b = g ∨ b = w.heap.size ∨ b = w3.heap.size) HS2.out (fun b hb => by have hb : b = g ∨ b = w.heap.size := hb; show b = g ∨ b = w.heap.size ∨ b = w3.heap.size; omega))
      have HX2 := hide (And.intro xA2 xB2)
      clear xA2 xB2
      have hB : Blk 49 w3 (w.heap.size) #[.string ByteArray.empty, .string ByteArray.empty, .slice none 0 0, .slice none 0 0, .int .i64 0] := m2.blk (by (repeat' (first | with_reducible exact HB.out | with_reducible refine Blk.alloc ?_ _ | with_reducible refine Blk.drewN ?_ _ | with_reducible refine Blk.other ?_ ?_ _ | exact HB.out)) <;> (first | (simp; omega) | simp | omega)) (by omega)
      clear HB
      have HB := hide hB
      clear hB
      clear m2 q2 sg
      go_wp2_with ((show wpList _ _ _ _ _ _); refine store_blk rfl 49 (.tmp 2) (.tmp 15) rfl (w.heap.size) _ rfl rfl 49 #[.string ByteArray.empty, .string ByteArray.empty, .slice none 0 0, .slice none 0 0, .int .i64 0] (by (repeat' (first | with_reducible exact HB.out | with_reducible refine Blk.alloc ?_ _ | with_reducible refine Blk.drewN ?_ _ | with_reducible refine Blk.other ?_ ?_ _ | exact HB.out)) <;> (first | (simp; omega) | simp | omega)) (by kernel_rfl) rfl rfl ?_; intro wf b2 m2; have HE := hide (show Sat.Mv (fun b => b = w.heap.size ∨ b = w3.heap.size) w3 wf from mvt (by (repeat' (first | with_reducible exact Sat.Mv.refl _ _ | with_reducible refine Sat.Mv.alloc ?_ _ | with_reducible refine Sat.Mv.drew ?_ | with_reducible refine Sat.Mv.drewN ?_ _ | with_reducible refine Sat.Mv.set ?_ ?_ _)) <;> (first | exact Or.inl (Or.inl rfl) | exact Or.inl (Or.inr rfl) | exact Or.inl rfl | (refine Or.inr ?_; (try simp); omega) | (refine Or.inl ?_; (try simp); omega))) (Mv.wide m2 (fun b hb => Or.inl hb))); have HM := hide m2; obtain ⟨c0, c1, c2, c3, c4, k0, k1, k2, k3, k4⟩ := bk5 b2; clear m2 b2)
      refine bodyPost_ret (v := .agg #[.string (tx op2), .string (tx nm2), .slice qA2 args2.length cA2, .slice qB2 tys2.length cB2, .int .i64 (p2 : Nat)]) (by simp [results, Tryz.results189, go_sem, c0, c1, c2, c3, c4]) rfl ?_
      rw [HRR.out]
      exact ans_fin (fun b => b = w.heap.size ∨ b = w3.heap.size) HE.out (mvt (mvt HS0.out HS1.out) HS2.out) (fun b hb => by have hb : b = g ∨ b = w.heap.size ∨ b = w3.heap.size := hb; omega) HQ3.out (fun b hb => by have hb : b = w.heap.size ∨ b = w3.heap.size := hb; omega) ⟨_, _, _, _, _, _, _, rfl, rfl, HX2.out.1.far (G := fun b => b = g ∨ b = w.heap.size ∨ b = w3.heap.size) (Mv.wide HE.out fun b k => Or.inr k) (by intro b hb hl hk; (try simp at hb); have hk : b = g ∨ b = w.heap.size ∨ b = w3.heap.size := hk; omega) (by intro b hb; (try simp at hb); show w.heap.size ≤ b; omega), HX2.out.2.far (G := fun b => b = g ∨ b = w.heap.size ∨ b = w3.heap.size) (Mv.wide HE.out fun b k => Or.inr k) (by intro b hb hl hk; (try simp at hb); have hk : b = g ∨ b = w.heap.size ∨ b = w3.heap.size := hk; omega) (by intro b hb; (try simp at hb); show w.heap.size ≤ b; omega)⟩
  rw [if_neg x1] at hRR
  try rw [decide_eq_false x1] at hRR
  have HC2 : Hid (∀ w1, Q w1 g lo en dp st → P en N .primary dp st ≠ .out → Calls Tryz.prog 192 #[.pointer (some ⟨g, 0, none⟩)] w1 fun e w' => Ans ShE w1 g lo en dp e w' (P en N .primary dp st)) := fun w1 q1 hn => hprimary N (by omega) w1 dp st q1 hn
  generalize P en N .primary dp st = E2 at hRR HC2
  cases E2 with
  | out => exact absurd hRR hne
  | bad cc a =>
    have Hx0 := hide x0
    clear x0
    have Hx1 := hide x1
    clear x1
    have HRR := hide hRR
    clear hRR
    go_enter Tryz.func189, Tryz.ntmps189
    go_wp2_with fail
    refine (step_sees (fun b => b = w.heap.size) ([45] : List UInt8) (wk := w) ?_ HQ0.out (fun b hb => by have hb : b = w.heap.size := hb; omega) ?_).mono ?_
    · (repeat' (first | with_reducible exact Sat.Mv.refl _ _ | with_reducible refine Sat.Mv.alloc ?_ _ | with_reducible refine Sat.Mv.drew ?_ | with_reducible refine Sat.Mv.drewN ?_ _ | with_reducible refine Sat.Mv.set ?_ ?_ _)) <;> (first | exact Or.inl (Or.inl rfl) | exact Or.inl (Or.inr rfl) | exact Or.inl rfl | (refine Or.inr ?_; (try simp); omega) | (refine Or.inl ?_; (try simp); omega))
    · first | exact heap_alloc_new _ _ | exact new_at1 _ _ _ | exact new_at2 _ _ _ _ | exact new_at3 _ _ _ _ _ | (simp only [World.size_setCell]; exact heap_alloc_new _ _)
    rintro e w1 ⟨⟨he, b2⟩, sg⟩
    rw [decide_eq_false Hx0.out] at he
    subst he
    have m2 : MvR g _ w1 := Sat.Mv.below b2
    have q2 : Q w1 g lo en dp st := (HQ0.out.mv sg (fun b hb => by have hb : b = w.heap.size := hb; omega)).below b2
    have z0 := m2.size
    try simp at z0
    have HS0 := hide (seg sg m2)
    have HQ1 := hide q2
    have hB : Blk 49 w1 (w.heap.size) #[.string ByteArray.empty, .string ByteArray.empty, .slice none 0 0, .slice none 0 0, .int .i64 0] := m2.blk (by (repeat' (first | exact Blk.new _ _ _ | with_reducible refine Blk.alloc ?_ _ | with_reducible refine Blk.drewN ?_ _ | with_reducible refine Blk.other ?_ ?_ _)) <;> (first | (simp; omega) | simp | omega)) (by omega)
    have HB := hide hB
    clear hB
    clear m2 q2 sg b2
    go_wp2_with fail
    refine (step_sees (fun b => b = w.heap.size) ([33] : List UInt8) (wk := w1) ?_ HQ1.out (fun b hb => by have hb : b = w.heap.size := hb; omega) ?_).mono ?_
    · (repeat' (first | with_reducible exact Sat.Mv.refl _ _ | with_reducible refine Sat.Mv.alloc ?_ _ | with_reducible refine Sat.Mv.drew ?_ | with_reducible refine Sat.Mv.drewN ?_ _ | with_reducible refine Sat.Mv.set ?_ ?_ _)) <;> (first | exact Or.inl (Or.inl rfl) | exact Or.inl (Or.inr rfl) | exact Or.inl rfl | (refine Or.inr ?_; (try simp); omega) | (refine Or.inl ?_; (try simp); omega))
    · first | exact heap_alloc_new _ _ | exact new_at1 _ _ _ | exact new_at2 _ _ _ _ | exact new_at3 _ _ _ _ _ | (simp only [World.size_setCell]; exact heap_alloc_new _ _)
    rintro e w2 ⟨⟨he, b2⟩, sg⟩
    rw [decide_eq_false Hx1.out] at he
    subst he
    have m2 : MvR g _ w2 := Sat.Mv.below b2
    have q2 : Q w2 g lo en dp st := (HQ1.out.mv sg (fun b hb => by have hb : b = w.heap.size := hb; omega)).below b2
    have z1 := m2.size
    try simp at z1
    have HS1 := hide (seg sg m2)
    have HQ2 := hide q2
    have hB : Blk 49 w2 (w.heap.size) #[.string ByteArray.empty, .string ByteArray.empty, .slice none 0 0, .slice none 0 0, .int .i64 0] := m2.blk (by (repeat' (first | with_reducible exact HB.out | with_reducible refine Blk.alloc ?_ _ | with_reducible refine Blk.drewN ?_ _ | with_reducible refine Blk.other ?_ ?_ _ | exact HB.out)) <;> (first | (simp; omega) | simp | omega)) (by omega)
    clear HB
    have HB := hide hB
    clear hB
    clear m2 q2 sg b2
    go_wp2_with fail
    refine (step_q (fun b => b = w.heap.size) (wk := w2) ?_ HQ2.out (fun b hb => by have hb : b = w.heap.size := hb; omega) (fun wz qz => HC2.out wz qz (fun e => by cases e))).mono ?_
    · (repeat' (first | with_reducible exact Sat.Mv.refl _ _ | with_reducible refine Sat.Mv.alloc ?_ _ | with_reducible refine Sat.Mv.drew ?_ | with_reducible refine Sat.Mv.drewN ?_ _ | with_reducible refine Sat.Mv.set ?_ ?_ _)) <;> (first | exact Or.inl (Or.inl rfl) | exact Or.inl (Or.inr rfl) | exact Or.inl rfl | (refine Or.inr ?_; (try simp); omega) | (refine Or.inl ?_; (try simp); omega))
    rintro e w3 ⟨⟨m2, rfl⟩, sg⟩
    go_wp2
    refine ⟨rfl, ?_⟩
    rw [HRR.out]
    refine ⟨Mv.out (mvt (mvt HS0.out HS1.out) (seg sg m2)) (fun b hb => by have hb : b = g ∨ b = w.heap.size := hb; omega), rfl⟩
  | ok r2 s2 =>
    try simp only [Res.to_ok] at hRR
    have Hx0 := hide x0
    clear x0
    have Hx1 := hide x1
    clear x1
    have HRR := hide hRR
    clear hRR
    go_enter Tryz.func189, Tryz.ntmps189
    go_wp2_with fail
    refine (step_sees (fun b => b = w.heap.size) ([45] : List UInt8) (wk := w) ?_ HQ0.out (fun b hb => by have hb : b = w.heap.size := hb; omega) ?_).mono ?_
    · (repeat' (first | with_reducible exact Sat.Mv.refl _ _ | with_reducible refine Sat.Mv.alloc ?_ _ | with_reducible refine Sat.Mv.drew ?_ | with_reducible refine Sat.Mv.drewN ?_ _ | with_reducible refine Sat.Mv.set ?_ ?_ _)) <;> (first | exact Or.inl (Or.inl rfl) | exact Or.inl (Or.inr rfl) | exact Or.inl rfl | (refine Or.inr ?_; (try simp); omega) | (refine Or.inl ?_; (try simp); omega))
    · first | exact heap_alloc_new _ _ | exact new_at1 _ _ _ | exact new_at2 _ _ _ _ | exact new_at3 _ _ _ _ _ | (simp only [World.size_setCell]; exact heap_alloc_new _ _)
    rintro e w1 ⟨⟨he, b2⟩, sg⟩
    rw [decide_eq_false Hx0.out] at he
    subst he
    have m2 : MvR g _ w1 := Sat.Mv.below b2
    have q2 : Q w1 g lo en dp st := (HQ0.out.mv sg (fun b hb => by have hb : b = w.heap.size := hb; omega)).below b2
    have z0 := m2.size
    try simp at z0
    have HS0 := hide (seg sg m2)
    have HQ1 := hide q2
    have hB : Blk 49 w1 (w.heap.size) #[.string ByteArray.empty, .string ByteArray.empty, .slice none 0 0, .slice none 0 0, .int .i64 0] := m2.blk (by (repeat' (first | exact Blk.new _ _ _ | with_reducible refine Blk.alloc ?_ _ | with_reducible refine Blk.drewN ?_ _ | with_reducible refine Blk.other ?_ ?_ _)) <;> (first | (simp; omega) | simp | omega)) (by omega)
    have HB := hide hB
    clear hB
    clear m2 q2 sg b2
    go_wp2_with fail
    refine (step_sees (fun b => b = w.heap.size) ([33] : List UInt8) (wk := w1) ?_ HQ1.out (fun b hb => by have hb : b = w.heap.size := hb; omega) ?_).mono ?_
    · (repeat' (first | with_reducible exact Sat.Mv.refl _ _ | with_reducible refine Sat.Mv.alloc ?_ _ | with_reducible refine Sat.Mv.drew ?_ | with_reducible refine Sat.Mv.drewN ?_ _ | with_reducible refine Sat.Mv.set ?_ ?_ _)) <;> (first | exact Or.inl (Or.inl rfl) | exact Or.inl (Or.inr rfl) | exact Or.inl rfl | (refine Or.inr ?_; (try simp); omega) | (refine Or.inl ?_; (try simp); omega))
    · first | exact heap_alloc_new _ _ | exact new_at1 _ _ _ | exact new_at2 _ _ _ _ | exact new_at3 _ _ _ _ _ | (simp only [World.size_setCell]; exact heap_alloc_new _ _)
    rintro e w2 ⟨⟨he, b2⟩, sg⟩
    rw [decide_eq_false Hx1.out] at he
    subst he
    have m2 : MvR g _ w2 := Sat.Mv.below b2
    have q2 : Q w2 g lo en dp st := (HQ1.out.mv sg (fun b hb => by have hb : b = w.heap.size := hb; omega)).below b2
    have z1 := m2.size
    try simp at z1
    have HS1 := hide (seg sg m2)
    have HQ2 := hide q2
    have hB : Blk 49 w2 (w.heap.size) #[.string ByteArray.empty, .string ByteArray.empty, .slice none 0 0, .slice none 0 0, .int .i64 0] := m2.blk (by (repeat' (first | with_reducible exact HB.out | with_reducible refine Blk.alloc ?_ _ | with_reducible refine Blk.drewN ?_ _ | with_reducible refine Blk.other ?_ ?_ _ | exact HB.out)) <;> (first | (simp; omega) | simp | omega)) (by omega)
    clear HB
    have HB := hide hB
    clear hB
    clear m2 q2 sg b2
    go_wp2_with fail
    refine (step_q (fun b => b = w.heap.size) (wk := w2) ?_ HQ2.out (fun b hb => by have hb : b = w.heap.size := hb; omega) (fun wz qz => HC2.out wz qz (fun e => by cases e))).mono ?_
    · (repeat' (first | with_reducible exact Sat.Mv.refl _ _ | with_reducible refine Sat.Mv.alloc ?_ _ | with_reducible refine Sat.Mv.drew ?_ | with_reducible refine Sat.Mv.drewN ?_ _ | with_reducible refine Sat.Mv.set ?_ ?_ _)) <;> (first | exact Or.inl (Or.inl rfl) | exact Or.inl (Or.inr rfl) | exact Or.inl rfl | (refine Or.inr ?_; (try simp); omega) | (refine Or.inl ?_; (try simp); omega))
    rintro e w3 ⟨⟨m2, q2, u, rfl, op2, nm2, args2, tys2, p2, A2, B2, rfl, rfl, xA2, xB2⟩, sg⟩
    obtain ⟨qA2, cA2, rfl⟩ := xA2.slice
    obtain ⟨qB2, cB2, rfl⟩ := xB2.slice
    have z2 := m2.size
    try simp at z2
    have HS2 := hide (seg sg m2)
    have HQ3 := hide q2
    replace HS0 := hide (Mv.wide (G := fun b => b = g ∨ b = w.heap.size ∨ b = w3.heap.size) HS0.out (fun b hb => by have hb : b = g ∨ b = w.heap.size := hb; show b = g ∨ b = w.heap.size ∨ b = w3.heap.size; omega))
    replace HS1 := hide (Mv.wide (G := fun b => b = g ∨ b = w.heap.size ∨ b = w3.heap.size) HS1.out (fun b hb => by have hb : b = g ∨ b = w.heap.size := hb; show b = g ∨ b = w.heap.size ∨ b = w3.heap.size; omega))
    replace HS2 := hide (Mv.wide (G := fun b => b = g ∨ b = w.heap.size ∨ b = w3.heap.size) HS2.out (fun b hb => by have hb : b = g ∨ b = w.heap.size := hb; show b = g ∨ b = w.heap.size ∨ b = w3.heap.size; omega))
    have HX2 := hide (And.intro xA2 xB2)
    clear xA2 xB2
    have hB : Blk 49 w3 (w.heap.size) #[.string ByteArray.empty, .string ByteArray.empty, .slice none 0 0, .slice none 0 0, .int .i64 0] := m2.blk (by (repeat' (first | with_reducible exact HB.out | with_reducible refine Blk.alloc ?_ _ | with_reducible refine Blk.drewN ?_ _ | with_reducible refine Blk.other ?_ ?_ _ | exact HB.out)) <;> (first | (simp; omega) | simp | omega)) (by omega)
    clear HB
    have HB := hide hB
    clear hB
    clear m2 q2 sg
    go_wp2
    go_loopg [19] N (fun gk sl wl => ∃ (op3 : List UInt8) (nm3 : List UInt8) (args3 : List (List V)) (tys3 : List (List V)) (p3 : Nat) (qA3 : Option Addr) (cA3 : Nat) (qB3 : Option Addr) (cB3 : Nat) (stk : List T), gk ≤ N ∧ Hid (R = P en gk (.post (exR op3 nm3 args3 tys3 p3)) dp stk ∧ Q wl g lo en dp stk ∧ Sat.Mv (fun b => b = g ∨ b = w.heap.size ∨ b = w3.heap.size) w wl ∧ Blk 49 wl (w.heap.size) #[.string ByteArray.empty, .string ByteArray.empty, .slice none 0 0, .slice none 0 0, .int .i64 0] ∧ Blk 49 wl (w3.heap.size) #[.string (tx op3), .string (tx nm3), .slice qA3 args3.length cA3, .slice qB3 tys3.length cB3, .int .i64 (p3 : Nat)] ∧ X wl (fun b => w.heap.size + 1 ≤ b ∧ b ≠ w3.heap.size) (.slice qA3 args3.length cA3) (.l 0 args3) ∧ X wl (fun b => w.heap.size + 1 ≤ b ∧ b ≠ w3.heap.size) (.slice qB3 tys3.length cB3) (.l 1 tys3)))
    case atStart => exact ⟨op2, nm2, args2, tys2, p2, qA2, cA2, qB2, cB2, s2, Nat.le_refl _, ⟨HRR.out, HQ3.out.mv (G := fun b => b = w.heap.size ∨ b = w3.heap.size) (show Sat.Mv (fun b => b = w.heap.size ∨ b = w3.heap.size) w3 _ from (by (repeat' (first | with_reducible exact Sat.Mv.refl _ _ | with_reducible refine Sat.Mv.alloc ?_ _ | with_reducible refine Sat.Mv.drew ?_ | with_reducible refine Sat.Mv.drewN ?_ _ | with_reducible refine Sat.Mv.set ?_ ?_ _)) <;> (first | exact Or.inl (Or.inl rfl) | exact Or.inl (Or.inr rfl) | exact Or.inl rfl | (refine Or.inr ?_; (try simp); omega) | (refine Or.inl ?_; (try simp); omega)))) (fun b hb => by have hb : b = w.heap.size ∨ b = w3.heap.size := hb; omega), (mvt (mvt (mvt HS0.out HS1.out) HS2.out) (Mv.wide (show Sat.Mv (fun b => b = w.heap.size ∨ b = w3.heap.size) w3 _ from (by (repeat' (first | with_reducible exact Sat.Mv.refl _ _ | with_reducible refine Sat.Mv.alloc ?_ _ | with_reducible refine Sat.Mv.drew ?_ | with_reducible refine Sat.Mv.drewN ?_ _ | with_reducible refine Sat.Mv.set ?_ ?_ _)) <;> (first | exact Or.inl (Or.inl rfl) | exact Or.inl (Or.inr rfl) | exact Or.inl rfl | (refine Or.inr ?_; (try simp); omega) | (refine Or.inl ?_; (try simp); omega)))) (fun b k => Or.inr k))), (by (repeat' (first | with_reducible exact HB.out | with_reducible refine Blk.alloc ?_ _ | with_reducible refine Blk.drewN ?_ _ | with_reducible refine Blk.other ?_ ?_ _ | exact HB.out)) <;> (first | (simp; omega) | simp | omega)), (by (repeat' (first | exact Blk.new _ _ _ | with_reducible refine Blk.alloc ?_ _ | with_reducible refine Blk.drewN ?_ _ | with_reducible refine Blk.other ?_ ?_ _)) <;> (first | (simp; omega) | simp | omega)), (HX2.out.1.stay (fun b hb hl => ⟨(Mv.wide (G := fun b => b = g ∨ b = w.heap.size ∨ b = w3.heap.size) (show Sat.Mv (fun b => b = w.heap.size ∨ b = w3.heap.size) w3 _ from (by (repeat' (first | with_reducible exact Sat.Mv.refl _ _ | with_reducible refine Sat.Mv.alloc ?_ _ | with_reducible refine Sat.Mv.drew ?_ | with_reducible refine Sat.Mv.drewN ?_ _ | with_reducible refine Sat.Mv.set ?_ ?_ _)) <;> (first | exact Or.inl (Or.inl rfl) | exact Or.inl (Or.inr rfl) | exact Or.inl rfl | (refine Or.inr ?_; (try simp); omega) | (refine Or.inl ?_; (try simp); omega)))) (fun b k => Or.inr k)).other b hl (by intro hk; (try simp at hb); have hk : b = g ∨ b = w.heap.size ∨ b = w3.heap.size := hk; omega), by (try simp at hb); show w.heap.size + 1 ≤ b ∧ b ≠ w3.heap.size; omega⟩)), (HX2.out.2.stay (fun b hb hl => ⟨(Mv.wide (G := fun b => b = g ∨ b = w.heap.size ∨ b = w3.heap.size) (show Sat.Mv (fun b => b = w.heap.size ∨ b = w3.heap.size) w3 _ from (by (repeat' (first | with_reducible exact Sat.Mv.refl _ _ | with_reducible refine Sat.Mv.alloc ?_ _ | with_reducible refine Sat.Mv.drew ?_ | with_reducible refine Sat.Mv.drewN ?_ _ | with_reducible refine Sat.Mv.set ?_ ?_ _)) <;> (first | exact Or.inl (Or.inl rfl) | exact Or.inl (Or.inr rfl) | exact Or.inl rfl | (refine Or.inr ?_; (try simp); omega) | (refine Or.inl ?_; (try simp); omega)))) (fun b k => Or.inr k)).other b hl (by intro hk; (try simp at hb); have hk : b = g ∨ b = w.heap.size ∨ b = w3.heap.size := hk; omega), by (try simp at hb); show w.heap.size + 1 ≤ b ∧ b ≠ w3.heap.size; omega⟩))⟩⟩
    case round =>
      rename World => w4
      obtain ⟨op3, nm3, args3, tys3, p3, qA3, cA3, qB3, cB3, stk, hkN, HREL⟩ := hrel
      clear HRR
      try clear HB
      have hRR := HREL.out.1
      have HQ4 := hide HREL.out.2.1
      have HS3 := hide HREL.out.2.2.1
      have HB := hide HREL.out.2.2.2.1
      have HL0 := hide HREL.out.2.2.2.2.1
      have HX3 := hide HREL.out.2.2.2.2.2
      clear HREL
      have z3 := HS3.out.size
      have zB := HB.out.lt
      have hLl0 := HL0.out.lt
      have zL3 := hLl0
      obtain ⟨l0_0, l0_1, l0_2, l0_3, l0_4, f0_0, f0_1, f0_2, f0_3, f0_4⟩ := bk5 HL0.out
      cases gk with
      | zero => exact absurd hRR hne
      | succ m =>
      simp only [P, wantP, nameP] at hRR
      by_cases x4 : (Syn.hd en stk).x = ([46] : List UInt8)
      case pos =>
        rw [if_pos x4] at hRR
        try rw [decide_eq_true x4] at hRR
        have HC5 : Hid (∀ w1, Q w1 g lo en dp stk.tail → w.heap.size + 1 ≤ w1.heap.size → w3.heap.size < w1.heap.size → X w1 (fun b => w.heap.size + 1 ≤ b ∧ b ≠ w3.heap.size) (.slice qA3 args3.length cA3) (.l 0 args3) → X w1 (fun b => w.heap.size + 1 ≤ b ∧ b ≠ w3.heap.size) (.slice qB3 tys3.length cB3) (.l 1 tys3) → P en m (.part (exR op3 nm3 args3 tys3 p3)) dp stk.tail ≠ .out → Calls Tryz.prog 193 #[.pointer (some ⟨g, 0, none⟩), .agg #[.string (tx op3), .string (tx nm3), .slice qA3 args3.length cA3, .slice qB3 tys3.length cB3, .int .i64 (p3 : Nat)]] w1 fun e w' => AnsB ShE (w.heap.size + 1) (w3.heap.size) w1 g lo en dp e w' (P en m (.part (exR op3 nm3 args3 tys3 p3)) dp stk.tail)) := fun w1 q1 hb1 he1 xa1 xb1 hn => hpart m (by omega) w1 dp stk.tail (w.heap.size + 1) (w3.heap.size) op3 nm3 args3 tys3 p3 qA3 cA3 qB3 cB3 q1 (by omega) hb1 he1 xa1 xb1 hn
        have HP5 := hide <| P_isE en m (.part (exR op3 nm3 args3 tys3 p3)) dp stk.tail
        generalize P en m (.part (exR op3 nm3 args3 tys3 p3)) dp stk.tail = E5 at hRR HC5 HP5
        cases E5 with
        | out => exact absurd hRR hne
        | bad cc a =>
          have Hx4 := hide x4
          clear x4
          have HRR := hide hRR
          clear hRR
          go_wp2_with fail
          refine (step_q (fun b => b = w.heap.size ∨ b = w3.heap.size) (wk := w4) ?_ HQ4.out (fun b hb => by have hb : b = w.heap.size ∨ b = w3.heap.size := hb; omega) (fun wz qz => passes_q ([46] : List UInt8) (by decide) wz g lo en dp stk qz)).mono ?_
          · (repeat' (first | with_reducible exact Sat.Mv.refl _ _ | with_reducible refine Sat.Mv.alloc ?_ _ | with_reducible refine Sat.Mv.drew ?_ | with_reducible refine Sat.Mv.drewN ?_ _ | with_reducible refine Sat.Mv.set ?_ ?_ _)) <;> (first | exact Or.inl (Or.inl rfl) | exact Or.inl (Or.inr rfl) | exact Or.inl rfl | (refine Or.inr ?_; (try simp); omega) | (refine Or.inl ?_; (try simp); omega))
          rintro e w5 ⟨⟨he, q2, m2⟩, sg⟩
          rw [decide_eq_true Hx4.out] at he
          rw [if_pos Hx4.out] at q2
          subst he
          have z4 := m2.size
          try simp at z4
          have HS4 := hide (seg sg m2)
          have HQ5 := hide q2
          have hB : Blk 49 w5 (w.heap.size) #[.string ByteArray.empty, .string ByteArray.empty, .slice none 0 0, .slice none 0 0, .int .i64 0] := m2.blk (by (repeat' (first | with_reducible exact HB.out | with_reducible refine Blk.alloc ?_ _ | with_reducible refine Blk.drewN ?_ _ | with_reducible refine Blk.other ?_ ?_ _ | exact HB.out)) <;> (first | (simp; omega) | simp | omega)) (by omega)
          clear HB
          have HB := hide hB
          clear hB
          have hL : Blk 49 w5 (w3.heap.size) #[.string (tx op3), .string (tx nm3), .slice qA3 args3.length cA3, .slice qB3 tys3.length cB3, .int .i64 (p3 : Nat)] := m2.blk (by (repeat' (first | with_reducible exact HL0.out | with_reducible refine Blk.alloc ?_ _ | with_reducible refine Blk.drewN ?_ _ | with_reducible refine Blk.other ?_ ?_ _ | exact HL0.out)) <;> (first | (simp; omega) | simp | omega)) (by omega)
          clear HL0 l0_0 l0_1 l0_2 l0_3 l0_4 f0_0 f0_1 f0_2 f0_3 f0_4 hLl0
          have HL0 := hide hL
          clear hL
          obtain ⟨l0_0, l0_1, l0_2, l0_3, l0_4, f0_0, f0_1, f0_2, f0_3, f0_4⟩ := bk5 HL0.out
          have hLl0 := HL0.out.lt
          clear m2 q2 sg
          go_wp2_with fail
          refine (step_b (fun b => b = w.heap.size ∨ b = w3.heap.size) (wk := w5) ?_ HQ5.out (fun b hb => by have hb : b = w.heap.size ∨ b = w3.heap.size := hb; omega) (fun wz qz mz => HC5.out wz qz (by have := mz.size; omega) (by have := mz.size; omega) (HX3.out.1.stay (fun b hb hl => ⟨(mvt HS4.out (Mv.wide (G := fun b => b = g ∨ b = w.heap.size ∨ b = w3.heap.size) mz (fun b k => Or.inr k))).other b hl (by intro hk; (try simp at hb); have hk : b = g ∨ b = w.heap.size ∨ b = w3.heap.size := hk; omega), hb⟩)) (HX3.out.2.stay (fun b hb hl => ⟨(mvt HS4.out (Mv.wide (G := fun b => b = g ∨ b = w.heap.size ∨ b = w3.heap.size) mz (fun b k => Or.inr k))).other b hl (by intro hk; (try simp at hb); have hk : b = g ∨ b = w.heap.size ∨ b = w3.heap.size := hk; omega), hb⟩)) (fun e => by cases e))).mono ?_
          · (repeat' (first | with_reducible exact Sat.Mv.refl _ _ | with_reducible refine Sat.Mv.alloc ?_ _ | with_reducible refine Sat.Mv.drew ?_ | with_reducible refine Sat.Mv.drewN ?_ _ | with_reducible refine Sat.Mv.set ?_ ?_ _)) <;> (first | exact Or.inl (Or.inl rfl) | exact Or.inl (Or.inr rfl) | exact Or.inl rfl | (refine Or.inr ?_; (try simp); omega) | (refine Or.inl ?_; (try simp); omega))
          rintro e w6 ⟨⟨m2, rfl⟩, sg⟩
          go_wp2
          refine ⟨rfl, ?_⟩
          rw [HRR.out]
          refine ⟨Mv.out (mvt (mvt HS3.out HS4.out) (seg sg m2)) (fun b hb => by have hb : b = g ∨ b = w.heap.size ∨ b = w3.heap.size := hb; omega), rfl⟩
        | ok r5 s5 =>
          try simp only [Res.to_ok] at hRR
          have Hx4 := hide x4
          clear x4
          have HRR := hide hRR
          clear hRR
          go_wp2_with fail
          refine (step_q (fun b => b = w.heap.size ∨ b = w3.heap.size) (wk := w4) ?_ HQ4.out (fun b hb => by have hb : b = w.heap.size ∨ b = w3.heap.size := hb; omega) (fun wz qz => passes_q ([46] : List UInt8) (by decide) wz g lo en dp stk qz)).mono ?_
          · (repeat' (first | with_reducible exact Sat.Mv.refl _ _ | with_reducible refine Sat.Mv.alloc ?_ _ | with_reducible refine Sat.Mv.drew ?_ | with_reducible refine Sat.Mv.drewN ?_ _ | with_reducible refine Sat.Mv.set ?_ ?_ _)) <;> (first | exact Or.inl (Or.inl rfl) | exact Or.inl (Or.inr rfl) | exact Or.inl rfl | (refine Or.inr ?_; (try simp); omega) | (refine Or.inl ?_; (try simp); omega))
          rintro e w5 ⟨⟨he, q2, m2⟩, sg⟩
          rw [decide_eq_true Hx4.out] at he
          rw [if_pos Hx4.out] at q2
          subst he
          have z4 := m2.size
          try simp at z4
          have HS4 := hide (seg sg m2)
          have HQ5 := hide q2
          have hB : Blk 49 w5 (w.heap.size) #[.string ByteArray.empty, .string ByteArray.empty, .slice none 0 0, .slice none 0 0, .int .i64 0] := m2.blk (by (repeat' (first | with_reducible exact HB.out | with_reducible refine Blk.alloc ?_ _ | with_reducible refine Blk.drewN ?_ _ | with_reducible refine Blk.other ?_ ?_ _ | exact HB.out)) <;> (first | (simp; omega) | simp | omega)) (by omega)
          clear HB
          have HB := hide hB
          clear hB
          have hL : Blk 49 w5 (w3.heap.size) #[.string (tx op3), .string (tx nm3), .slice qA3 args3.length cA3, .slice qB3 tys3.length cB3, .int .i64 (p3 : Nat)] := m2.blk (by (repeat' (first | with_reducible exact HL0.out | with_reducible refine Blk.alloc ?_ _ | with_reducible refine Blk.drewN ?_ _ | with_reducible refine Blk.other ?_ ?_ _ | exact HL0.out)) <;> (first | (simp; omega) | simp | omega)) (by omega)
          clear HL0 l0_0 l0_1 l0_2 l0_3 l0_4 f0_0 f0_1 f0_2 f0_3 f0_4 hLl0
          have HL0 := hide hL
          clear hL
          obtain ⟨l0_0, l0_1, l0_2, l0_3, l0_4, f0_0, f0_1, f0_2, f0_3, f0_4⟩ := bk5 HL0.out
          have hLl0 := HL0.out.lt
          clear m2 q2 sg
          go_wp2_with fail
          refine (step_b (fun b => b = w.heap.size ∨ b = w3.heap.size) (wk := w5) ?_ HQ5.out (fun b hb => by have hb : b = w.heap.size ∨ b = w3.heap.size := hb; omega) (fun wz qz mz => HC5.out wz qz (by have := mz.size; omega) (by have := mz.size; omega) (HX3.out.1.stay (fun b hb hl => ⟨(mvt HS4.out (Mv.wide (G := fun b => b = g ∨ b = w.heap.size ∨ b = w3.heap.size) mz (fun b k => Or.inr k))).other b hl (by intro hk; (try simp at hb); have hk : b = g ∨ b = w.heap.size ∨ b = w3.heap.size := hk; omega), hb⟩)) (HX3.out.2.stay (fun b hb hl => ⟨(mvt HS4.out (Mv.wide (G := fun b => b = g ∨ b = w.heap.size ∨ b = w3.heap.size) mz (fun b k => Or.inr k))).other b hl (by intro hk; (try simp at hb); have hk : b = g ∨ b = w.heap.size ∨ b = w3.heap.size := hk; omega), hb⟩)) (fun e => by cases e))).mono ?_
          · (repeat' (first | with_reducible exact Sat.Mv.refl _ _ | with_reducible refine Sat.Mv.alloc ?_ _ | with_reducible refine Sat.Mv.drew ?_ | with_reducible refine Sat.Mv.drewN ?_ _ | with_reducible refine Sat.Mv.set ?_ ?_ _)) <;> (first | exact Or.inl (Or.inl rfl) | exact Or.inl (Or.inr rfl) | exact Or.inl rfl | (refine Or.inr ?_; (try simp); omega) | (refine Or.inl ?_; (try simp); omega))
          rintro e w6 ⟨⟨m2, q2, u, rfl, op5, nm5, args5, tys5, p5, A5, B5, rfl, rfl, xA5, xB5⟩, sg⟩
          obtain ⟨qA5, cA5, rfl⟩ := xA5.slice
          obtain ⟨qB5, cB5, rfl⟩ := xB5.slice
          have z5 := m2.size
          try simp at z5
          have HS5 := hide (seg sg m2)
          have HQ6 := hide q2
          have HX5 := hide (And.intro xA5 xB5)
          clear xA5 xB5
          have hB : Blk 49 w6 (w.heap.size) #[.string ByteArray.empty, .string ByteArray.empty, .slice none 0 0, .slice none 0 0, .int .i64 0] := m2.blk (by (repeat' (first | with_reducible exact HB.out | with_reducible refine Blk.alloc ?_ _ | with_reducible refine Blk.drewN ?_ _ | with_reducible refine Blk.other ?_ ?_ _ | exact HB.out)) <;> (first | (simp; omega) | simp | omega)) (by omega)
          clear HB
          have HB := hide hB
          clear hB
          have hL : Blk 49 w6 (w3.heap.size) #[.string (tx op3), .string (tx nm3), .slice qA3 args3.length cA3, .slice qB3 tys3.length cB3, .int .i64 (p3 : Nat)] := m2.blk (by (repeat' (first | with_reducible exact HL0.out | with_reducible refine Blk.alloc ?_ _ | with_reducible refine Blk.drewN ?_ _ | with_reducible refine Blk.other ?_ ?_ _ | exact HL0.out)) <;> (first | (simp; omega) | simp | omega)) (by omega)
          clear HL0 l0_0 l0_1 l0_2 l0_3 l0_4 f0_0 f0_1 f0_2 f0_3 f0_4 hLl0
          have HL0 := hide hL
          clear hL
          obtain ⟨l0_0, l0_1, l0_2, l0_3, l0_4, f0_0, f0_1, f0_2, f0_3, f0_4⟩ := bk5 HL0.out
          have hLl0 := HL0.out.lt
          clear m2 q2 sg
          clear l0_0 l0_1 l0_2 l0_3 l0_4 f0_0 f0_1 f0_2 f0_3 f0_4
          go_wp2_with ((show wpList _ _ _ _ _ _); refine store_blk rfl 49 (.tmp 3) (.tmp 24) rfl (w3.heap.size) _ rfl rfl 49 #[.string (tx op3), .string (tx nm3), .slice qA3 args3.length cA3, .slice qB3 tys3.length cB3, .int .i64 (p3 : Nat)] (by (repeat' (first | with_reducible exact HL0.out | with_reducible refine Blk.alloc ?_ _ | with_reducible refine Blk.drewN ?_ _ | with_reducible refine Blk.other ?_ ?_ _ | exact HL0.out)) <;> (first | (simp; omega) | simp | omega)) (by kernel_rfl) rfl rfl ?_; intro wf b2 m2; have HE := hide (show Sat.Mv (fun b => b = w.heap.size ∨ b = w3.heap.size) w6 wf from mvt (by (repeat' (first | with_reducible exact Sat.Mv.refl _ _ | with_reducible refine Sat.Mv.alloc ?_ _ | with_reducible refine Sat.Mv.drew ?_ | with_reducible refine Sat.Mv.drewN ?_ _ | with_reducible refine Sat.Mv.set ?_ ?_ _)) <;> (first | exact Or.inl (Or.inl rfl) | exact Or.inl (Or.inr rfl) | exact Or.inl rfl | (refine Or.inr ?_; (try simp); omega) | (refine Or.inl ?_; (try simp); omega))) (Mv.wide m2 (fun b (hb : b = w3.heap.size) => by show b = w.heap.size ∨ b = w3.heap.size; omega))); have HM := hide m2; have HBL := hide b2; clear m2 b2)
          go_roundg m
          case measure => omega
          case rel =>
            exact ⟨op5, nm5, args5, tys5, p5, qA5, cA5, qB5, cB5, s5, by omega, ⟨HRR.out, HQ6.out.mv (G := fun b => b = w.heap.size ∨ b = w3.heap.size) HE.out (fun b hb => by have hb : b = w.heap.size ∨ b = w3.heap.size := hb; omega), mvt (mvt (mvt HS3.out HS4.out) HS5.out) (Mv.wide HE.out (fun b k => Or.inr k)), ((HM.out.other (w.heap.size) (by have := HB.out.lt; (try simp); omega) (fun hk => by have hk : w.heap.size = w3.heap.size := hk; omega)).trans (by (repeat' (first | with_reducible exact HB.out | with_reducible refine Blk.alloc ?_ _ | with_reducible refine Blk.drewN ?_ _ | with_reducible refine Blk.other ?_ ?_ _ | exact HB.out)) <;> (first | (simp; omega) | simp | omega))), HBL.out, (HX5.out.1.stay (fun b hb hl => ⟨(Mv.wide (G := fun b => b = g ∨ b = w.heap.size ∨ b = w3.heap.size) HE.out (fun b k => Or.inr k)).other b hl (by intro hk; (try simp at hb); have hk : b = g ∨ b = w.heap.size ∨ b = w3.heap.size := hk; omega), by (try simp at hb); show w.heap.size + 1 ≤ b ∧ b ≠ w3.heap.size; omega⟩)), (HX5.out.2.stay (fun b hb hl => ⟨(Mv.wide (G := fun b => b = g ∨ b = w.heap.size ∨ b = w3.heap.size) HE.out (fun b k => Or.inr k)).other b hl (by intro hk; (try simp at hb); have hk : b = g ∨ b = w.heap.size ∨ b = w3.heap.size := hk; omega), by (try simp at hb); show w.heap.size + 1 ≤ b ∧ b ≠ w3.heap.size; omega⟩))⟩⟩
      rw [if_neg x4] at hRR
      try rw [decide_eq_false x4] at hRR
      by_cases x5 : (Syn.hd en stk).x = ([91] : List UInt8)
      case pos =>
        rw [if_pos x5] at hRR
        try rw [decide_eq_true x5] at hRR
        have HC6 : Hid (∀ w1, Q w1 g lo en dp stk → w.heap.size + 1 ≤ w1.heap.size → w3.heap.size < w1.heap.size → X w1 (fun b => w.heap.size + 1 ≤ b ∧ b ≠ w3.heap.size) (.slice qA3 args3.length cA3) (.l 0 args3) → X w1 (fun b => w.heap.size + 1 ≤ b ∧ b ≠ w3.heap.size) (.slice qB3 tys3.length cB3) (.l 1 tys3) → P en m (.index (exR op3 nm3 args3 tys3 p3)) dp stk ≠ .out → Calls Tryz.prog 194 #[.pointer (some ⟨g, 0, none⟩), .agg #[.string (tx op3), .string (tx nm3), .slice qA3 args3.length cA3, .slice qB3 tys3.length cB3, .int .i64 (p3 : Nat)]] w1 fun e w' => AnsB ShE (w.heap.size + 1) (w3.heap.size) w1 g lo en dp e w' (P en m (.index (exR op3 nm3 args3 tys3 p3)) dp stk)) := fun w1 q1 hb1 he1 xa1 xb1 hn => hindex m (by omega) w1 dp stk (w.heap.size + 1) (w3.heap.size) op3 nm3 args3 tys3 p3 qA3 cA3 qB3 cB3 q1 (by omega) hb1 he1 xa1 xb1 (by exact hd_ne (by decide) x5) hn
        have HP6 := hide <| P_isE en m (.index (exR op3 nm3 args3 tys3 p3)) dp stk
        generalize P en m (.index (exR op3 nm3 args3 tys3 p3)) dp stk = E6 at hRR HC6 HP6
        cases E6 with
        | out => exact absurd hRR hne
        | bad cc a =>
          have Hx4 := hide x4
          clear x4
          have Hx5 := hide x5
          clear x5
          have HRR := hide hRR
          clear hRR
          go_wp2_with fail
          refine (step_q (fun b => b = w.heap.size ∨ b = w3.heap.size) (wk := w4) ?_ HQ4.out (fun b hb => by have hb : b = w.heap.size ∨ b = w3.heap.size := hb; omega) (fun wz qz => passes_q ([46] : List UInt8) (by decide) wz g lo en dp stk qz)).mono ?_
          · (repeat' (first | with_reducible exact Sat.Mv.refl _ _ | with_reducible refine Sat.Mv.alloc ?_ _ | with_reducible refine Sat.Mv.drew ?_ | with_reducible refine Sat.Mv.drewN ?_ _ | with_reducible refine Sat.Mv.set ?_ ?_ _)) <;> (first | exact Or.inl (Or.inl rfl) | exact Or.inl (Or.inr rfl) | exact Or.inl rfl | (refine Or.inr ?_; (try simp); omega) | (refine Or.inl ?_; (try simp); omega))
          rintro e w5 ⟨⟨he, q2, m2⟩, sg⟩
          rw [decide_eq_false Hx4.out] at he
          rw [if_neg Hx4.out] at q2
          subst he
          have z4 := m2.size
          try simp at z4
          have HS4 := hide (seg sg m2)
          have HQ5 := hide q2
          have hB : Blk 49 w5 (w.heap.size) #[.string ByteArray.empty, .string ByteArray.empty, .slice none 0 0, .slice none 0 0, .int .i64 0] := m2.blk (by (repeat' (first | with_reducible exact HB.out | with_reducible refine Blk.alloc ?_ _ | with_reducible refine Blk.drewN ?_ _ | with_reducible refine Blk.other ?_ ?_ _ | exact HB.out)) <;> (first | (simp; omega) | simp | omega)) (by omega)
          clear HB
          have HB := hide hB
          clear hB
          have hL : Blk 49 w5 (w3.heap.size) #[.string (tx op3), .string (tx nm3), .slice qA3 args3.length cA3, .slice qB3 tys3.length cB3, .int .i64 (p3 : Nat)] := m2.blk (by (repeat' (first | with_reducible exact HL0.out | with_reducible refine Blk.alloc ?_ _ | with_reducible refine Blk.drewN ?_ _ | with_reducible refine Blk.other ?_ ?_ _ | exact HL0.out)) <;> (first | (simp; omega) | simp | omega)) (by omega)
          clear HL0 l0_0 l0_1 l0_2 l0_3 l0_4 f0_0 f0_1 f0_2 f0_3 f0_4 hLl0
          have HL0 := hide hL
          clear hL
          obtain ⟨l0_0, l0_1, l0_2, l0_3, l0_4, f0_0, f0_1, f0_2, f0_3, f0_4⟩ := bk5 HL0.out
          have hLl0 := HL0.out.lt
          clear m2 q2 sg
          go_wp2_with fail
          refine (step_sees (fun b => b = w.heap.size ∨ b = w3.heap.size) ([91] : List UInt8) (wk := w5) ?_ HQ5.out (fun b hb => by have hb : b = w.heap.size ∨ b = w3.heap.size := hb; omega) ?_).mono ?_
          · (repeat' (first | with_reducible exact Sat.Mv.refl _ _ | with_reducible refine Sat.Mv.alloc ?_ _ | with_reducible refine Sat.Mv.drew ?_ | with_reducible refine Sat.Mv.drewN ?_ _ | with_reducible refine Sat.Mv.set ?_ ?_ _)) <;> (first | exact Or.inl (Or.inl rfl) | exact Or.inl (Or.inr rfl) | exact Or.inl rfl | (refine Or.inr ?_; (try simp); omega) | (refine Or.inl ?_; (try simp); omega))
          · first | exact heap_alloc_new _ _ | exact new_at1 _ _ _ | exact new_at2 _ _ _ _ | exact new_at3 _ _ _ _ _ | (simp only [World.size_setCell]; exact heap_alloc_new _ _)
          rintro e w6 ⟨⟨he, b2⟩, sg⟩
          rw [decide_eq_true Hx5.out] at he
          subst he
          have m2 : MvR g _ w6 := Sat.Mv.below b2
          have q2 : Q w6 g lo en dp stk := (HQ5.out.mv sg (fun b hb => by have hb : b = w.heap.size ∨ b = w3.heap.size := hb; omega)).below b2
          have z5 := m2.size
          try simp at z5
          have HS5 := hide (seg sg m2)
          have HQ6 := hide q2
          have hB : Blk 49 w6 (w.heap.size) #[.string ByteArray.empty, .string ByteArray.empty, .slice none 0 0, .slice none 0 0, .int .i64 0] := m2.blk (by (repeat' (first | with_reducible exact HB.out | with_reducible refine Blk.alloc ?_ _ | with_reducible refine Blk.drewN ?_ _ | with_reducible refine Blk.other ?_ ?_ _ | exact HB.out)) <;> (first | (simp; omega) | simp | omega)) (by omega)
          clear HB
          have HB := hide hB
          clear hB
          have hL : Blk 49 w6 (w3.heap.size) #[.string (tx op3), .string (tx nm3), .slice qA3 args3.length cA3, .slice qB3 tys3.length cB3, .int .i64 (p3 : Nat)] := m2.blk (by (repeat' (first | with_reducible exact HL0.out | with_reducible refine Blk.alloc ?_ _ | with_reducible refine Blk.drewN ?_ _ | with_reducible refine Blk.other ?_ ?_ _ | exact HL0.out)) <;> (first | (simp; omega) | simp | omega)) (by omega)
          clear HL0 l0_0 l0_1 l0_2 l0_3 l0_4 f0_0 f0_1 f0_2 f0_3 f0_4 hLl0
          have HL0 := hide hL
          clear hL
          obtain ⟨l0_0, l0_1, l0_2, l0_3, l0_4, f0_0, f0_1, f0_2, f0_3, f0_4⟩ := bk5 HL0.out
          have hLl0 := HL0.out.lt
          clear m2 q2 sg b2
          go_wp2_with fail
          refine (step_b (fun b => b = w.heap.size ∨ b = w3.heap.size) (wk := w6) ?_ HQ6.out (fun b hb => by have hb : b = w.heap.size ∨ b = w3.heap.size := hb; omega) (fun wz qz mz => HC6.out wz qz (by have := mz.size; omega) (by have := mz.size; omega) (HX3.out.1.stay (fun b hb hl => ⟨(mvt (mvt HS4.out HS5.out) (Mv.wide (G := fun b => b = g ∨ b = w.heap.size ∨ b = w3.heap.size) mz (fun b k => Or.inr k))).other b hl (by intro hk; (try simp at hb); have hk : b = g ∨ b = w.heap.size ∨ b = w3.heap.size := hk; omega), hb⟩)) (HX3.out.2.stay (fun b hb hl => ⟨(mvt (mvt HS4.out HS5.out) (Mv.wide (G := fun b => b = g ∨ b = w.heap.size ∨ b = w3.heap.size) mz (fun b k => Or.inr k))).other b hl (by intro hk; (try simp at hb); have hk : b = g ∨ b = w.heap.size ∨ b = w3.heap.size := hk; omega), hb⟩)) (fun e => by cases e))).mono ?_
          · (repeat' (first | with_reducible exact Sat.Mv.refl _ _ | with_reducible refine Sat.Mv.alloc ?_ _ | with_reducible refine Sat.Mv.drew ?_ | with_reducible refine Sat.Mv.drewN ?_ _ | with_reducible refine Sat.Mv.set ?_ ?_ _)) <;> (first | exact Or.inl (Or.inl rfl) | exact Or.inl (Or.inr rfl) | exact Or.inl rfl | (refine Or.inr ?_; (try simp); omega) | (refine Or.inl ?_; (try simp); omega))
          rintro e w7 ⟨⟨m2, rfl⟩, sg⟩
          go_wp2
          refine ⟨rfl, ?_⟩
          rw [HRR.out]
          refine ⟨Mv.out (mvt (mvt (mvt HS3.out HS4.out) HS5.out) (seg sg m2)) (fun b hb => by have hb : b = g ∨ b = w.heap.size ∨ b = w3.heap.size := hb; omega), rfl⟩
        | ok r6 s6 =>
          try simp only [Res.to_ok] at hRR
          have Hx4 := hide x4
          clear x4
          have Hx5 := hide x5
          clear x5
          have HRR := hide hRR
          clear hRR
          go_wp2_with fail
          refine (step_q (fun b => b = w.heap.size ∨ b = w3.heap.size) (wk := w4) ?_ HQ4.out (fun b hb => by have hb : b = w.heap.size ∨ b = w3.heap.size := hb; omega) (fun wz qz => passes_q ([46] : List UInt8) (by decide) wz g lo en dp stk qz)).mono ?_
          · (repeat' (first | with_reducible exact Sat.Mv.refl _ _ | with_reducible refine Sat.Mv.alloc ?_ _ | with_reducible refine Sat.Mv.drew ?_ | with_reducible refine Sat.Mv.drewN ?_ _ | with_reducible refine Sat.Mv.set ?_ ?_ _)) <;> (first | exact Or.inl (Or.inl rfl) | exact Or.inl (Or.inr rfl) | exact Or.inl rfl | (refine Or.inr ?_; (try simp); omega) | (refine Or.inl ?_; (try simp); omega))
          rintro e w5 ⟨⟨he, q2, m2⟩, sg⟩
          rw [decide_eq_false Hx4.out] at he
          rw [if_neg Hx4.out] at q2
          subst he
          have z4 := m2.size
          try simp at z4
          have HS4 := hide (seg sg m2)
          have HQ5 := hide q2
          have hB : Blk 49 w5 (w.heap.size) #[.string ByteArray.empty, .string ByteArray.empty, .slice none 0 0, .slice none 0 0, .int .i64 0] := m2.blk (by (repeat' (first | with_reducible exact HB.out | with_reducible refine Blk.alloc ?_ _ | with_reducible refine Blk.drewN ?_ _ | with_reducible refine Blk.other ?_ ?_ _ | exact HB.out)) <;> (first | (simp; omega) | simp | omega)) (by omega)
          clear HB
          have HB := hide hB
          clear hB
          have hL : Blk 49 w5 (w3.heap.size) #[.string (tx op3), .string (tx nm3), .slice qA3 args3.length cA3, .slice qB3 tys3.length cB3, .int .i64 (p3 : Nat)] := m2.blk (by (repeat' (first | with_reducible exact HL0.out | with_reducible refine Blk.alloc ?_ _ | with_reducible refine Blk.drewN ?_ _ | with_reducible refine Blk.other ?_ ?_ _ | exact HL0.out)) <;> (first | (simp; omega) | simp | omega)) (by omega)
          clear HL0 l0_0 l0_1 l0_2 l0_3 l0_4 f0_0 f0_1 f0_2 f0_3 f0_4 hLl0
          have HL0 := hide hL
          clear hL
          obtain ⟨l0_0, l0_1, l0_2, l0_3, l0_4, f0_0, f0_1, f0_2, f0_3, f0_4⟩ := bk5 HL0.out
          have hLl0 := HL0.out.lt
          clear m2 q2 sg
          go_wp2_with fail
          refine (step_sees (fun b => b = w.heap.size ∨ b = w3.heap.size) ([91] : List UInt8) (wk := w5) ?_ HQ5.out (fun b hb => by have hb : b = w.heap.size ∨ b = w3.heap.size := hb; omega) ?_).mono ?_
          · (repeat' (first | with_reducible exact Sat.Mv.refl _ _ | with_reducible refine Sat.Mv.alloc ?_ _ | with_reducible refine Sat.Mv.drew ?_ | with_reducible refine Sat.Mv.drewN ?_ _ | with_reducible refine Sat.Mv.set ?_ ?_ _)) <;> (first | exact Or.inl (Or.inl rfl) | exact Or.inl (Or.inr rfl) | exact Or.inl rfl | (refine Or.inr ?_; (try simp); omega) | (refine Or.inl ?_; (try simp); omega))
          · first | exact heap_alloc_new _ _ | exact new_at1 _ _ _ | exact new_at2 _ _ _ _ | exact new_at3 _ _ _ _ _ | (simp only [World.size_setCell]; exact heap_alloc_new _ _)
          rintro e w6 ⟨⟨he, b2⟩, sg⟩
          rw [decide_eq_true Hx5.out] at he
          subst he
          have m2 : MvR g _ w6 := Sat.Mv.below b2
          have q2 : Q w6 g lo en dp stk := (HQ5.out.mv sg (fun b hb => by have hb : b = w.heap.size ∨ b = w3.heap.size := hb; omega)).below b2
          have z5 := m2.size
          try simp at z5
          have HS5 := hide (seg sg m2)
          have HQ6 := hide q2
          have hB : Blk 49 w6 (w.heap.size) #[.string ByteArray.empty, .string ByteArray.empty, .slice none 0 0, .slice none 0 0, .int .i64 0] := m2.blk (by (repeat' (first | with_reducible exact HB.out | with_reducible refine Blk.alloc ?_ _ | with_reducible refine Blk.drewN ?_ _ | with_reducible refine Blk.other ?_ ?_ _ | exact HB.out)) <;> (first | (simp; omega) | simp | omega)) (by omega)
          clear HB
          have HB := hide hB
          clear hB
          have hL : Blk 49 w6 (w3.heap.size) #[.string (tx op3), .string (tx nm3), .slice qA3 args3.length cA3, .slice qB3 tys3.length cB3, .int .i64 (p3 : Nat)] := m2.blk (by (repeat' (first | with_reducible exact HL0.out | with_reducible refine Blk.alloc ?_ _ | with_reducible refine Blk.drewN ?_ _ | with_reducible refine Blk.other ?_ ?_ _ | exact HL0.out)) <;> (first | (simp; omega) | simp | omega)) (by omega)
          clear HL0 l0_0 l0_1 l0_2 l0_3 l0_4 f0_0 f0_1 f0_2 f0_3 f0_4 hLl0
          have HL0 := hide hL
          clear hL
          obtain ⟨l0_0, l0_1, l0_2, l0_3, l0_4, f0_0, f0_1, f0_2, f0_3, f0_4⟩ := bk5 HL0.out
          have hLl0 := HL0.out.lt
          clear m2 q2 sg b2
          go_wp2_with fail
          refine (step_b (fun b => b = w.heap.size ∨ b = w3.heap.size) (wk := w6) ?_ HQ6.out (fun b hb => by have hb : b = w.heap.size ∨ b = w3.heap.size := hb; omega) (fun wz qz mz => HC6.out wz qz (by have := mz.size; omega) (by have := mz.size; omega) (HX3.out.1.stay (fun b hb hl => ⟨(mvt (mvt HS4.out HS5.out) (Mv.wide (G := fun b => b = g ∨ b = w.heap.size ∨ b = w3.heap.size) mz (fun b k => Or.inr k))).other b hl (by intro hk; (try simp at hb); have hk : b = g ∨ b = w.heap.size ∨ b = w3.heap.size := hk; omega), hb⟩)) (HX3.out.2.stay (fun b hb hl => ⟨(mvt (mvt HS4.out HS5.out) (Mv.wide (G := fun b => b = g ∨ b = w.heap.size ∨ b = w3.heap.size) mz (fun b k => Or.inr k))).other b hl (by intro hk; (try simp at hb); have hk : b = g ∨ b = w.heap.size ∨ b = w3.heap.size := hk; omega), hb⟩)) (fun e => by cases e))).mono ?_
          · (repeat' (first | with_reducible exact Sat.Mv.refl _ _ | with_reducible refine Sat.Mv.alloc ?_ _ | with_reducible refine Sat.Mv.drew ?_ | with_reducible refine Sat.Mv.drewN ?_ _ | with_reducible refine Sat.Mv.set ?_ ?_ _)) <;> (first | exact Or.inl (Or.inl rfl) | exact Or.inl (Or.inr rfl) | exact Or.inl rfl | (refine Or.inr ?_; (try simp); omega) | (refine Or.inl ?_; (try simp); omega))
          rintro e w7 ⟨⟨m2, q2, u, rfl, op6, nm6, args6, tys6, p6, A6, B6, rfl, rfl, xA6, xB6⟩, sg⟩
          obtain ⟨qA6, cA6, rfl⟩ := xA6.slice
          obtain ⟨qB6, cB6, rfl⟩ := xB6.slice
          have z6 := m2.size
          try simp at z6
          have HS6 := hide (seg sg m2)
          have HQ7 := hide q2
          have HX6 := hide (And.intro xA6 xB6)
          clear xA6 xB6
          have hB : Blk 49 w7 (w.heap.size) #[.string ByteArray.empty, .string ByteArray.empty, .slice none 0 0, .slice none 0 0, .int .i64 0] := m2.blk (by (repeat' (first | with_reducible exact HB.out | with_reducible refine Blk.alloc ?_ _ | with_reducible refine Blk.drewN ?_ _ | with_reducible refine Blk.other ?_ ?_ _ | exact HB.out)) <;> (first | (simp; omega) | simp | omega)) (by omega)
          clear HB
          have HB := hide hB
          clear hB
          have hL : Blk 49 w7 (w3.heap.size) #[.string (tx op3), .string (tx nm3), .slice qA3 args3.length cA3, .slice qB3 tys3.length cB3, .int .i64 (p3 : Nat)] := m2.blk (by (repeat' (first | with_reducible exact HL0.out | with_reducible refine Blk.alloc ?_ _ | with_reducible refine Blk.drewN ?_ _ | with_reducible refine Blk.other ?_ ?_ _ | exact HL0.out)) <;> (first | (simp; omega) | simp | omega)) (by omega)
          clear HL0 l0_0 l0_1 l0_2 l0_3 l0_4 f0_0 f0_1 f0_2 f0_3 f0_4 hLl0
          have HL0 := hide hL
          clear hL
          obtain ⟨l0_0, l0_1, l0_2, l0_3, l0_4, f0_0, f0_1, f0_2, f0_3, f0_4⟩ := bk5 HL0.out
          have hLl0 := HL0.out.lt
          clear m2 q2 sg
          clear l0_0 l0_1 l0_2 l0_3 l0_4 f0_0 f0_1 f0_2 f0_3 f0_4
          go_wp2_with ((show wpList _ _ _ _ _ _); refine store_blk rfl 49 (.tmp 3) (.tmp 31) rfl (w3.heap.size) _ rfl rfl 49 #[.string (tx op3), .string (tx nm3), .slice qA3 args3.length cA3, .slice qB3 tys3.length cB3, .int .i64 (p3 : Nat)] (by (repeat' (first | with_reducible exact HL0.out | with_reducible refine Blk.alloc ?_ _ | with_reducible refine Blk.drewN ?_ _ | with_reducible refine Blk.other ?_ ?_ _ | exact HL0.out)) <;> (first | (simp; omega) | simp | omega)) (by kernel_rfl) rfl rfl ?_; intro wf b2 m2; have HE := hide (show Sat.Mv (fun b => b = w.heap.size ∨ b = w3.heap.size) w7 wf from mvt (by (repeat' (first | with_reducible exact Sat.Mv.refl _ _ | with_reducible refine Sat.Mv.alloc ?_ _ | with_reducible refine Sat.Mv.drew ?_ | with_reducible refine Sat.Mv.drewN ?_ _ | with_reducible refine Sat.Mv.set ?_ ?_ _)) <;> (first | exact Or.inl (Or.inl rfl) | exact Or.inl (Or.inr rfl) | exact Or.inl rfl | (refine Or.inr ?_; (try simp); omega) | (refine Or.inl ?_; (try simp); omega))) (Mv.wide m2 (fun b (hb : b = w3.heap.size) => by show b = w.heap.size ∨ b = w3.heap.size; omega))); have HM := hide m2; have HBL := hide b2; clear m2 b2)
          go_roundg m
          case measure => omega
          case rel =>
            exact ⟨op6, nm6, args6, tys6, p6, qA6, cA6, qB6, cB6, s6, by omega, ⟨HRR.out, HQ7.out.mv (G := fun b => b = w.heap.size ∨ b = w3.heap.size) HE.out (fun b hb => by have hb : b = w.heap.size ∨ b = w3.heap.size := hb; omega), mvt (mvt (mvt (mvt HS3.out HS4.out) HS5.out) HS6.out) (Mv.wide HE.out (fun b k => Or.inr k)), ((HM.out.other (w.heap.size) (by have := HB.out.lt; (try simp); omega) (fun hk => by have hk : w.heap.size = w3.heap.size := hk; omega)).trans (by (repeat' (first | with_reducible exact HB.out | with_reducible refine Blk.alloc ?_ _ | with_reducible refine Blk.drewN ?_ _ | with_reducible refine Blk.other ?_ ?_ _ | exact HB.out)) <;> (first | (simp; omega) | simp | omega))), HBL.out, (HX6.out.1.stay (fun b hb hl => ⟨(Mv.wide (G := fun b => b = g ∨ b = w.heap.size ∨ b = w3.heap.size) HE.out (fun b k => Or.inr k)).other b hl (by intro hk; (try simp at hb); have hk : b = g ∨ b = w.heap.size ∨ b = w3.heap.size := hk; omega), by (try simp at hb); show w.heap.size + 1 ≤ b ∧ b ≠ w3.heap.size; omega⟩)), (HX6.out.2.stay (fun b hb hl => ⟨(Mv.wide (G := fun b => b = g ∨ b = w.heap.size ∨ b = w3.heap.size) HE.out (fun b k => Or.inr k)).other b hl (by intro hk; (try simp at hb); have hk : b = g ∨ b = w.heap.size ∨ b = w3.heap.size := hk; omega), by (try simp at hb); show w.heap.size + 1 ≤ b ∧ b ≠ w3.heap.size; omega⟩))⟩⟩
      rw [if_neg x5] at hRR
      try rw [decide_eq_false x5] at hRR
      have Hx4 := hide x4
      clear x4
      have Hx5 := hide x5
      clear x5
      have HRR := hide hRR
      clear hRR
      go_wp2_with fail
      refine (step_q (fun b => b = w.heap.size ∨ b = w3.heap.size) (wk := w4) ?_ HQ4.out (fun b hb => by have hb : b = w.heap.size ∨ b = w3.heap.size := hb; omega) (fun wz qz => passes_q ([46] : List UInt8) (by decide) wz g lo en dp stk qz)).mono ?_
      · (repeat' (first | with_reducible exact Sat.Mv.refl _ _ | with_reducible refine Sat.Mv.alloc ?_ _ | with_reducible refine Sat.Mv.drew ?_ | with_reducible refine Sat.Mv.drewN ?_ _ | with_reducible refine Sat.Mv.set ?_ ?_ _)) <;> (first | exact Or.inl (Or.inl rfl) | exact Or.inl (Or.inr rfl) | exact Or.inl rfl | (refine Or.inr ?_; (try simp); omega) | (refine Or.inl ?_; (try simp); omega))
      rintro e w5 ⟨⟨he, q2, m2⟩, sg⟩
      rw [decide_eq_false Hx4.out] at he
      rw [if_neg Hx4.out] at q2
      subst he
      have z4 := m2.size
      try simp at z4
      have HS4 := hide (seg sg m2)
      have HQ5 := hide q2
      have hB : Blk 49 w5 (w.heap.size) #[.string ByteArray.empty, .string ByteArray.empty, .slice none 0 0, .slice none 0 0, .int .i64 0] := m2.blk (by (repeat' (first | with_reducible exact HB.out | with_reducible refine Blk.alloc ?_ _ | with_reducible refine Blk.drewN ?_ _ | with_reducible refine Blk.other ?_ ?_ _ | exact HB.out)) <;> (first | (simp; omega) | simp | omega)) (by omega)
      clear HB
      have HB := hide hB
      clear hB
      have hL : Blk 49 w5 (w3.heap.size) #[.string (tx op3), .string (tx nm3), .slice qA3 args3.length cA3, .slice qB3 tys3.length cB3, .int .i64 (p3 : Nat)] := m2.blk (by (repeat' (first | with_reducible exact HL0.out | with_reducible refine Blk.alloc ?_ _ | with_reducible refine Blk.drewN ?_ _ | with_reducible refine Blk.other ?_ ?_ _ | exact HL0.out)) <;> (first | (simp; omega) | simp | omega)) (by omega)
      clear HL0 l0_0 l0_1 l0_2 l0_3 l0_4 f0_0 f0_1 f0_2 f0_3 f0_4 hLl0
      have HL0 := hide hL
      clear hL
      obtain ⟨l0_0, l0_1, l0_2, l0_3, l0_4, f0_0, f0_1, f0_2, f0_3, f0_4⟩ := bk5 HL0.out
      have hLl0 := HL0.out.lt
      clear m2 q2 sg
      go_wp2_with fail
      refine (step_sees (fun b => b = w.heap.size ∨ b = w3.heap.size) ([91] : List UInt8) (wk := w5) ?_ HQ5.out (fun b hb => by have hb : b = w.heap.size ∨ b = w3.heap.size := hb; omega) ?_).mono ?_
      · (repeat' (first | with_reducible exact Sat.Mv.refl _ _ | with_reducible refine Sat.Mv.alloc ?_ _ | with_reducible refine Sat.Mv.drew ?_ | with_reducible refine Sat.Mv.drewN ?_ _ | with_reducible refine Sat.Mv.set ?_ ?_ _)) <;> (first | exact Or.inl (Or.inl rfl) | exact Or.inl (Or.inr rfl) | exact Or.inl rfl | (refine Or.inr ?_; (try simp); omega) | (refine Or.inl ?_; (try simp); omega))
      · first | exact heap_alloc_new _ _ | exact new_at1 _ _ _ | exact new_at2 _ _ _ _ | exact new_at3 _ _ _ _ _ | (simp only [World.size_setCell]; exact heap_alloc_new _ _)
      rintro e w6 ⟨⟨he, b2⟩, sg⟩
      rw [decide_eq_false Hx5.out] at he
      subst he
      have m2 : MvR g _ w6 := Sat.Mv.below b2
      have q2 : Q w6 g lo en dp stk := (HQ5.out.mv sg (fun b hb => by have hb : b = w.heap.size ∨ b = w3.heap.size := hb; omega)).below b2
      have z5 := m2.size
      try simp at z5
      have HS5 := hide (seg sg m2)
      have HQ6 := hide q2
      have hB : Blk 49 w6 (w.heap.size) #[.string ByteArray.empty, .string ByteArray.empty, .slice none 0 0, .slice none 0 0, .int .i64 0] := m2.blk (by (repeat' (first | with_reducible exact HB.out | with_reducible refine Blk.alloc ?_ _ | with_reducible refine Blk.drewN ?_ _ | with_reducible refine Blk.other ?_ ?_ _ | exact HB.out)) <;> (first | (simp; omega) | simp | omega)) (by omega)
      clear HB
      have HB := hide hB
      clear hB
      have hL : Blk 49 w6 (w3.heap.size) #[.string (tx op3), .string (tx nm3), .slice qA3 args3.length cA3, .slice qB3 tys3.length cB3, .int .i64 (p3 : Nat)] := m2.blk (by (repeat' (first | with_reducible exact HL0.out | with_reducible refine Blk.alloc ?_ _ | with_reducible refine Blk.drewN ?_ _ | with_reducible refine Blk.other ?_ ?_ _ | exact HL0.out)) <;> (first | (simp; omega) | simp | omega)) (by omega)
      clear HL0 l0_0 l0_1 l0_2 l0_3 l0_4 f0_0 f0_1 f0_2 f0_3 f0_4 hLl0
      have HL0 := hide hL
      clear hL
      obtain ⟨l0_0, l0_1, l0_2, l0_3, l0_4, f0_0, f0_1, f0_2, f0_3, f0_4⟩ := bk5 HL0.out
      have hLl0 := HL0.out.lt
      clear m2 q2 sg b2
      go_wp2_with ((show wpList _ _ _ _ _ _); refine store_blk rfl 49 (.tmp 2) (.tmp 18) rfl (w.heap.size) _ rfl rfl 49 #[.string ByteArray.empty, .string ByteArray.empty, .slice none 0 0, .slice none 0 0, .int .i64 0] (by (repeat' (first | with_reducible exact HB.out | with_reducible refine Blk.alloc ?_ _ | with_reducible refine Blk.drewN ?_ _ | with_reducible refine Blk.other ?_ ?_ _ | exact HB.out)) <;> (first | (simp; omega) | simp | omega)) (by kernel_rfl) rfl rfl ?_; intro wf b2 m2; have HE := hide (show Sat.Mv (fun b => b = w.heap.size ∨ b = w3.heap.size) w6 wf from mvt (by (repeat' (first | with_reducible exact Sat.Mv.refl _ _ | with_reducible refine Sat.Mv.alloc ?_ _ | with_reducible refine Sat.Mv.drew ?_ | with_reducible refine Sat.Mv.drewN ?_ _ | with_reducible refine Sat.Mv.set ?_ ?_ _)) <;> (first | exact Or.inl (Or.inl rfl) | exact Or.inl (Or.inr rfl) | exact Or.inl rfl | (refine Or.inr ?_; (try simp); omega) | (refine Or.inl ?_; (try simp); omega))) (Mv.wide m2 (fun b hb => Or.inl hb))); have HM := hide m2; obtain ⟨c0, c1, c2, c3, c4, k0, k1, k2, k3, k4⟩ := bk5 b2; clear m2 b2)
      refine bodyPost_ret (v := .agg #[.string (tx op3), .string (tx nm3), .slice qA3 args3.length cA3, .slice qB3 tys3.length cB3, .int .i64 (p3 : Nat)]) (by simp [results, Tryz.results189, go_sem, c0, c1, c2, c3, c4]) rfl ?_
      rw [HRR.out]
      exact ans_fin (fun b => b = w.heap.size ∨ b = w3.heap.size) HE.out (mvt (mvt HS3.out HS4.out) HS5.out) (fun b hb => by have hb : b = g ∨ b = w.heap.size ∨ b = w3.heap.size := hb; omega) HQ6.out (fun b hb => by have hb : b = w.heap.size ∨ b = w3.heap.size := hb; omega) ⟨_, _, _, _, _, _, _, rfl, rfl, HX3.out.1.far (G := fun b => b = g ∨ b = w.heap.size ∨ b = w3.heap.size) (mvt (mvt HS4.out HS5.out) (Mv.wide HE.out fun b k => Or.inr k)) (by intro b hb hl hk; (try simp at hb); have hk : b = g ∨ b = w.heap.size ∨ b = w3.heap.size := hk; omega) (by intro b hb; (try simp at hb); show w.heap.size ≤ b; omega), HX3.out.2.far (G := fun b => b = g ∨ b = w.heap.size ∨ b = w3.heap.size) (mvt (mvt HS4.out HS5.out) (Mv.wide HE.out fun b k => Or.inr k)) (by intro b hb hl hk; (try simp at hb); have hk : b = g ∨ b = w.heap.size ∨ b = w3.heap.size := hk; omega) (by intro b hb; (try simp at hb); show w.heap.size ≤ b; omega)⟩
end Syn
end Go.Proofs.YtomldkljlbdnjaaGreat
