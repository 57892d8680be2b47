/- Methods of the reader: stmt. No statement of the seat is proved here. -/
import Derived.Test.YtomldkljlbdnjaaGreatJoin10Binds
import Derived.Test.YtomldkljlbdnjaaGreatJoin11Binds
namespace Go.Proofs.YtomldkljlbdnjaaGreat
open Go.RowKit
set_option linter.unusedVariables false
set_option linter.unusedSimpArgs false
namespace Syn
open Euf (OL App Stop)
open Lex (T TL tx bs tkC FV IsNm hide)
set_option maxRecDepth 4000 in
set_option maxHeartbeats 2000000 in
theorem stmt_sp (en g lo N : Nat) (hlet : Sp1 160 ShS .let_ en g lo N) (hbranch : Sp1 161 ShS .branch en g lo N) (hloop : Sp1 162 ShS .loop en g lo N) (hgiveBack : Sp1 163 ShS .giveBack en g lo N) (hlastExpr : Sp 139 (ShL 0) .lastExpr en g lo N) (hwordless : Sp 164 ShS .wordless en g lo N) : Sp 143 ShS .stmt en g lo (N + 1) := by
  intro w dp st h hne
  have hgl := h.gl
  have hlw := h.lw
  have hgw := h.lt
  have HQ0 := hide h
  clear h
  obtain ⟨R, hRR⟩ : ∃ R, R = P en (N + 1) .stmt dp st := ⟨_, rfl⟩
  rw [← hRR] at hne ⊢
  simp only [P, wantP, nameP] at hRR
  by_cases y0 : (Syn.hd en st).x = ([108, 101, 116] : List UInt8)
  case pos =>
    rw [if_pos y0] at hRR
    have HC1 : Hid (∀ w1, Q w1 g lo en dp st → P en N .let_ dp st ≠ .out → Calls Tryz.prog 160 #[.pointer (some ⟨g, 0, none⟩)] w1 fun e w' => Ans ShS w1 g lo en dp e w' (P en N .let_ dp st)) := fun w1 q1 hn => hlet w1 dp st q1 (by exact hd_ne (by decide) y0) hn
    generalize P en N .let_ dp st = E1 at hRR HC1
    cases E1 with
    | out => exact absurd hRR hne
    | bad cc a =>
      have hI0 : ((tx (Syn.hd en st).x).toList == ([108, 101, 116] : List UInt8)) = true := by rw [Lex.eqT, Lex.bs_tx]; exact decide_eq_true y0
      have Hy0 := hide y0
      clear y0
      have HRR := hide hRR
      clear hRR
      go_enter Tryz.func143, Tryz.ntmps143
      go_wp2_with fail
      refine (step_q (fun b => b = w.heap.size) (wk := w) ?_ HQ0.out (fun b hb => by have hb : b = w.heap.size := hb; omega) (fun wz qz => next_q wz g lo en dp st qz)).mono ?_
      · (repeat' (first | with_reducible exact Sat.Mv.refl _ _ | with_reducible refine Sat.Mv.alloc ?_ _ | with_reducible refine Sat.Mv.drew ?_ | with_reducible refine Sat.Mv.drewN ?_ _ | with_reducible refine Sat.Mv.set ?_ ?_ _)) <;> (first | exact Or.inl (Or.inl rfl) | exact Or.inl (Or.inr rfl) | exact Or.inl rfl | (refine Or.inr ?_; (try simp); omega) | (refine Or.inl ?_; (try simp); omega))
      rintro e w1 ⟨⟨rfl, b2⟩, sg⟩
      have m2 : MvR g _ w1 := Sat.Mv.below b2
      have q2 : Q w1 g lo en dp st := (HQ0.out.mv sg (fun b hb => by have hb : b = w.heap.size := hb; omega)).below b2
      have z0 := m2.size
      try simp at z0
      have HS0 := hide (seg sg m2)
      have HQ1 := hide q2
      have hB : Blk 47 w1 (w.heap.size) #[.string ByteArray.empty, .string ByteArray.empty, .slice none 0 0, .slice none 0 0, .slice none 0 0, .slice none 0 0, .int .i64 0] := m2.blk (by (repeat' (first | exact Blk.new _ _ _ | with_reducible refine Blk.alloc ?_ _ | with_reducible refine Blk.drewN ?_ _ | with_reducible refine Blk.other ?_ ?_ _)) <;> (first | (simp; omega) | simp | omega)) (by omega)
      have HB := hide hB
      clear hB
      clear m2 q2 sg b2
      simp only [TV]
      have F10 := fun w => field_text (tx (Syn.hd en st).x) (Syn.hd en st).k (Syn.hd en st).a w
      have F20 := fun w => field_place (tx (Syn.hd en st).x) (Syn.hd en st).k (Syn.hd en st).a w
      go_wp2_with fail
      refine (step_q (fun b => b = w.heap.size) (wk := w1) ?_ HQ1.out (fun b hb => by have hb : b = w.heap.size := hb; omega) (fun wz qz => HC1.out wz qz (fun e => by cases e))).mono ?_
      · (repeat' (first | with_reducible exact Sat.Mv.refl _ _ | with_reducible refine Sat.Mv.alloc ?_ _ | with_reducible refine Sat.Mv.drew ?_ | with_reducible refine Sat.Mv.drewN ?_ _ | with_reducible refine Sat.Mv.set ?_ ?_ _)) <;> (first | exact Or.inl (Or.inl rfl) | exact Or.inl (Or.inr rfl) | exact Or.inl rfl | (refine Or.inr ?_; (try simp); omega) | (refine Or.inl ?_; (try simp); omega))
      rintro e w2 ⟨⟨m2, rfl⟩, sg⟩
      go_wp2
      refine ⟨rfl, ?_⟩
      rw [HRR.out]
      refine ⟨Mv.out (mvt HS0.out (seg sg m2)) (fun b hb => by have hb : b = g ∨ b = w.heap.size := hb; omega), rfl⟩
    | ok r1 s1 =>
      try simp only [Res.to_ok] at hRR
      have hI0 : ((tx (Syn.hd en st).x).toList == ([108, 101, 116] : List UInt8)) = true := by rw [Lex.eqT, Lex.bs_tx]; exact decide_eq_true y0
      have Hy0 := hide y0
      clear y0
      have HRR := hide hRR
      clear hRR
      go_enter Tryz.func143, Tryz.ntmps143
      go_wp2_with fail
      refine (step_q (fun b => b = w.heap.size) (wk := w) ?_ HQ0.out (fun b hb => by have hb : b = w.heap.size := hb; omega) (fun wz qz => next_q wz g lo en dp st qz)).mono ?_
      · (repeat' (first | with_reducible exact Sat.Mv.refl _ _ | with_reducible refine Sat.Mv.alloc ?_ _ | with_reducible refine Sat.Mv.drew ?_ | with_reducible refine Sat.Mv.drewN ?_ _ | with_reducible refine Sat.Mv.set ?_ ?_ _)) <;> (first | exact Or.inl (Or.inl rfl) | exact Or.inl (Or.inr rfl) | exact Or.inl rfl | (refine Or.inr ?_; (try simp); omega) | (refine Or.inl ?_; (try simp); omega))
      rintro e w1 ⟨⟨rfl, b2⟩, sg⟩
      have m2 : MvR g _ w1 := Sat.Mv.below b2
      have q2 : Q w1 g lo en dp st := (HQ0.out.mv sg (fun b hb => by have hb : b = w.heap.size := hb; omega)).below b2
      have z0 := m2.size
      try simp at z0
      have HS0 := hide (seg sg m2)
      have HQ1 := hide q2
      have hB : Blk 47 w1 (w.heap.size) #[.string ByteArray.empty, .string ByteArray.empty, .slice none 0 0, .slice none 0 0, .slice none 0 0, .slice none 0 0, .int .i64 0] := m2.blk (by (repeat' (first | exact Blk.new _ _ _ | with_reducible refine Blk.alloc ?_ _ | with_reducible refine Blk.drewN ?_ _ | with_reducible refine Blk.other ?_ ?_ _)) <;> (first | (simp; omega) | simp | omega)) (by omega)
      have HB := hide hB
      clear hB
      clear m2 q2 sg b2
      simp only [TV]
      have F10 := fun w => field_text (tx (Syn.hd en st).x) (Syn.hd en st).k (Syn.hd en st).a w
      have F20 := fun w => field_place (tx (Syn.hd en st).x) (Syn.hd en st).k (Syn.hd en st).a w
      go_wp2_with fail
      refine (step_q (fun b => b = w.heap.size) (wk := w1) ?_ HQ1.out (fun b hb => by have hb : b = w.heap.size := hb; omega) (fun wz qz => HC1.out wz qz (fun e => by cases e))).mono ?_
      · (repeat' (first | with_reducible exact Sat.Mv.refl _ _ | with_reducible refine Sat.Mv.alloc ?_ _ | with_reducible refine Sat.Mv.drew ?_ | with_reducible refine Sat.Mv.drewN ?_ _ | with_reducible refine Sat.Mv.set ?_ ?_ _)) <;> (first | exact Or.inl (Or.inl rfl) | exact Or.inl (Or.inr rfl) | exact Or.inl rfl | (refine Or.inr ?_; (try simp); omega) | (refine Or.inl ?_; (try simp); omega))
      rintro e w2 ⟨⟨m2, q2, u, rfl, kd1, nm1, tys1, exprs1, body1, els1, p1, A1, B1, C1, D1, rfl, rfl, xA1, xB1, xC1, xD1⟩, sg⟩
      obtain ⟨qA1, cA1, rfl⟩ := xA1.slice
      obtain ⟨qB1, cB1, rfl⟩ := xB1.slice
      obtain ⟨qC1, cC1, rfl⟩ := xC1.slice
      obtain ⟨qD1, cD1, rfl⟩ := xD1.slice
      have z1 := m2.size
      try simp at z1
      have HS1 := hide (seg sg m2)
      have HQ2 := hide q2
      have HX1 := hide (And.intro xA1 (And.intro xB1 (And.intro xC1 xD1)))
      clear xA1 xB1 xC1 xD1
      have hB : Blk 47 w2 (w.heap.size) #[.string ByteArray.empty, .string ByteArray.empty, .slice none 0 0, .slice none 0 0, .slice none 0 0, .slice none 0 0, .int .i64 0] := m2.blk (by (repeat' (first | with_reducible exact HB.out | with_reducible refine Blk.alloc ?_ _ | with_reducible refine Blk.drewN ?_ _ | with_reducible refine Blk.other ?_ ?_ _ | exact HB.out)) <;> (first | (simp; omega) | simp | omega)) (by omega)
      clear HB
      have HB := hide hB
      clear hB
      clear m2 q2 sg
      go_wp2_with ((show wpList _ _ _ _ _ _); refine store_blk rfl 47 (.tmp 2) (.tmp 10) rfl (w.heap.size) _ rfl rfl 47 #[.string ByteArray.empty, .string ByteArray.empty, .slice none 0 0, .slice none 0 0, .slice none 0 0, .slice none 0 0, .int .i64 0] (by (repeat' (first | with_reducible exact HB.out | with_reducible refine Blk.alloc ?_ _ | with_reducible refine Blk.drewN ?_ _ | with_reducible refine Blk.other ?_ ?_ _ | exact HB.out)) <;> (first | (simp; omega) | simp | omega)) (by kernel_rfl) rfl rfl ?_; intro wf b2 m2; have HE := hide (show Sat.Mv (fun b => b = w.heap.size) w2 wf from mvt (by (repeat' (first | with_reducible exact Sat.Mv.refl _ _ | with_reducible refine Sat.Mv.alloc ?_ _ | with_reducible refine Sat.Mv.drew ?_ | with_reducible refine Sat.Mv.drewN ?_ _ | with_reducible refine Sat.Mv.set ?_ ?_ _)) <;> (first | exact Or.inl (Or.inl rfl) | exact Or.inl (Or.inr rfl) | exact Or.inl rfl | (refine Or.inr ?_; (try simp); omega) | (refine Or.inl ?_; (try simp); omega))) (Mv.wide m2 (fun b hb => hb))); have HM := hide m2; obtain ⟨c0, c1, c2, c3, c4, c5, c6, k0, k1, k2, k3, k4, k5, k6⟩ := bk7 b2; clear m2 b2)
      refine bodyPost_ret (v := .agg #[.string (tx kd1), .string (tx nm1), .slice qA1 tys1.length cA1, .slice qB1 exprs1.length cB1, .slice qC1 body1.length cC1, .slice qD1 els1.length cD1, .int .i64 (p1 : Nat)]) (by simp [results, Tryz.results143, go_sem, c0, c1, c2, c3, c4, c5, c6]) rfl ?_
      rw [HRR.out]
      exact ans_fin (fun b => b = w.heap.size) HE.out (mvt HS0.out HS1.out) (fun b hb => by have hb : b = g ∨ b = w.heap.size := hb; omega) HQ2.out (fun b hb => by have hb : b = w.heap.size := hb; omega) ⟨_, _, _, _, _, _, _, _, _, _, _, rfl, rfl, HX1.out.1.far (G := fun b => b = g ∨ b = w.heap.size) (Mv.wide HE.out fun b k => Or.inr k) (by intro b hb hl hk; (try simp at hb); have hk : b = g ∨ b = w.heap.size := hk; omega) (by intro b hb; (try simp at hb); show w.heap.size ≤ b; omega), HX1.out.2.1.far (G := fun b => b = g ∨ b = w.heap.size) (Mv.wide HE.out fun b k => Or.inr k) (by intro b hb hl hk; (try simp at hb); have hk : b = g ∨ b = w.heap.size := hk; omega) (by intro b hb; (try simp at hb); show w.heap.size ≤ b; omega), HX1.out.2.2.1.far (G := fun b => b = g ∨ b = w.heap.size) (Mv.wide HE.out fun b k => Or.inr k) (by intro b hb hl hk; (try simp at hb); have hk : b = g ∨ b = w.heap.size := hk; omega) (by intro b hb; (try simp at hb); show w.heap.size ≤ b; omega), HX1.out.2.2.2.far (G := fun b => b = g ∨ b = w.heap.size) (Mv.wide HE.out fun b k => Or.inr k) (by intro b hb hl hk; (try simp at hb); have hk : b = g ∨ b = w.heap.size := hk; omega) (by intro b hb; (try simp at hb); show w.heap.size ≤ b; omega)⟩
  rw [if_neg y0] at hRR
  by_cases y1 : (Syn.hd en st).x = ([105, 102] : List UInt8)
  case pos =>
    rw [if_pos y1] at hRR
    have HC1 : Hid (∀ w1, Q w1 g lo en dp st → P en N .branch dp st ≠ .out → Calls Tryz.prog 161 #[.pointer (some ⟨g, 0, none⟩)] w1 fun e w' => Ans ShS w1 g lo en dp e w' (P en N .branch dp st)) := fun w1 q1 hn => hbranch w1 dp st q1 (by exact hd_ne (by decide) y1) hn
    generalize P en N .branch dp st = E1 at hRR HC1
    cases E1 with
    | out => exact absurd hRR hne
    | bad cc a =>
      have hI0 : ((tx (Syn.hd en st).x).toList == ([108, 101, 116] : List UInt8)) = false := by rw [Lex.eqT, Lex.bs_tx]; exact decide_eq_false y0
      have Hy0 := hide y0
      clear y0
      have hI1 : ((tx (Syn.hd en st).x).toList == ([105, 102] : List UInt8)) = true := by rw [Lex.eqT, Lex.bs_tx]; exact decide_eq_true y1
      have Hy1 := hide y1
      clear y1
      have HRR := hide hRR
      clear hRR
      go_enter Tryz.func143, Tryz.ntmps143
      go_wp2_with fail
      refine (step_q (fun b => b = w.heap.size) (wk := w) ?_ HQ0.out (fun b hb => by have hb : b = w.heap.size := hb; omega) (fun wz qz => next_q wz g lo en dp st qz)).mono ?_
      · (repeat' (first | with_reducible exact Sat.Mv.refl _ _ | with_reducible refine Sat.Mv.alloc ?_ _ | with_reducible refine Sat.Mv.drew ?_ | with_reducible refine Sat.Mv.drewN ?_ _ | with_reducible refine Sat.Mv.set ?_ ?_ _)) <;> (first | exact Or.inl (Or.inl rfl) | exact Or.inl (Or.inr rfl) | exact Or.inl rfl | (refine Or.inr ?_; (try simp); omega) | (refine Or.inl ?_; (try simp); omega))
      rintro e w1 ⟨⟨rfl, b2⟩, sg⟩
      have m2 : MvR g _ w1 := Sat.Mv.below b2
      have q2 : Q w1 g lo en dp st := (HQ0.out.mv sg (fun b hb => by have hb : b = w.heap.size := hb; omega)).below b2
      have z0 := m2.size
      try simp at z0
      have HS0 := hide (seg sg m2)
      have HQ1 := hide q2
      have hB : Blk 47 w1 (w.heap.size) #[.string ByteArray.empty, .string ByteArray.empty, .slice none 0 0, .slice none 0 0, .slice none 0 0, .slice none 0 0, .int .i64 0] := m2.blk (by (repeat' (first | exact Blk.new _ _ _ | with_reducible refine Blk.alloc ?_ _ | with_reducible refine Blk.drewN ?_ _ | with_reducible refine Blk.other ?_ ?_ _)) <;> (first | (simp; omega) | simp | omega)) (by omega)
      have HB := hide hB
      clear hB
      clear m2 q2 sg b2
      simp only [TV]
      have F10 := fun w => field_text (tx (Syn.hd en st).x) (Syn.hd en st).k (Syn.hd en st).a w
      have F20 := fun w => field_place (tx (Syn.hd en st).x) (Syn.hd en st).k (Syn.hd en st).a w
      go_wp2_with fail
      refine (step_q (fun b => b = w.heap.size) (wk := w1) ?_ HQ1.out (fun b hb => by have hb : b = w.heap.size := hb; omega) (fun wz qz => HC1.out wz qz (fun e => by cases e))).mono ?_
      · (repeat' (first | with_reducible exact Sat.Mv.refl _ _ | with_reducible refine Sat.Mv.alloc ?_ _ | with_reducible refine Sat.Mv.drew ?_ | with_reducible refine Sat.Mv.drewN ?_ _ | with_reducible refine Sat.Mv.set ?_ ?_ _)) <;> (first | exact Or.inl (Or.inl rfl) | exact Or.inl (Or.inr rfl) | exact Or.inl rfl | (refine Or.inr ?_; (try simp); omega) | (refine Or.inl ?_; (try simp); omega))
      rintro e w2 ⟨⟨m2, rfl⟩, sg⟩
      go_wp2
      refine ⟨rfl, ?_⟩
      rw [HRR.out]
      refine ⟨Mv.out (mvt HS0.out (seg sg m2)) (fun b hb => by have hb : b = g ∨ b = w.heap.size := hb; omega), rfl⟩
    | ok r1 s1 =>
      try simp only [Res.to_ok] at hRR
      have hI0 : ((tx (Syn.hd en st).x).toList == ([108, 101, 116] : List UInt8)) = false := by rw [Lex.eqT, Lex.bs_tx]; exact decide_eq_false y0
      have Hy0 := hide y0
      clear y0
      have hI1 : ((tx (Syn.hd en st).x).toList == ([105, 102] : List UInt8)) = true := by rw [Lex.eqT, Lex.bs_tx]; exact decide_eq_true y1
      have Hy1 := hide y1
      clear y1
      have HRR := hide hRR
      clear hRR
      go_enter Tryz.func143, Tryz.ntmps143
      go_wp2_with fail
      refine (step_q (fun b => b = w.heap.size) (wk := w) ?_ HQ0.out (fun b hb => by have hb : b = w.heap.size := hb; omega) (fun wz qz => next_q wz g lo en dp st qz)).mono ?_
      · (repeat' (first | with_reducible exact Sat.Mv.refl _ _ | with_reducible refine Sat.Mv.alloc ?_ _ | with_reducible refine Sat.Mv.drew ?_ | with_reducible refine Sat.Mv.drewN ?_ _ | with_reducible refine Sat.Mv.set ?_ ?_ _)) <;> (first | exact Or.inl (Or.inl rfl) | exact Or.inl (Or.inr rfl) | exact Or.inl rfl | (refine Or.inr ?_; (try simp); omega) | (refine Or.inl ?_; (try simp); omega))
      rintro e w1 ⟨⟨rfl, b2⟩, sg⟩
      have m2 : MvR g _ w1 := Sat.Mv.below b2
      have q2 : Q w1 g lo en dp st := (HQ0.out.mv sg (fun b hb => by have hb : b = w.heap.size := hb; omega)).below b2
      have z0 := m2.size
      try simp at z0
      have HS0 := hide (seg sg m2)
      have HQ1 := hide q2
      have hB : Blk 47 w1 (w.heap.size) #[.string ByteArray.empty, .string ByteArray.empty, .slice none 0 0, .slice none 0 0, .slice none 0 0, .slice none 0 0, .int .i64 0] := m2.blk (by (repeat' (first | exact Blk.new _ _ _ | with_reducible refine Blk.alloc ?_ _ | with_reducible refine Blk.drewN ?_ _ | with_reducible refine Blk.other ?_ ?_ _)) <;> (first | (simp; omega) | simp | omega)) (by omega)
      have HB := hide hB
      clear hB
      clear m2 q2 sg b2
      simp only [TV]
      have F10 := fun w => field_text (tx (Syn.hd en st).x) (Syn.hd en st).k (Syn.hd en st).a w
      have F20 := fun w => field_place (tx (Syn.hd en st).x) (Syn.hd en st).k (Syn.hd en st).a w
      go_wp2_with fail
      refine (step_q (fun b => b = w.heap.size) (wk := w1) ?_ HQ1.out (fun b hb => by have hb : b = w.heap.size := hb; omega) (fun wz qz => HC1.out wz qz (fun e => by cases e))).mono ?_
      · (repeat' (first | with_reducible exact Sat.Mv.refl _ _ | with_reducible refine Sat.Mv.alloc ?_ _ | with_reducible refine Sat.Mv.drew ?_ | with_reducible refine Sat.Mv.drewN ?_ _ | with_reducible refine Sat.Mv.set ?_ ?_ _)) <;> (first | exact Or.inl (Or.inl rfl) | exact Or.inl (Or.inr rfl) | exact Or.inl rfl | (refine Or.inr ?_; (try simp); omega) | (refine Or.inl ?_; (try simp); omega))
      rintro e w2 ⟨⟨m2, q2, u, rfl, kd1, nm1, tys1, exprs1, body1, els1, p1, A1, B1, C1, D1, rfl, rfl, xA1, xB1, xC1, xD1⟩, sg⟩
      obtain ⟨qA1, cA1, rfl⟩ := xA1.slice
      obtain ⟨qB1, cB1, rfl⟩ := xB1.slice
      obtain ⟨qC1, cC1, rfl⟩ := xC1.slice
      obtain ⟨qD1, cD1, rfl⟩ := xD1.slice
      have z1 := m2.size
      try simp at z1
      have HS1 := hide (seg sg m2)
      have HQ2 := hide q2
      have HX1 := hide (And.intro xA1 (And.intro xB1 (And.intro xC1 xD1)))
      clear xA1 xB1 xC1 xD1
      have hB : Blk 47 w2 (w.heap.size) #[.string ByteArray.empty, .string ByteArray.empty, .slice none 0 0, .slice none 0 0, .slice none 0 0, .slice none 0 0, .int .i64 0] := m2.blk (by (repeat' (first | with_reducible exact HB.out | with_reducible refine Blk.alloc ?_ _ | with_reducible refine Blk.drewN ?_ _ | with_reducible refine Blk.other ?_ ?_ _ | exact HB.out)) <;> (first | (simp; omega) | simp | omega)) (by omega)
      clear HB
      have HB := hide hB
      clear hB
      clear m2 q2 sg
      go_wp2_with ((show wpList _ _ _ _ _ _); refine store_blk rfl 47 (.tmp 2) (.tmp 14) rfl (w.heap.size) _ rfl rfl 47 #[.string ByteArray.empty, .string ByteArray.empty, .slice none 0 0, .slice none 0 0, .slice none 0 0, .slice none 0 0, .int .i64 0] (by (repeat' (first | with_reducible exact HB.out | with_reducible refine Blk.alloc ?_ _ | with_reducible refine Blk.drewN ?_ _ | with_reducible refine Blk.other ?_ ?_ _ | exact HB.out)) <;> (first | (simp; omega) | simp | omega)) (by kernel_rfl) rfl rfl ?_; intro wf b2 m2; have HE := hide (show Sat.Mv (fun b => b = w.heap.size) w2 wf from mvt (by (repeat' (first | with_reducible exact Sat.Mv.refl _ _ | with_reducible refine Sat.Mv.alloc ?_ _ | with_reducible refine Sat.Mv.drew ?_ | with_reducible refine Sat.Mv.drewN ?_ _ | with_reducible refine Sat.Mv.set ?_ ?_ _)) <;> (first | exact Or.inl (Or.inl rfl) | exact Or.inl (Or.inr rfl) | exact Or.inl rfl | (refine Or.inr ?_; (try simp); omega) | (refine Or.inl ?_; (try simp); omega))) (Mv.wide m2 (fun b hb => hb))); have HM := hide m2; obtain ⟨c0, c1, c2, c3, c4, c5, c6, k0, k1, k2, k3, k4, k5, k6⟩ := bk7 b2; clear m2 b2)
      refine bodyPost_ret (v := .agg #[.string (tx kd1), .string (tx nm1), .slice qA1 tys1.length cA1, .slice qB1 exprs1.length cB1, .slice qC1 body1.length cC1, .slice qD1 els1.length cD1, .int .i64 (p1 : Nat)]) (by simp [results, Tryz.results143, go_sem, c0, c1, c2, c3, c4, c5, c6]) rfl ?_
      rw [HRR.out]
      exact ans_fin (fun b => b = w.heap.size) HE.out (mvt HS0.out HS1.out) (fun b hb => by have hb : b = g ∨ b = w.heap.size := hb; omega) HQ2.out (fun b hb => by have hb : b = w.heap.size := hb; omega) ⟨_, _, _, _, _, _, _, _, _, _, _, rfl, rfl, HX1.out.1.far (G := fun b => b = g ∨ b = w.heap.size) (Mv.wide HE.out fun b k => Or.inr k) (by intro b hb hl hk; (try simp at hb); have hk : b = g ∨ b = w.heap.size := hk; omega) (by intro b hb; (try simp at hb); show w.heap.size ≤ b; omega), HX1.out.2.1.far (G := fun b => b = g ∨ b = w.heap.size) (Mv.wide HE.out fun b k => Or.inr k) (by intro b hb hl hk; (try simp at hb); have hk : b = g ∨ b = w.heap.size := hk; omega) (by intro b hb; (try simp at hb); show w.heap.size ≤ b; omega), HX1.out.2.2.1.far (G := fun b => b = g ∨ b = w.heap.size) (Mv.wide HE.out fun b k => Or.inr k) (by intro b hb hl hk; (try simp at hb); have hk : b = g ∨ b = w.heap.size := hk; omega) (by intro b hb; (try simp at hb); show w.heap.size ≤ b; omega), HX1.out.2.2.2.far (G := fun b => b = g ∨ b = w.heap.size) (Mv.wide HE.out fun b k => Or.inr k) (by intro b hb hl hk; (try simp at hb); have hk : b = g ∨ b = w.heap.size := hk; omega) (by intro b hb; (try simp at hb); show w.heap.size ≤ b; omega)⟩
  rw [if_neg y1] at hRR
  by_cases y2 : (Syn.hd en st).x = ([119, 104, 105, 108, 101] : List UInt8)
  case pos =>
    rw [if_pos y2] at hRR
    have HC1 : Hid (∀ w1, Q w1 g lo en dp st → P en N .loop dp st ≠ .out → Calls Tryz.prog 162 #[.pointer (some ⟨g, 0, none⟩)] w1 fun e w' => Ans ShS w1 g lo en dp e w' (P en N .loop dp st)) := fun w1 q1 hn => hloop w1 dp st q1 (by exact hd_ne (by decide) y2) hn
    generalize P en N .loop dp st = E1 at hRR HC1
    cases E1 with
    | out => exact absurd hRR hne
    | bad cc a =>
      have hI0 : ((tx (Syn.hd en st).x).toList == ([108, 101, 116] : List UInt8)) = false := by rw [Lex.eqT, Lex.bs_tx]; exact decide_eq_false y0
      have Hy0 := hide y0
      clear y0
      have hI1 : ((tx (Syn.hd en st).x).toList == ([105, 102] : List UInt8)) = false := by rw [Lex.eqT, Lex.bs_tx]; exact decide_eq_false y1
      have Hy1 := hide y1
      clear y1
      have hI2 : ((tx (Syn.hd en st).x).toList == ([119, 104, 105, 108, 101] : List UInt8)) = true := by rw [Lex.eqT, Lex.bs_tx]; exact decide_eq_true y2
      have Hy2 := hide y2
      clear y2
      have HRR := hide hRR
      clear hRR
      go_enter Tryz.func143, Tryz.ntmps143
      go_wp2_with fail
      refine (step_q (fun b => b = w.heap.size) (wk := w) ?_ HQ0.out (fun b hb => by have hb : b = w.heap.size := hb; omega) (fun wz qz => next_q wz g lo en dp st qz)).mono ?_
      · (repeat' (first | with_reducible exact Sat.Mv.refl _ _ | with_reducible refine Sat.Mv.alloc ?_ _ | with_reducible refine Sat.Mv.drew ?_ | with_reducible refine Sat.Mv.drewN ?_ _ | with_reducible refine Sat.Mv.set ?_ ?_ _)) <;> (first | exact Or.inl (Or.inl rfl) | exact Or.inl (Or.inr rfl) | exact Or.inl rfl | (refine Or.inr ?_; (try simp); omega) | (refine Or.inl ?_; (try simp); omega))
      rintro e w1 ⟨⟨rfl, b2⟩, sg⟩
      have m2 : MvR g _ w1 := Sat.Mv.below b2
      have q2 : Q w1 g lo en dp st := (HQ0.out.mv sg (fun b hb => by have hb : b = w.heap.size := hb; omega)).below b2
      have z0 := m2.size
      try simp at z0
      have HS0 := hide (seg sg m2)
      have HQ1 := hide q2
      have hB : Blk 47 w1 (w.heap.size) #[.string ByteArray.empty, .string ByteArray.empty, .slice none 0 0, .slice none 0 0, .slice none 0 0, .slice none 0 0, .int .i64 0] := m2.blk (by (repeat' (first | exact Blk.new _ _ _ | with_reducible refine Blk.alloc ?_ _ | with_reducible refine Blk.drewN ?_ _ | with_reducible refine Blk.other ?_ ?_ _)) <;> (first | (simp; omega) | simp | omega)) (by omega)
      have HB := hide hB
      clear hB
      clear m2 q2 sg b2
      simp only [TV]
      have F10 := fun w => field_text (tx (Syn.hd en st).x) (Syn.hd en st).k (Syn.hd en st).a w
      have F20 := fun w => field_place (tx (Syn.hd en st).x) (Syn.hd en st).k (Syn.hd en st).a w
      go_wp2_with fail
      refine (step_q (fun b => b = w.heap.size) (wk := w1) ?_ HQ1.out (fun b hb => by have hb : b = w.heap.size := hb; omega) (fun wz qz => HC1.out wz qz (fun e => by cases e))).mono ?_
      · (repeat' (first | with_reducible exact Sat.Mv.refl _ _ | with_reducible refine Sat.Mv.alloc ?_ _ | with_reducible refine Sat.Mv.drew ?_ | with_reducible refine Sat.Mv.drewN ?_ _ | with_reducible refine Sat.Mv.set ?_ ?_ _)) <;> (first | exact Or.inl (Or.inl rfl) | exact Or.inl (Or.inr rfl) | exact Or.inl rfl | (refine Or.inr ?_; (try simp); omega) | (refine Or.inl ?_; (try simp); omega))
      rintro e w2 ⟨⟨m2, rfl⟩, sg⟩
      go_wp2
      refine ⟨rfl, ?_⟩
      rw [HRR.out]
      refine ⟨Mv.out (mvt HS0.out (seg sg m2)) (fun b hb => by have hb : b = g ∨ b = w.heap.size := hb; omega), rfl⟩
    | ok r1 s1 =>
      try simp only [Res.to_ok] at hRR
      have hI0 : ((tx (Syn.hd en st).x).toList == ([108, 101, 116] : List UInt8)) = false := by rw [Lex.eqT, Lex.bs_tx]; exact decide_eq_false y0
      have Hy0 := hide y0
      clear y0
      have hI1 : ((tx (Syn.hd en st).x).toList == ([105, 102] : List UInt8)) = false := by rw [Lex.eqT, Lex.bs_tx]; exact decide_eq_false y1
      have Hy1 := hide y1
      clear y1
      have hI2 : ((tx (Syn.hd en st).x).toList == ([119, 104, 105, 108, 101] : List UInt8)) = true := by rw [Lex.eqT, Lex.bs_tx]; exact decide_eq_true y2
      have Hy2 := hide y2
      clear y2
      have HRR := hide hRR
      clear hRR
      go_enter Tryz.func143, Tryz.ntmps143
      go_wp2_with fail
      refine (step_q (fun b => b = w.heap.size) (wk := w) ?_ HQ0.out (fun b hb => by have hb : b = w.heap.size := hb; omega) (fun wz qz => next_q wz g lo en dp st qz)).mono ?_
      · (repeat' (first | with_reducible exact Sat.Mv.refl _ _ | with_reducible refine Sat.Mv.alloc ?_ _ | with_reducible refine Sat.Mv.drew ?_ | with_reducible refine Sat.Mv.drewN ?_ _ | with_reducible refine Sat.Mv.set ?_ ?_ _)) <;> (first | exact Or.inl (Or.inl rfl) | exact Or.inl (Or.inr rfl) | exact Or.inl rfl | (refine Or.inr ?_; (try simp); omega) | (refine Or.inl ?_; (try simp); omega))
      rintro e w1 ⟨⟨rfl, b2⟩, sg⟩
      have m2 : MvR g _ w1 := Sat.Mv.below b2
      have q2 : Q w1 g lo en dp st := (HQ0.out.mv sg (fun b hb => by have hb : b = w.heap.size := hb; omega)).below b2
      have z0 := m2.size
      try simp at z0
      have HS0 := hide (seg sg m2)
      have HQ1 := hide q2
      have hB : Blk 47 w1 (w.heap.size) #[.string ByteArray.empty, .string ByteArray.empty, .slice none 0 0, .slice none 0 0, .slice none 0 0, .slice none 0 0, .int .i64 0] := m2.blk (by (repeat' (first | exact Blk.new _ _ _ | with_reducible refine Blk.alloc ?_ _ | with_reducible refine Blk.drewN ?_ _ | with_reducible refine Blk.other ?_ ?_ _)) <;> (first | (simp; omega) | simp | omega)) (by omega)
      have HB := hide hB
      clear hB
      clear m2 q2 sg b2
      simp only [TV]
      have F10 := fun w => field_text (tx (Syn.hd en st).x) (Syn.hd en st).k (Syn.hd en st).a w
      have F20 := fun w => field_place (tx (Syn.hd en st).x) (Syn.hd en st).k (Syn.hd en st).a w
      go_wp2_with fail
      refine (step_q (fun b => b = w.heap.size) (wk := w1) ?_ HQ1.out (fun b hb => by have hb : b = w.heap.size := hb; omega) (fun wz qz => HC1.out wz qz (fun e => by cases e))).mono ?_
      · (repeat' (first | with_reducible exact Sat.Mv.refl _ _ | with_reducible refine Sat.Mv.alloc ?_ _ | with_reducible refine Sat.Mv.drew ?_ | with_reducible refine Sat.Mv.drewN ?_ _ | with_reducible refine Sat.Mv.set ?_ ?_ _)) <;> (first | exact Or.inl (Or.inl rfl) | exact Or.inl (Or.inr rfl) | exact Or.inl rfl | (refine Or.inr ?_; (try simp); omega) | (refine Or.inl ?_; (try simp); omega))
      rintro e w2 ⟨⟨m2, q2, u, rfl, kd1, nm1, tys1, exprs1, body1, els1, p1, A1, B1, C1, D1, rfl, rfl, xA1, xB1, xC1, xD1⟩, sg⟩
      obtain ⟨qA1, cA1, rfl⟩ := xA1.slice
      obtain ⟨qB1, cB1, rfl⟩ := xB1.slice
      obtain ⟨qC1, cC1, rfl⟩ := xC1.slice
      obtain ⟨qD1, cD1, rfl⟩ := xD1.slice
      have z1 := m2.size
      try simp at z1
      have HS1 := hide (seg sg m2)
      have HQ2 := hide q2
      have HX1 := hide (And.intro xA1 (And.intro xB1 (And.intro xC1 xD1)))
      clear xA1 xB1 xC1 xD1
      have hB : Blk 47 w2 (w.heap.size) #[.string ByteArray.empty, .string ByteArray.empty, .slice none 0 0, .slice none 0 0, .slice none 0 0, .slice none 0 0, .int .i64 0] := m2.blk (by (repeat' (first | with_reducible exact HB.out | with_reducible refine Blk.alloc ?_ _ | with_reducible refine Blk.drewN ?_ _ | with_reducible refine Blk.other ?_ ?_ _ | exact HB.out)) <;> (first | (simp; omega) | simp | omega)) (by omega)
      clear HB
      have HB := hide hB
      clear hB
      clear m2 q2 sg
      go_wp2_with ((show wpList _ _ _ _ _ _); refine store_blk rfl 47 (.tmp 2) (.tmp 18) rfl (w.heap.size) _ rfl rfl 47 #[.string ByteArray.empty, .string ByteArray.empty, .slice none 0 0, .slice none 0 0, .slice none 0 0, .slice none 0 0, .int .i64 0] (by (repeat' (first | with_reducible exact HB.out | with_reducible refine Blk.alloc ?_ _ | with_reducible refine Blk.drewN ?_ _ | with_reducible refine Blk.other ?_ ?_ _ | exact HB.out)) <;> (first | (simp; omega) | simp | omega)) (by kernel_rfl) rfl rfl ?_; intro wf b2 m2; have HE := hide (show Sat.Mv (fun b => b = w.heap.size) w2 wf from mvt (by (repeat' (first | with_reducible exact Sat.Mv.refl _ _ | with_reducible refine Sat.Mv.alloc ?_ _ | with_reducible refine Sat.Mv.drew ?_ | with_reducible refine Sat.Mv.drewN ?_ _ | with_reducible refine Sat.Mv.set ?_ ?_ _)) <;> (first | exact Or.inl (Or.inl rfl) | exact Or.inl (Or.inr rfl) | exact Or.inl rfl | (refine Or.inr ?_; (try simp); omega) | (refine Or.inl ?_; (try simp); omega))) (Mv.wide m2 (fun b hb => hb))); have HM := hide m2; obtain ⟨c0, c1, c2, c3, c4, c5, c6, k0, k1, k2, k3, k4, k5, k6⟩ := bk7 b2; clear m2 b2)
      refine bodyPost_ret (v := .agg #[.string (tx kd1), .string (tx nm1), .slice qA1 tys1.length cA1, .slice qB1 exprs1.length cB1, .slice qC1 body1.length cC1, .slice qD1 els1.length cD1, .int .i64 (p1 : Nat)]) (by simp [results, Tryz.results143, go_sem, c0, c1, c2, c3, c4, c5, c6]) rfl ?_
      rw [HRR.out]
      exact ans_fin (fun b => b = w.heap.size) HE.out (mvt HS0.out HS1.out) (fun b hb => by have hb : b = g ∨ b = w.heap.size := hb; omega) HQ2.out (fun b hb => by have hb : b = w.heap.size := hb; omega) ⟨_, _, _, _, _, _, _, _, _, _, _, rfl, rfl, HX1.out.1.far (G := fun b => b = g ∨ b = w.heap.size) (Mv.wide HE.out fun b k => Or.inr k) (by intro b hb hl hk; (try simp at hb); have hk : b = g ∨ b = w.heap.size := hk; omega) (by intro b hb; (try simp at hb); show w.heap.size ≤ b; omega), HX1.out.2.1.far (G := fun b => b = g ∨ b = w.heap.size) (Mv.wide HE.out fun b k => Or.inr k) (by intro b hb hl hk; (try simp at hb); have hk : b = g ∨ b = w.heap.size := hk; omega) (by intro b hb; (try simp at hb); show w.heap.size ≤ b; omega), HX1.out.2.2.1.far (G := fun b => b = g ∨ b = w.heap.size) (Mv.wide HE.out fun b k => Or.inr k) (by intro b hb hl hk; (try simp at hb); have hk : b = g ∨ b = w.heap.size := hk; omega) (by intro b hb; (try simp at hb); show w.heap.size ≤ b; omega), HX1.out.2.2.2.far (G := fun b => b = g ∨ b = w.heap.size) (Mv.wide HE.out fun b k => Or.inr k) (by intro b hb hl hk; (try simp at hb); have hk : b = g ∨ b = w.heap.size := hk; omega) (by intro b hb; (try simp at hb); show w.heap.size ≤ b; omega)⟩
  rw [if_neg y2] at hRR
  by_cases y3 : (Syn.hd en st).x = ([114, 101, 116, 117, 114, 110] : List UInt8)
  case pos =>
    rw [if_pos y3] at hRR
    have HC1 : Hid (∀ w1, Q w1 g lo en dp st → P en N .giveBack dp st ≠ .out → Calls Tryz.prog 163 #[.pointer (some ⟨g, 0, none⟩)] w1 fun e w' => Ans ShS w1 g lo en dp e w' (P en N .giveBack dp st)) := fun w1 q1 hn => hgiveBack w1 dp st q1 (by exact hd_ne (by decide) y3) hn
    generalize P en N .giveBack dp st = E1 at hRR HC1
    cases E1 with
    | out => exact absurd hRR hne
    | bad cc a =>
      have hI0 : ((tx (Syn.hd en st).x).toList == ([108, 101, 116] : List UInt8)) = false := by rw [Lex.eqT, Lex.bs_tx]; exact decide_eq_false y0
      have Hy0 := hide y0
      clear y0
      have hI1 : ((tx (Syn.hd en st).x).toList == ([105, 102] : List UInt8)) = false := by rw [Lex.eqT, Lex.bs_tx]; exact decide_eq_false y1
      have Hy1 := hide y1
      clear y1
      have hI2 : ((tx (Syn.hd en st).x).toList == ([119, 104, 105, 108, 101] : List UInt8)) = false := by rw [Lex.eqT, Lex.bs_tx]; exact decide_eq_false y2
      have Hy2 := hide y2
      clear y2
      have hI3 : ((tx (Syn.hd en st).x).toList == ([114, 101, 116, 117, 114, 110] : List UInt8)) = true := by rw [Lex.eqT, Lex.bs_tx]; exact decide_eq_true y3
      have Hy3 := hide y3
      clear y3
      have HRR := hide hRR
      clear hRR
      go_enter Tryz.func143, Tryz.ntmps143
      go_wp2_with fail
      refine (step_q (fun b => b = w.heap.size) (wk := w) ?_ HQ0.out (fun b hb => by have hb : b = w.heap.size := hb; omega) (fun wz qz => next_q wz g lo en dp st qz)).mono ?_
      · (repeat' (first | with_reducible exact Sat.Mv.refl _ _ | with_reducible refine Sat.Mv.alloc ?_ _ | with_reducible refine Sat.Mv.drew ?_ | with_reducible refine Sat.Mv.drewN ?_ _ | with_reducible refine Sat.Mv.set ?_ ?_ _)) <;> (first | exact Or.inl (Or.inl rfl) | exact Or.inl (Or.inr rfl) | exact Or.inl rfl | (refine Or.inr ?_; (try simp); omega) | (refine Or.inl ?_; (try simp); omega))
      rintro e w1 ⟨⟨rfl, b2⟩, sg⟩
      have m2 : MvR g _ w1 := Sat.Mv.below b2
      have q2 : Q w1 g lo en dp st := (HQ0.out.mv sg (fun b hb => by have hb : b = w.heap.size := hb; omega)).below b2
      have z0 := m2.size
      try simp at z0
      have HS0 := hide (seg sg m2)
      have HQ1 := hide q2
      have hB : Blk 47 w1 (w.heap.size) #[.string ByteArray.empty, .string ByteArray.empty, .slice none 0 0, .slice none 0 0, .slice none 0 0, .slice none 0 0, .int .i64 0] := m2.blk (by (repeat' (first | exact Blk.new _ _ _ | with_reducible refine Blk.alloc ?_ _ | with_reducible refine Blk.drewN ?_ _ | with_reducible refine Blk.other ?_ ?_ _)) <;> (first | (simp; omega) | simp | omega)) (by omega)
      have HB := hide hB
      clear hB
      clear m2 q2 sg b2
      simp only [TV]
      have F10 := fun w => field_text (tx (Syn.hd en st).x) (Syn.hd en st).k (Syn.hd en st).a w
      have F20 := fun w => field_place (tx (Syn.hd en st).x) (Syn.hd en st).k (Syn.hd en st).a w
      go_wp2_with fail
      refine (step_q (fun b => b = w.heap.size) (wk := w1) ?_ HQ1.out (fun b hb => by have hb : b = w.heap.size := hb; omega) (fun wz qz => HC1.out wz qz (fun e => by cases e))).mono ?_
      · (repeat' (first | with_reducible exact Sat.Mv.refl _ _ | with_reducible refine Sat.Mv.alloc ?_ _ | with_reducible refine Sat.Mv.drew ?_ | with_reducible refine Sat.Mv.drewN ?_ _ | with_reducible refine Sat.Mv.set ?_ ?_ _)) <;> (first | exact Or.inl (Or.inl rfl) | exact Or.inl (Or.inr rfl) | exact Or.inl rfl | (refine Or.inr ?_; (try simp); omega) | (refine Or.inl ?_; (try simp); omega))
      rintro e w2 ⟨⟨m2, rfl⟩, sg⟩
      go_wp2
      refine ⟨rfl, ?_⟩
      rw [HRR.out]
      refine ⟨Mv.out (mvt HS0.out (seg sg m2)) (fun b hb => by have hb : b = g ∨ b = w.heap.size := hb; omega), rfl⟩
    | ok r1 s1 =>
      try simp only [Res.to_ok] at hRR
      have hI0 : ((tx (Syn.hd en st).x).toList == ([108, 101, 116] : List UInt8)) = false := by rw [Lex.eqT, Lex.bs_tx]; exact decide_eq_false y0
      have Hy0 := hide y0
      clear y0
      have hI1 : ((tx (Syn.hd en st).x).toList == ([105, 102] : List UInt8)) = false := by rw [Lex.eqT, Lex.bs_tx]; exact decide_eq_false y1
      have Hy1 := hide y1
      clear y1
      have hI2 : ((tx (Syn.hd en st).x).toList == ([119, 104, 105, 108, 101] : List UInt8)) = false := by rw [Lex.eqT, Lex.bs_tx]; exact decide_eq_false y2
      have Hy2 := hide y2
      clear y2
      have hI3 : ((tx (Syn.hd en st).x).toList == ([114, 101, 116, 117, 114, 110] : List UInt8)) = true := by rw [Lex.eqT, Lex.bs_tx]; exact decide_eq_true y3
      have Hy3 := hide y3
      clear y3
      have HRR := hide hRR
      clear hRR
      go_enter Tryz.func143, Tryz.ntmps143
      go_wp2_with fail
      refine (step_q (fun b => b = w.heap.size) (wk := w) ?_ HQ0.out (fun b hb => by have hb : b = w.heap.size := hb; omega) (fun wz qz => next_q wz g lo en dp st qz)).mono ?_
      · (repeat' (first | with_reducible exact Sat.Mv.refl _ _ | with_reducible refine Sat.Mv.alloc ?_ _ | with_reducible refine Sat.Mv.drew ?_ | with_reducible refine Sat.Mv.drewN ?_ _ | with_reducible refine Sat.Mv.set ?_ ?_ _)) <;> (first | exact Or.inl (Or.inl rfl) | exact Or.inl (Or.inr rfl) | exact Or.inl rfl | (refine Or.inr ?_; (try simp); omega) | (refine Or.inl ?_; (try simp); omega))
      rintro e w1 ⟨⟨rfl, b2⟩, sg⟩
      have m2 : MvR g _ w1 := Sat.Mv.below b2
      have q2 : Q w1 g lo en dp st := (HQ0.out.mv sg (fun b hb => by have hb : b = w.heap.size := hb; omega)).below b2
      have z0 := m2.size
      try simp at z0
      have HS0 := hide (seg sg m2)
      have HQ1 := hide q2
      have hB : Blk 47 w1 (w.heap.size) #[.string ByteArray.empty, .string ByteArray.empty, .slice none 0 0, .slice none 0 0, .slice none 0 0, .slice none 0 0, .int .i64 0] := m2.blk (by (repeat' (first | exact Blk.new _ _ _ | with_reducible refine Blk.alloc ?_ _ | with_reducible refine Blk.drewN ?_ _ | with_reducible refine Blk.other ?_ ?_ _)) <;> (first | (simp; omega) | simp | omega)) (by omega)
      have HB := hide hB
      clear hB
      clear m2 q2 sg b2
      simp only [TV]
      have F10 := fun w => field_text (tx (Syn.hd en st).x) (Syn.hd en st).k (Syn.hd en st).a w
      have F20 := fun w => field_place (tx (Syn.hd en st).x) (Syn.hd en st).k (Syn.hd en st).a w
      go_wp2_with fail
      refine (step_q (fun b => b = w.heap.size) (wk := w1) ?_ HQ1.out (fun b hb => by have hb : b = w.heap.size := hb; omega) (fun wz qz => HC1.out wz qz (fun e => by cases e))).mono ?_
      · (repeat' (first | with_reducible exact Sat.Mv.refl _ _ | with_reducible refine Sat.Mv.alloc ?_ _ | with_reducible refine Sat.Mv.drew ?_ | with_reducible refine Sat.Mv.drewN ?_ _ | with_reducible refine Sat.Mv.set ?_ ?_ _)) <;> (first | exact Or.inl (Or.inl rfl) | exact Or.inl (Or.inr rfl) | exact Or.inl rfl | (refine Or.inr ?_; (try simp); omega) | (refine Or.inl ?_; (try simp); omega))
      rintro e w2 ⟨⟨m2, q2, u, rfl, kd1, nm1, tys1, exprs1, body1, els1, p1, A1, B1, C1, D1, rfl, rfl, xA1, xB1, xC1, xD1⟩, sg⟩
      obtain ⟨qA1, cA1, rfl⟩ := xA1.slice
      obtain ⟨qB1, cB1, rfl⟩ := xB1.slice
      obtain ⟨qC1, cC1, rfl⟩ := xC1.slice
      obtain ⟨qD1, cD1, rfl⟩ := xD1.slice
      have z1 := m2.size
      try simp at z1
      have HS1 := hide (seg sg m2)
      have HQ2 := hide q2
      have HX1 := hide (And.intro xA1 (And.intro xB1 (And.intro xC1 xD1)))
      clear xA1 xB1 xC1 xD1
      have hB : Blk 47 w2 (w.heap.size) #[.string ByteArray.empty, .string ByteArray.empty, .slice none 0 0, .slice none 0 0, .slice none 0 0, .slice none 0 0, .int .i64 0] := m2.blk (by (repeat' (first | with_reducible exact HB.out | with_reducible refine Blk.alloc ?_ _ | with_reducible refine Blk.drewN ?_ _ | with_reducible refine Blk.other ?_ ?_ _ | exact HB.out)) <;> (first | (simp; omega) | simp | omega)) (by omega)
      clear HB
      have HB := hide hB
      clear hB
      clear m2 q2 sg
      go_wp2_with ((show wpList _ _ _ _ _ _); refine store_blk rfl 47 (.tmp 2) (.tmp 22) rfl (w.heap.size) _ rfl rfl 47 #[.string ByteArray.empty, .string ByteArray.empty, .slice none 0 0, .slice none 0 0, .slice none 0 0, .slice none 0 0, .int .i64 0] (by (repeat' (first | with_reducible exact HB.out | with_reducible refine Blk.alloc ?_ _ | with_reducible refine Blk.drewN ?_ _ | with_reducible refine Blk.other ?_ ?_ _ | exact HB.out)) <;> (first | (simp; omega) | simp | omega)) (by kernel_rfl) rfl rfl ?_; intro wf b2 m2; have HE := hide (show Sat.Mv (fun b => b = w.heap.size) w2 wf from mvt (by (repeat' (first | with_reducible exact Sat.Mv.refl _ _ | with_reducible refine Sat.Mv.alloc ?_ _ | with_reducible refine Sat.Mv.drew ?_ | with_reducible refine Sat.Mv.drewN ?_ _ | with_reducible refine Sat.Mv.set ?_ ?_ _)) <;> (first | exact Or.inl (Or.inl rfl) | exact Or.inl (Or.inr rfl) | exact Or.inl rfl | (refine Or.inr ?_; (try simp); omega) | (refine Or.inl ?_; (try simp); omega))) (Mv.wide m2 (fun b hb => hb))); have HM := hide m2; obtain ⟨c0, c1, c2, c3, c4, c5, c6, k0, k1, k2, k3, k4, k5, k6⟩ := bk7 b2; clear m2 b2)
      refine bodyPost_ret (v := .agg #[.string (tx kd1), .string (tx nm1), .slice qA1 tys1.length cA1, .slice qB1 exprs1.length cB1, .slice qC1 body1.length cC1, .slice qD1 els1.length cD1, .int .i64 (p1 : Nat)]) (by simp [results, Tryz.results143, go_sem, c0, c1, c2, c3, c4, c5, c6]) rfl ?_
      rw [HRR.out]
      exact ans_fin (fun b => b = w.heap.size) HE.out (mvt HS0.out HS1.out) (fun b hb => by have hb : b = g ∨ b = w.heap.size := hb; omega) HQ2.out (fun b hb => by have hb : b = w.heap.size := hb; omega) ⟨_, _, _, _, _, _, _, _, _, _, _, rfl, rfl, HX1.out.1.far (G := fun b => b = g ∨ b = w.heap.size) (Mv.wide HE.out fun b k => Or.inr k) (by intro b hb hl hk; (try simp at hb); have hk : b = g ∨ b = w.heap.size := hk; omega) (by intro b hb; (try simp at hb); show w.heap.size ≤ b; omega), HX1.out.2.1.far (G := fun b => b = g ∨ b = w.heap.size) (Mv.wide HE.out fun b k => Or.inr k) (by intro b hb hl hk; (try simp at hb); have hk : b = g ∨ b = w.heap.size := hk; omega) (by intro b hb; (try simp at hb); show w.heap.size ≤ b; omega), HX1.out.2.2.1.far (G := fun b => b = g ∨ b = w.heap.size) (Mv.wide HE.out fun b k => Or.inr k) (by intro b hb hl hk; (try simp at hb); have hk : b = g ∨ b = w.heap.size := hk; omega) (by intro b hb; (try simp at hb); show w.heap.size ≤ b; omega), HX1.out.2.2.2.far (G := fun b => b = g ∨ b = w.heap.size) (Mv.wide HE.out fun b k => Or.inr k) (by intro b hb hl hk; (try simp at hb); have hk : b = g ∨ b = w.heap.size := hk; omega) (by intro b hb; (try simp at hb); show w.heap.size ≤ b; omega)⟩
  rw [if_neg y3] at hRR
  by_cases y4 : (Syn.hd en st).x = ([97, 115, 115, 101, 114, 116] : List UInt8)
  case pos =>
    have yo : (Syn.hd en st).x = ([97, 115, 115, 101, 114, 116] : List UInt8) ∨ (Syn.hd en st).x = ([112, 114, 105, 110, 116] : List UInt8) := by rw [y4]; decide
    rw [if_pos yo] at hRR
    clear yo
    have HC2 : Hid (∀ w1, Q w1 g lo en dp st.tail → P en N .lastExpr dp st.tail ≠ .out → Calls Tryz.prog 139 #[.pointer (some ⟨g, 0, none⟩)] w1 fun e w' => Ans (ShL 0) w1 g lo en dp e w' (P en N .lastExpr dp st.tail)) := fun w1 q1 hn => hlastExpr w1 dp st.tail q1 hn
    generalize P en N .lastExpr dp st.tail = E2 at hRR HC2
    cases E2 with
    | out => exact absurd hRR hne
    | bad cc a =>
      have hI0 : ((tx (Syn.hd en st).x).toList == ([108, 101, 116] : List UInt8)) = false := by rw [Lex.eqT, Lex.bs_tx]; exact decide_eq_false y0
      have Hy0 := hide y0
      clear y0
      have hI1 : ((tx (Syn.hd en st).x).toList == ([105, 102] : List UInt8)) = false := by rw [Lex.eqT, Lex.bs_tx]; exact decide_eq_false y1
      have Hy1 := hide y1
      clear y1
      have hI2 : ((tx (Syn.hd en st).x).toList == ([119, 104, 105, 108, 101] : List UInt8)) = false := by rw [Lex.eqT, Lex.bs_tx]; exact decide_eq_false y2
      have Hy2 := hide y2
      clear y2
      have hI3 : ((tx (Syn.hd en st).x).toList == ([114, 101, 116, 117, 114, 110] : List UInt8)) = false := by rw [Lex.eqT, Lex.bs_tx]; exact decide_eq_false y3
      have Hy3 := hide y3
      clear y3
      have hI4 : ((tx (Syn.hd en st).x).toList == ([97, 115, 115, 101, 114, 116] : List UInt8)) = true := by rw [Lex.eqT, Lex.bs_tx]; exact decide_eq_true y4
      have Hy4 := hide y4
      clear y4
      have HRR := hide hRR
      clear hRR
      go_enter Tryz.func143, Tryz.ntmps143
      go_wp2_with fail
      refine (step_q (fun b => b = w.heap.size) (wk := w) ?_ HQ0.out (fun b hb => by have hb : b = w.heap.size := hb; omega) (fun wz qz => next_q wz g lo en dp st qz)).mono ?_
      · (repeat' (first | with_reducible exact Sat.Mv.refl _ _ | with_reducible refine Sat.Mv.alloc ?_ _ | with_reducible refine Sat.Mv.drew ?_ | with_reducible refine Sat.Mv.drewN ?_ _ | with_reducible refine Sat.Mv.set ?_ ?_ _)) <;> (first | exact Or.inl (Or.inl rfl) | exact Or.inl (Or.inr rfl) | exact Or.inl rfl | (refine Or.inr ?_; (try simp); omega) | (refine Or.inl ?_; (try simp); omega))
      rintro e w1 ⟨⟨rfl, b2⟩, sg⟩
      have m2 : MvR g _ w1 := Sat.Mv.below b2
      have q2 : Q w1 g lo en dp st := (HQ0.out.mv sg (fun b hb => by have hb : b = w.heap.size := hb; omega)).below b2
      have z0 := m2.size
      try simp at z0
      have HS0 := hide (seg sg m2)
      have HQ1 := hide q2
      have hB : Blk 47 w1 (w.heap.size) #[.string ByteArray.empty, .string ByteArray.empty, .slice none 0 0, .slice none 0 0, .slice none 0 0, .slice none 0 0, .int .i64 0] := m2.blk (by (repeat' (first | exact Blk.new _ _ _ | with_reducible refine Blk.alloc ?_ _ | with_reducible refine Blk.drewN ?_ _ | with_reducible refine Blk.other ?_ ?_ _)) <;> (first | (simp; omega) | simp | omega)) (by omega)
      have HB := hide hB
      clear hB
      clear m2 q2 sg b2
      simp only [TV]
      have F10 := fun w => field_text (tx (Syn.hd en st).x) (Syn.hd en st).k (Syn.hd en st).a w
      have F20 := fun w => field_place (tx (Syn.hd en st).x) (Syn.hd en st).k (Syn.hd en st).a w
      go_wp2_with fail
      refine (step_q (fun b => b = w.heap.size) (wk := w1) ?_ HQ1.out (fun b hb => by have hb : b = w.heap.size := hb; omega) (fun wz qz => take_q wz g lo en dp st qz (by exact hd_ne (by decide) Hy4.out))).mono ?_
      · (repeat' (first | with_reducible exact Sat.Mv.refl _ _ | with_reducible refine Sat.Mv.alloc ?_ _ | with_reducible refine Sat.Mv.drew ?_ | with_reducible refine Sat.Mv.drewN ?_ _ | with_reducible refine Sat.Mv.set ?_ ?_ _)) <;> (first | exact Or.inl (Or.inl rfl) | exact Or.inl (Or.inr rfl) | exact Or.inl rfl | (refine Or.inr ?_; (try simp); omega) | (refine Or.inl ?_; (try simp); omega))
      rintro e w2 ⟨⟨rfl, q2, m2⟩, sg⟩
      have z1 := m2.size
      try simp at z1
      have HS1 := hide (seg sg m2)
      have HQ2 := hide q2
      have hB : Blk 47 w2 (w.heap.size) #[.string ByteArray.empty, .string ByteArray.empty, .slice none 0 0, .slice none 0 0, .slice none 0 0, .slice none 0 0, .int .i64 0] := m2.blk (by (repeat' (first | with_reducible exact HB.out | with_reducible refine Blk.alloc ?_ _ | with_reducible refine Blk.drewN ?_ _ | with_reducible refine Blk.other ?_ ?_ _ | exact HB.out)) <;> (first | (simp; omega) | simp | omega)) (by omega)
      clear HB
      have HB := hide hB
      clear hB
      clear m2 q2 sg
      simp only [TV]
      have F11 := fun w => field_text (tx (Syn.hd en st).x) (Syn.hd en st).k (Syn.hd en st).a w
      have F21 := fun w => field_place (tx (Syn.hd en st).x) (Syn.hd en st).k (Syn.hd en st).a w
      go_wp2_with fail
      refine region_at ?_
      intro W hW
      have hMW : Sat.Mv (fun b => b = w.heap.size) w2 W := by rw [hW]; (repeat' (first | with_reducible exact Sat.Mv.refl _ _ | with_reducible refine Sat.Mv.alloc ?_ _ | with_reducible refine Sat.Mv.drew ?_ | with_reducible refine Sat.Mv.drewN ?_ _ | with_reducible refine Sat.Mv.set ?_ ?_ _)) <;> (first | exact Or.inl (Or.inl rfl) | exact Or.inl (Or.inr rfl) | exact Or.inl rfl | (refine Or.inr ?_; (try simp); omega) | (refine Or.inl ?_; (try simp); omega))
      have hRB : Blk 47 W (w.heap.size) #[.string ByteArray.empty, .string ByteArray.empty, .slice none 0 0, .slice none 0 0, .slice none 0 0, .slice none 0 0, .int .i64 0] := by rw [hW]; (repeat' (first | with_reducible exact HB.out | with_reducible refine Blk.alloc ?_ _ | with_reducible refine Blk.drewN ?_ _ | with_reducible refine Blk.other ?_ ?_ _ | exact HB.out)) <;> (first | (simp; omega) | simp | omega)
      have hLB0 : Blk 43 W (w2.heap.size) #[.int .i64 ((Syn.hd en st).k : Nat), .string (tx (Syn.hd en st).x), .int .i64 ((Syn.hd en st).a : Nat)] := by rw [hW]; (repeat' (first | exact Blk.new _ _ _ | with_reducible refine Blk.alloc ?_ _ | with_reducible refine Blk.drewN ?_ _ | with_reducible refine Blk.other ?_ ?_ _)) <;> (first | (simp; omega) | simp | omega)
      have HMW := hide hMW
      have HRB := hide hRB
      have HQW := hide (HQ2.out.mv hMW (fun b hb => by have hb : b = w.heap.size := hb; omega))
      have hgW := HQW.out.lt
      have hWz := hMW.size
      have hrz := hRB.lt
      clear hMW hRB hW
      have HLB0 := hide hLB0
      have hLz0 := hLB0.lt
      clear hLB0
      obtain ⟨Ph, hPhE⟩ : ∃ Ph : Phase, Ph = (fun i vs wz => (i < 3 → MvR g W wz) ∧ match i with | 0 => Q wz g lo en dp st.tail | _ => False) := ⟨_, rfl⟩
      refine wp_region_F (by kernel_rfl) [some 28, some 29, some 30, some 31, some 32, some 33, some 34, none] [none, none, none, none, none, none, none, none, none, none, none, none, none, none, none, none, none, none, none, none, none, none, none, none, none, none, none, none, some 28, some 29, some 30, some 31, some 32, some 33, some 34] (fun U => by kernel_rfl) [fun u => u = (.pointer (some ⟨w2.heap.size, 1, none⟩)), fun u => u = (.string (tx (Syn.hd en st).x)), fun u => u = (.pointer (some ⟨g, 0, none⟩)), fun _ => True, fun u => u = (.pointer (some ⟨w2.heap.size, 2, none⟩)), fun u => u = (.int .i64 ((Syn.hd en st).a : Nat)), fun _ => True, fun _ => True] (PC [(3, some 31), (6, some 34), (7, none)] Ph) (by kernel_rfl) (by decide) (by kernel_rfl) (by kernel_rfl) (fun U => PC.start (by rw [hPhE]; exact ⟨fun _ => Sat.Mv.below (Below.refl _ _).drew, HQW.out.below (Below.refl _ _).drew⟩)) ?_ ?_
      · refine StepsF.run rfl ?_ ?_
        · intro L U wr hC hP hlk hcl haf A K hFm hK
          clear haf
          have e3 : A.tmps[3]? = some (.pointer (some ⟨w2.heap.size, 0, none⟩)) := (hFm.old 3 (by decide)).trans (by kernel_rfl)
          have HC9 := hide hC
          clear hC
          refine ⟨?_⟩
          go_simp
          exact hK _ _ rfl (HC9.out.read (by decide) (by decide))
        refine StepsF.run rfl ?_ ?_
        · intro L U wr hC hP hlk hcl haf A K hFm hK
          simp [Aft, Region.binds] at haf
          have e28 : A.tmps[28]? = some (.pointer (some ⟨w2.heap.size, 1, none⟩)) := hFm.is 0 28 rfl (hP 0 28 (by simp [haf]) rfl)
          have hkb : L 6 = false := by cases h : L 6 with | false => rfl | true => have h9 := hcl 6 _ rfl h; simp [Aft, Region.binds, hlk] at h9
          obtain ⟨iz, vz, hiz, hPz⟩ := hC.at_ 1 (by decide) hkb
          rw [hPhE] at hPz
          have hMz : MvR g W wr := hPz.1 (by omega)
          clear hPz hiz
          have hLk : Blk 43 wr (w2.heap.size) #[.int .i64 ((Syn.hd en st).k : Nat), .string (tx (Syn.hd en st).x), .int .i64 ((Syn.hd en st).a : Nat)] := hMz.blk HLB0.out (by omega)
          obtain ⟨l0_0, l0_1, l0_2, f0_0, f0_1, f0_2⟩ := bk3 hLk
          clear hLk
          have HC9 := hide hC
          clear hC hMz
          refine ⟨?_⟩
          go_simp
          exact hK _ _ rfl (HC9.out.read (by decide) (by decide))
        refine StepsF.run rfl ?_ ?_
        · intro L U wr hC hP hlk hcl haf A K hFm hK
          clear haf
          have e0 : A.tmps[0]? = some (.pointer (some ⟨g, 0, none⟩)) := (hFm.old 0 (by decide)).trans (by kernel_rfl)
          have HC9 := hide hC
          clear hC
          refine ⟨?_⟩
          go_simp
          exact hK _ _ rfl (HC9.out.read (by decide) (by decide))
        refine StepsF.run rfl ?_ ?_
        · intro L U wr hC hP hlk hcl haf A K hFm hK
          simp [Aft, Region.binds] at haf
          obtain ⟨vs, hvs, hPh, hnx⟩ := hC.step 0 (by decide) hlk (Or.inl rfl) (by decide) (by decide)
          rw [hPhE] at hPh
          have e30 : A.tmps[30]? = some (.pointer (some ⟨g, 0, none⟩)) := hFm.is 2 30 rfl (hP 2 30 (by simp [haf]) rfl)
          clear hC
          refine ⟨?_⟩
          have HPh := hide hPh
          have Hnx := hide hnx
          clear hPh hnx
          go_simp
          refine (HC2.out wr HPh.out.2 (fun e => by cases e)).mono ?_
          rintro e w9 ⟨m9, rfl⟩
          obtain ⟨tm9, df9⟩ := A
          have hd9 : df9 = [] := hFm.def_
          subst hd9
          clear hFm hK
          go_simp
          refine ⟨rfl, ?_⟩
          rw [HRR.out]
          exact ⟨Mv.out (mvt (mvt HS0.out HS1.out) (seg HMW.out (MvR.to (HPh.out.1 (by decide)) m9))) (fun b hb => by have hb : b = g ∨ b = w.heap.size := hb; omega), rfl⟩
        refine StepsF.run rfl ?_ ?_
        · intro L U wr hC hP hlk hcl haf A K hFm hK
          clear haf
          have e3 : A.tmps[3]? = some (.pointer (some ⟨w2.heap.size, 0, none⟩)) := (hFm.old 3 (by decide)).trans (by kernel_rfl)
          have HC9 := hide hC
          clear hC
          refine ⟨?_⟩
          go_simp
          exact hK _ _ rfl (HC9.out.read (by decide) (by decide))
        refine StepsF.run rfl ?_ ?_
        · intro L U wr hC hP hlk hcl haf A K hFm hK
          simp [Aft, Region.binds] at haf
          have e32 : A.tmps[32]? = some (.pointer (some ⟨w2.heap.size, 2, none⟩)) := hFm.is 4 32 rfl (hP 4 32 (by simp [haf]) rfl)
          have hkb : L 6 = false := by cases h : L 6 with | false => rfl | true => have h9 := hcl 6 _ rfl h; simp [Aft, Region.binds, hlk] at h9
          obtain ⟨iz, vz, hiz, hPz⟩ := hC.at_ 1 (by decide) hkb
          rw [hPhE] at hPz
          have hMz : MvR g W wr := hPz.1 (by omega)
          clear hPz hiz
          have hLk : Blk 43 wr (w2.heap.size) #[.int .i64 ((Syn.hd en st).k : Nat), .string (tx (Syn.hd en st).x), .int .i64 ((Syn.hd en st).a : Nat)] := hMz.blk HLB0.out (by omega)
          obtain ⟨l0_0, l0_1, l0_2, f0_0, f0_1, f0_2⟩ := bk3 hLk
          clear hLk
          have HC9 := hide hC
          clear hC hMz
          refine ⟨?_⟩
          go_simp
          exact hK _ _ rfl (HC9.out.read (by decide) (by decide))
        refine StepsF.run rfl ?_ ?_
        · intro L U wr hC hP hlk hcl haf A K hFm hK
          simp [Aft, Region.binds] at haf
          obtain ⟨vs, hvs, hPh, hnx⟩ := hC.step 1 (by decide) hlk (Or.inr (by first | exact haf | exact haf.1 | exact haf.2 | simp [chN, haf])) (by decide) (by decide)
          rw [hPhE] at hPh
          have e29 : A.tmps[29]? = some (.string (tx (Syn.hd en st).x)) := hFm.is 1 29 rfl (hP 1 29 (by simp [haf]) rfl)
          have e31 : A.tmps[31]? = some (vs 0) := hFm.is 3 31 rfl (hvs 0 31 (by decide) rfl)
          have e33 : A.tmps[33]? = some (.int .i64 ((Syn.hd en st).a : Nat)) := hFm.is 5 33 rfl (hP 5 33 (by simp [haf]) rfl)
          clear hC
          exact hPh.2.elim
        refine StepsF.run rfl ?_ StepsF.nil
        · intro L U wr hC hP hlk hcl haf A K hFm hK
          simp [Aft, Region.binds] at haf
          obtain ⟨vs, hvs, hPh, hnx⟩ := hC.step 2 (by decide) hlk (Or.inr (by first | exact haf | exact haf.1 | exact haf.2 | simp [chN, haf])) (by decide) (by decide)
          rw [hPhE] at hPh
          have e34 : A.tmps[34]? = some (vs 1) := hFm.is 6 34 rfl (hvs 1 34 (by decide) rfl)
          have e2 : A.tmps[2]? = some (.pointer (some ⟨w.heap.size, 0, none⟩)) := (hFm.old 2 (by decide)).trans (by kernel_rfl)
          clear hC
          exact hPh.2.elim
      intro L U5 V5 hall hC hP
      obtain ⟨vs, hvs, hPh⟩ := hC.fin (by decide) (hall 7 (by decide))
      rw [hPhE] at hPh
      clear hPhE hC hP hall
      simp only [setM_some, setM_none, setM_nil]
      exact hPh.2.elim
    | ok r2 s2 =>
      try simp only [Res.to_ok] at hRR
      have hI0 : ((tx (Syn.hd en st).x).toList == ([108, 101, 116] : List UInt8)) = false := by rw [Lex.eqT, Lex.bs_tx]; exact decide_eq_false y0
      have Hy0 := hide y0
      clear y0
      have hI1 : ((tx (Syn.hd en st).x).toList == ([105, 102] : List UInt8)) = false := by rw [Lex.eqT, Lex.bs_tx]; exact decide_eq_false y1
      have Hy1 := hide y1
      clear y1
      have hI2 : ((tx (Syn.hd en st).x).toList == ([119, 104, 105, 108, 101] : List UInt8)) = false := by rw [Lex.eqT, Lex.bs_tx]; exact decide_eq_false y2
      have Hy2 := hide y2
      clear y2
      have hI3 : ((tx (Syn.hd en st).x).toList == ([114, 101, 116, 117, 114, 110] : List UInt8)) = false := by rw [Lex.eqT, Lex.bs_tx]; exact decide_eq_false y3
      have Hy3 := hide y3
      clear y3
      have hI4 : ((tx (Syn.hd en st).x).toList == ([97, 115, 115, 101, 114, 116] : List UInt8)) = true := by rw [Lex.eqT, Lex.bs_tx]; exact decide_eq_true y4
      have Hy4 := hide y4
      clear y4
      have HRR := hide hRR
      clear hRR
      go_enter Tryz.func143, Tryz.ntmps143
      go_wp2_with fail
      refine (step_q (fun b => b = w.heap.size) (wk := w) ?_ HQ0.out (fun b hb => by have hb : b = w.heap.size := hb; omega) (fun wz qz => next_q wz g lo en dp st qz)).mono ?_
      · (repeat' (first | with_reducible exact Sat.Mv.refl _ _ | with_reducible refine Sat.Mv.alloc ?_ _ | with_reducible refine Sat.Mv.drew ?_ | with_reducible refine Sat.Mv.drewN ?_ _ | with_reducible refine Sat.Mv.set ?_ ?_ _)) <;> (first | exact Or.inl (Or.inl rfl) | exact Or.inl (Or.inr rfl) | exact Or.inl rfl | (refine Or.inr ?_; (try simp); omega) | (refine Or.inl ?_; (try simp); omega))
      rintro e w1 ⟨⟨rfl, b2⟩, sg⟩
      have m2 : MvR g _ w1 := Sat.Mv.below b2
      have q2 : Q w1 g lo en dp st := (HQ0.out.mv sg (fun b hb => by have hb : b = w.heap.size := hb; omega)).below b2
      have z0 := m2.size
      try simp at z0
      have HS0 := hide (seg sg m2)
      have HQ1 := hide q2
      have hB : Blk 47 w1 (w.heap.size) #[.string ByteArray.empty, .string ByteArray.empty, .slice none 0 0, .slice none 0 0, .slice none 0 0, .slice none 0 0, .int .i64 0] := m2.blk (by (repeat' (first | exact Blk.new _ _ _ | with_reducible refine Blk.alloc ?_ _ | with_reducible refine Blk.drewN ?_ _ | with_reducible refine Blk.other ?_ ?_ _)) <;> (first | (simp; omega) | simp | omega)) (by omega)
      have HB := hide hB
      clear hB
      clear m2 q2 sg b2
      simp only [TV]
      have F10 := fun w => field_text (tx (Syn.hd en st).x) (Syn.hd en st).k (Syn.hd en st).a w
      have F20 := fun w => field_place (tx (Syn.hd en st).x) (Syn.hd en st).k (Syn.hd en st).a w
      go_wp2_with fail
      refine (step_q (fun b => b = w.heap.size) (wk := w1) ?_ HQ1.out (fun b hb => by have hb : b = w.heap.size := hb; omega) (fun wz qz => take_q wz g lo en dp st qz (by exact hd_ne (by decide) Hy4.out))).mono ?_
      · (repeat' (first | with_reducible exact Sat.Mv.refl _ _ | with_reducible refine Sat.Mv.alloc ?_ _ | with_reducible refine Sat.Mv.drew ?_ | with_reducible refine Sat.Mv.drewN ?_ _ | with_reducible refine Sat.Mv.set ?_ ?_ _)) <;> (first | exact Or.inl (Or.inl rfl) | exact Or.inl (Or.inr rfl) | exact Or.inl rfl | (refine Or.inr ?_; (try simp); omega) | (refine Or.inl ?_; (try simp); omega))
      rintro e w2 ⟨⟨rfl, q2, m2⟩, sg⟩
      have z1 := m2.size
      try simp at z1
      have HS1 := hide (seg sg m2)
      have HQ2 := hide q2
      have hB : Blk 47 w2 (w.heap.size) #[.string ByteArray.empty, .string ByteArray.empty, .slice none 0 0, .slice none 0 0, .slice none 0 0, .slice none 0 0, .int .i64 0] := m2.blk (by (repeat' (first | with_reducible exact HB.out | with_reducible refine Blk.alloc ?_ _ | with_reducible refine Blk.drewN ?_ _ | with_reducible refine Blk.other ?_ ?_ _ | exact HB.out)) <;> (first | (simp; omega) | simp | omega)) (by omega)
      clear HB
      have HB := hide hB
      clear hB
      clear m2 q2 sg
      simp only [TV]
      have F11 := fun w => field_text (tx (Syn.hd en st).x) (Syn.hd en st).k (Syn.hd en st).a w
      have F21 := fun w => field_place (tx (Syn.hd en st).x) (Syn.hd en st).k (Syn.hd en st).a w
      go_wp2_with fail
      refine region_at ?_
      intro W hW
      have hMW : Sat.Mv (fun b => b = w.heap.size) w2 W := by rw [hW]; (repeat' (first | with_reducible exact Sat.Mv.refl _ _ | with_reducible refine Sat.Mv.alloc ?_ _ | with_reducible refine Sat.Mv.drew ?_ | with_reducible refine Sat.Mv.drewN ?_ _ | with_reducible refine Sat.Mv.set ?_ ?_ _)) <;> (first | exact Or.inl (Or.inl rfl) | exact Or.inl (Or.inr rfl) | exact Or.inl rfl | (refine Or.inr ?_; (try simp); omega) | (refine Or.inl ?_; (try simp); omega))
      have hRB : Blk 47 W (w.heap.size) #[.string ByteArray.empty, .string ByteArray.empty, .slice none 0 0, .slice none 0 0, .slice none 0 0, .slice none 0 0, .int .i64 0] := by rw [hW]; (repeat' (first | with_reducible exact HB.out | with_reducible refine Blk.alloc ?_ _ | with_reducible refine Blk.drewN ?_ _ | with_reducible refine Blk.other ?_ ?_ _ | exact HB.out)) <;> (first | (simp; omega) | simp | omega)
      have hLB0 : Blk 43 W (w2.heap.size) #[.int .i64 ((Syn.hd en st).k : Nat), .string (tx (Syn.hd en st).x), .int .i64 ((Syn.hd en st).a : Nat)] := by rw [hW]; (repeat' (first | exact Blk.new _ _ _ | with_reducible refine Blk.alloc ?_ _ | with_reducible refine Blk.drewN ?_ _ | with_reducible refine Blk.other ?_ ?_ _)) <;> (first | (simp; omega) | simp | omega)
      have HMW := hide hMW
      have HRB := hide hRB
      have HQW := hide (HQ2.out.mv hMW (fun b hb => by have hb : b = w.heap.size := hb; omega))
      have hgW := HQW.out.lt
      have hWz := hMW.size
      have hrz := hRB.lt
      clear hMW hRB hW
      have HLB0 := hide hLB0
      have hLz0 := hLB0.lt
      clear hLB0
      obtain ⟨Ph, hPhE⟩ : ∃ Ph : Phase, Ph = (fun i vs wz => (i < 3 → MvR g W wz) ∧ match i with | 0 => Q wz g lo en dp st.tail | 1 => ∃ rows2 qA2 cA2, r2 = [.l 0 rows2] ∧ vs 0 = .slice qA2 rows2.length cA2 ∧ MvR g W wz ∧ Q wz g lo en dp s2 ∧ X wz (fun b => W.heap.size ≤ b) (.slice qA2 rows2.length cA2) (.l 0 rows2) | 2 => ∃ rows2 qA2 cA2, r2 = [.l 0 rows2] ∧ vs 0 = .slice qA2 rows2.length cA2 ∧ vs 1 = .agg #[.string (tx (Syn.hd en st).x), .string { data := #[] }, .slice none 0 0, .slice qA2 rows2.length cA2, .slice none 0 0, .slice none 0 0, .int .i64 ((Syn.hd en st).a : Nat)] ∧ MvR g W wz ∧ Q wz g lo en dp s2 ∧ X wz (fun b => W.heap.size ≤ b) (.slice qA2 rows2.length cA2) (.l 0 rows2) | _ => ∃ rows2 qA2 cA2, r2 = [.l 0 rows2] ∧ ∃ wy, Blk 47 wz (w.heap.size) #[.string (tx (Syn.hd en st).x), .string { data := #[] }, .slice none 0 0, .slice qA2 rows2.length cA2, .slice none 0 0, .slice none 0 0, .int .i64 ((Syn.hd en st).a : Nat)] ∧ Sat.Mv (fun b => b = w.heap.size) wy wz ∧ MvR g W wy ∧ Q wy g lo en dp s2 ∧ X wy (fun b => W.heap.size ≤ b) (.slice qA2 rows2.length cA2) (.l 0 rows2)) := ⟨_, rfl⟩
      refine wp_region_F (by kernel_rfl) [some 28, some 29, some 30, some 31, some 32, some 33, some 34, none] [none, none, none, none, none, none, none, none, none, none, none, none, none, none, none, none, none, none, none, none, none, none, none, none, none, none, none, none, some 28, some 29, some 30, some 31, some 32, some 33, some 34] (fun U => by kernel_rfl) [fun u => u = (.pointer (some ⟨w2.heap.size, 1, none⟩)), fun u => u = (.string (tx (Syn.hd en st).x)), fun u => u = (.pointer (some ⟨g, 0, none⟩)), fun _ => True, fun u => u = (.pointer (some ⟨w2.heap.size, 2, none⟩)), fun u => u = (.int .i64 ((Syn.hd en st).a : Nat)), fun _ => True, fun _ => True] (PC [(3, some 31), (6, some 34), (7, none)] Ph) (by kernel_rfl) (by decide) (by kernel_rfl) (by kernel_rfl) (fun U => PC.start (by rw [hPhE]; exact ⟨fun _ => Sat.Mv.below (Below.refl _ _).drew, HQW.out.below (Below.refl _ _).drew⟩)) ?_ ?_
      · refine StepsF.run rfl ?_ ?_
        · intro L U wr hC hP hlk hcl haf A K hFm hK
          clear haf
          have e3 : A.tmps[3]? = some (.pointer (some ⟨w2.heap.size, 0, none⟩)) := (hFm.old 3 (by decide)).trans (by kernel_rfl)
          have HC9 := hide hC
          clear hC
          refine ⟨?_⟩
          go_simp
          exact hK _ _ rfl (HC9.out.read (by decide) (by decide))
        refine StepsF.run rfl ?_ ?_
        · intro L U wr hC hP hlk hcl haf A K hFm hK
          simp [Aft, Region.binds] at haf
          have e28 : A.tmps[28]? = some (.pointer (some ⟨w2.heap.size, 1, none⟩)) := hFm.is 0 28 rfl (hP 0 28 (by simp [haf]) rfl)
          have hkb : L 6 = false := by cases h : L 6 with | false => rfl | true => have h9 := hcl 6 _ rfl h; simp [Aft, Region.binds, hlk] at h9
          obtain ⟨iz, vz, hiz, hPz⟩ := hC.at_ 1 (by decide) hkb
          rw [hPhE] at hPz
          have hMz : MvR g W wr := hPz.1 (by omega)
          clear hPz hiz
          have hLk : Blk 43 wr (w2.heap.size) #[.int .i64 ((Syn.hd en st).k : Nat), .string (tx (Syn.hd en st).x), .int .i64 ((Syn.hd en st).a : Nat)] := hMz.blk HLB0.out (by omega)
          obtain ⟨l0_0, l0_1, l0_2, f0_0, f0_1, f0_2⟩ := bk3 hLk
          clear hLk
          have HC9 := hide hC
          clear hC hMz
          refine ⟨?_⟩
          go_simp
          exact hK _ _ rfl (HC9.out.read (by decide) (by decide))
        refine StepsF.run rfl ?_ ?_
        · intro L U wr hC hP hlk hcl haf A K hFm hK
          clear haf
          have e0 : A.tmps[0]? = some (.pointer (some ⟨g, 0, none⟩)) := (hFm.old 0 (by decide)).trans (by kernel_rfl)
          have HC9 := hide hC
          clear hC
          refine ⟨?_⟩
          go_simp
          exact hK _ _ rfl (HC9.out.read (by decide) (by decide))
        refine StepsF.run rfl ?_ ?_
        · intro L U wr hC hP hlk hcl haf A K hFm hK
          simp [Aft, Region.binds] at haf
          obtain ⟨vs, hvs, hPh, hnx⟩ := hC.step 0 (by decide) hlk (Or.inl rfl) (by decide) (by decide)
          rw [hPhE] at hPh
          have e30 : A.tmps[30]? = some (.pointer (some ⟨g, 0, none⟩)) := hFm.is 2 30 rfl (hP 2 30 (by simp [haf]) rfl)
          clear hC
          refine ⟨?_⟩
          have HPh := hide hPh
          have Hnx := hide hnx
          clear hPh hnx
          go_simp
          refine (HC2.out wr HPh.out.2 (fun e => by cases e)).mono ?_
          rintro e w9 ⟨m9, q9, u, rfl, ⟨rows2, hr9, xA2⟩⟩
          obtain ⟨qA2, cA2, rfl⟩ := xA2.slice
          have m99 := MvR.to (HPh.out.1 (by decide)) m9
          have hz9 := (HPh.out.1 (by decide)).size
          go_simp
          exact hK _ _ trivial (Hnx.out _ _ (by rw [hPhE]; exact ⟨fun _ => m99, _, _, _, hr9, rfl, m99, q9, xA2.stay (fun b hb _ => ⟨rfl, Nat.le_trans hz9 hb⟩)⟩))
        refine StepsF.run rfl ?_ ?_
        · intro L U wr hC hP hlk hcl haf A K hFm hK
          clear haf
          have e3 : A.tmps[3]? = some (.pointer (some ⟨w2.heap.size, 0, none⟩)) := (hFm.old 3 (by decide)).trans (by kernel_rfl)
          have HC9 := hide hC
          clear hC
          refine ⟨?_⟩
          go_simp
          exact hK _ _ rfl (HC9.out.read (by decide) (by decide))
        refine StepsF.run rfl ?_ ?_
        · intro L U wr hC hP hlk hcl haf A K hFm hK
          simp [Aft, Region.binds] at haf
          have e32 : A.tmps[32]? = some (.pointer (some ⟨w2.heap.size, 2, none⟩)) := hFm.is 4 32 rfl (hP 4 32 (by simp [haf]) rfl)
          have hkb : L 6 = false := by cases h : L 6 with | false => rfl | true => have h9 := hcl 6 _ rfl h; simp [Aft, Region.binds, hlk] at h9
          obtain ⟨iz, vz, hiz, hPz⟩ := hC.at_ 1 (by decide) hkb
          rw [hPhE] at hPz
          have hMz : MvR g W wr := hPz.1 (by omega)
          clear hPz hiz
          have hLk : Blk 43 wr (w2.heap.size) #[.int .i64 ((Syn.hd en st).k : Nat), .string (tx (Syn.hd en st).x), .int .i64 ((Syn.hd en st).a : Nat)] := hMz.blk HLB0.out (by omega)
          obtain ⟨l0_0, l0_1, l0_2, f0_0, f0_1, f0_2⟩ := bk3 hLk
          clear hLk
          have HC9 := hide hC
          clear hC hMz
          refine ⟨?_⟩
          go_simp
          exact hK _ _ rfl (HC9.out.read (by decide) (by decide))
        refine StepsF.run rfl ?_ ?_
        · intro L U wr hC hP hlk hcl haf A K hFm hK
          simp [Aft, Region.binds] at haf
          obtain ⟨vs, hvs, hPh, hnx⟩ := hC.step 1 (by decide) hlk (Or.inr (by first | exact haf | exact haf.1 | exact haf.2 | simp [chN, haf])) (by decide) (by decide)
          rw [hPhE] at hPh
          have e29 : A.tmps[29]? = some (.string (tx (Syn.hd en st).x)) := hFm.is 1 29 rfl (hP 1 29 (by simp [haf]) rfl)
          have e31 : A.tmps[31]? = some (vs 0) := hFm.is 3 31 rfl (hvs 0 31 (by decide) rfl)
          have e33 : A.tmps[33]? = some (.int .i64 ((Syn.hd en st).a : Nat)) := hFm.is 5 33 rfl (hP 5 33 (by simp [haf]) rfl)
          clear hC
          obtain ⟨h3, rows2, qA2, cA2, hr9, hv9, hz9⟩ := hPh
          rw [hv9] at e31
          have HZ := hide (And.intro h3 (And.intro hr9 hz9))
          have Hnx := hide hnx
          have Hv9 := hide hv9
          clear h3 hr9 hz9 hnx hv9
          refine ⟨?_⟩
          go_simp
          exact hK _ _ trivial (Hnx.out _ _ (by rw [hPhE]; exact ⟨fun _ => HZ.out.1 (by decide), _, _, _, HZ.out.2.1, Hv9.out, rfl, HZ.out.2.2⟩))
        refine StepsF.run rfl ?_ StepsF.nil
        · intro L U wr hC hP hlk hcl haf A K hFm hK
          simp [Aft, Region.binds] at haf
          obtain ⟨vs, hvs, hPh, hnx⟩ := hC.step 2 (by decide) hlk (Or.inr (by first | exact haf | exact haf.1 | exact haf.2 | simp [chN, haf])) (by decide) (by decide)
          rw [hPhE] at hPh
          have e34 : A.tmps[34]? = some (vs 1) := hFm.is 6 34 rfl (hvs 1 34 (by decide) rfl)
          have e2 : A.tmps[2]? = some (.pointer (some ⟨w.heap.size, 0, none⟩)) := (hFm.old 2 (by decide)).trans (by kernel_rfl)
          clear hC
          obtain ⟨h3, rows2, qA2, cA2, hr9, hv8, hv9, hz9⟩ := hPh
          rw [hv9] at e34
          have hb9 := (h3 (by decide)).blk HRB.out (by omega)
          refine ⟨?_⟩
          refine op_list 47 (.tmp 2) (.tmp 34) rfl (w.heap.size) #[.string (tx (Syn.hd en st).x), .string { data := #[] }, .slice none 0 0, .slice qA2 rows2.length cA2, .slice none 0 0, .slice none 0 0, .int .i64 ((Syn.hd en st).a : Nat)] (by simp [Act.eval, e2]) (by simp [Act.eval, e34]) 47 #[.string ByteArray.empty, .string ByteArray.empty, .slice none 0 0, .slice none 0 0, .slice none 0 0, .slice none 0 0, .int .i64 0] hb9 (by kernel_rfl) rfl rfl ?_
          exact hK _ _ trivial (hnx _ _ (by rw [hPhE]; exact ⟨(fun h => absurd h (by decide)), _, _, _, hr9, wr, setRow_heap wr (w.heap.size) _ _ 47 (0, 0) hb9, ⟨rfl, rfl, rfl, by simp [World.setRow], fun k _ hk => setRow_other wr (w.heap.size) k _ hk⟩, hz9⟩))
      intro L U5 V5 hall hC hP
      obtain ⟨vs, hvs, hPh⟩ := hC.fin (by decide) (hall 7 (by decide))
      rw [hPhE] at hPh
      clear hPhE hC hP hall
      simp only [setM_some, setM_none, setM_nil]
      obtain ⟨-, rows2, qA2, cA2, rfl, wy, hB9, hM9, m9, q9, xA2⟩ := hPh
      obtain ⟨c0, c1, c2, c3, c4, c5, c6, k0, k1, k2, k3, k4, k5, k6⟩ := bk7 hB9
      have HE := hide hM9
      have HS2 := hide (seg HMW.out m9)
      have HQ3 := hide q9
      have hz9 := m9.size
      have HXxA2 := hide xA2
      clear hM9 m9 q9 hB9 xA2 hvs
      go_wp2
      refine bodyPost_ret (v := .agg #[.string (tx (Syn.hd en st).x), .string { data := #[] }, .slice none 0 0, .slice qA2 rows2.length cA2, .slice none 0 0, .slice none 0 0, .int .i64 ((Syn.hd en st).a : Nat)]) (by simp [results, Tryz.results143, go_sem, c0, c1, c2, c3, c4, c5, c6]) rfl ?_
      rw [HRR.out]
      exact ans_fin (fun b => b = w.heap.size) (Mv.wide HE.out (fun b (hb : b = w.heap.size) => by show b = w.heap.size; omega)) (mvt (mvt HS0.out HS1.out) HS2.out) (fun b hb => by have hb : b = g ∨ b = w.heap.size := hb; omega) HQ3.out (fun b hb => by have hb : b = w.heap.size := hb; omega) ⟨_, _, _, _, _, _, _, _, _, _, _, rfl, rfl, X.nil _ _ _, HXxA2.out.far (Mv.wide HE.out (fun b (hb : b = w.heap.size) => (Or.inr (by show b = w.heap.size; omega) : b = g ∨ b = w.heap.size))) (by intro b hb hl hk; (try simp at hb); have hk : b = g ∨ b = w.heap.size := hk; omega) (by intro b hb; (try simp at hb); show w.heap.size ≤ b; omega), X.nil _ _ _, X.nil _ _ _⟩
  by_cases y5 : (Syn.hd en st).x = ([112, 114, 105, 110, 116] : List UInt8)
  case pos =>
    have yo : (Syn.hd en st).x = ([97, 115, 115, 101, 114, 116] : List UInt8) ∨ (Syn.hd en st).x = ([112, 114, 105, 110, 116] : List UInt8) := by rw [y5]; decide
    rw [if_pos yo] at hRR
    clear yo
    have HC2 : Hid (∀ w1, Q w1 g lo en dp st.tail → P en N .lastExpr dp st.tail ≠ .out → Calls Tryz.prog 139 #[.pointer (some ⟨g, 0, none⟩)] w1 fun e w' => Ans (ShL 0) w1 g lo en dp e w' (P en N .lastExpr dp st.tail)) := fun w1 q1 hn => hlastExpr w1 dp st.tail q1 hn
    generalize P en N .lastExpr dp st.tail = E2 at hRR HC2
    cases E2 with
    | out => exact absurd hRR hne
    | bad cc a =>
      have hI0 : ((tx (Syn.hd en st).x).toList == ([108, 101, 116] : List UInt8)) = false := by rw [Lex.eqT, Lex.bs_tx]; exact decide_eq_false y0
      have Hy0 := hide y0
      clear y0
      have hI1 : ((tx (Syn.hd en st).x).toList == ([105, 102] : List UInt8)) = false := by rw [Lex.eqT, Lex.bs_tx]; exact decide_eq_false y1
      have Hy1 := hide y1
      clear y1
      have hI2 : ((tx (Syn.hd en st).x).toList == ([119, 104, 105, 108, 101] : List UInt8)) = false := by rw [Lex.eqT, Lex.bs_tx]; exact decide_eq_false y2
      have Hy2 := hide y2
      clear y2
      have hI3 : ((tx (Syn.hd en st).x).toList == ([114, 101, 116, 117, 114, 110] : List UInt8)) = false := by rw [Lex.eqT, Lex.bs_tx]; exact decide_eq_false y3
      have Hy3 := hide y3
      clear y3
      have hI4 : ((tx (Syn.hd en st).x).toList == ([97, 115, 115, 101, 114, 116] : List UInt8)) = false := by rw [Lex.eqT, Lex.bs_tx]; exact decide_eq_false y4
      have Hy4 := hide y4
      clear y4
      have hI5 : ((tx (Syn.hd en st).x).toList == ([112, 114, 105, 110, 116] : List UInt8)) = true := by rw [Lex.eqT, Lex.bs_tx]; exact decide_eq_true y5
      have Hy5 := hide y5
      clear y5
      have HRR := hide hRR
      clear hRR
      go_enter Tryz.func143, Tryz.ntmps143
      go_wp2_with fail
      refine (step_q (fun b => b = w.heap.size) (wk := w) ?_ HQ0.out (fun b hb => by have hb : b = w.heap.size := hb; omega) (fun wz qz => next_q wz g lo en dp st qz)).mono ?_
      · (repeat' (first | with_reducible exact Sat.Mv.refl _ _ | with_reducible refine Sat.Mv.alloc ?_ _ | with_reducible refine Sat.Mv.drew ?_ | with_reducible refine Sat.Mv.drewN ?_ _ | with_reducible refine Sat.Mv.set ?_ ?_ _)) <;> (first | exact Or.inl (Or.inl rfl) | exact Or.inl (Or.inr rfl) | exact Or.inl rfl | (refine Or.inr ?_; (try simp); omega) | (refine Or.inl ?_; (try simp); omega))
      rintro e w1 ⟨⟨rfl, b2⟩, sg⟩
      have m2 : MvR g _ w1 := Sat.Mv.below b2
      have q2 : Q w1 g lo en dp st := (HQ0.out.mv sg (fun b hb => by have hb : b = w.heap.size := hb; omega)).below b2
      have z0 := m2.size
      try simp at z0
      have HS0 := hide (seg sg m2)
      have HQ1 := hide q2
      have hB : Blk 47 w1 (w.heap.size) #[.string ByteArray.empty, .string ByteArray.empty, .slice none 0 0, .slice none 0 0, .slice none 0 0, .slice none 0 0, .int .i64 0] := m2.blk (by (repeat' (first | exact Blk.new _ _ _ | with_reducible refine Blk.alloc ?_ _ | with_reducible refine Blk.drewN ?_ _ | with_reducible refine Blk.other ?_ ?_ _)) <;> (first | (simp; omega) | simp | omega)) (by omega)
      have HB := hide hB
      clear hB
      clear m2 q2 sg b2
      simp only [TV]
      have F10 := fun w => field_text (tx (Syn.hd en st).x) (Syn.hd en st).k (Syn.hd en st).a w
      have F20 := fun w => field_place (tx (Syn.hd en st).x) (Syn.hd en st).k (Syn.hd en st).a w
      go_wp2_with fail
      refine (step_q (fun b => b = w.heap.size) (wk := w1) ?_ HQ1.out (fun b hb => by have hb : b = w.heap.size := hb; omega) (fun wz qz => take_q wz g lo en dp st qz (by exact hd_ne (by decide) Hy5.out))).mono ?_
      · (repeat' (first | with_reducible exact Sat.Mv.refl _ _ | with_reducible refine Sat.Mv.alloc ?_ _ | with_reducible refine Sat.Mv.drew ?_ | with_reducible refine Sat.Mv.drewN ?_ _ | with_reducible refine Sat.Mv.set ?_ ?_ _)) <;> (first | exact Or.inl (Or.inl rfl) | exact Or.inl (Or.inr rfl) | exact Or.inl rfl | (refine Or.inr ?_; (try simp); omega) | (refine Or.inl ?_; (try simp); omega))
      rintro e w2 ⟨⟨rfl, q2, m2⟩, sg⟩
      have z1 := m2.size
      try simp at z1
      have HS1 := hide (seg sg m2)
      have HQ2 := hide q2
      have hB : Blk 47 w2 (w.heap.size) #[.string ByteArray.empty, .string ByteArray.empty, .slice none 0 0, .slice none 0 0, .slice none 0 0, .slice none 0 0, .int .i64 0] := m2.blk (by (repeat' (first | with_reducible exact HB.out | with_reducible refine Blk.alloc ?_ _ | with_reducible refine Blk.drewN ?_ _ | with_reducible refine Blk.other ?_ ?_ _ | exact HB.out)) <;> (first | (simp; omega) | simp | omega)) (by omega)
      clear HB
      have HB := hide hB
      clear hB
      clear m2 q2 sg
      simp only [TV]
      have F11 := fun w => field_text (tx (Syn.hd en st).x) (Syn.hd en st).k (Syn.hd en st).a w
      have F21 := fun w => field_place (tx (Syn.hd en st).x) (Syn.hd en st).k (Syn.hd en st).a w
      go_wp2_with fail
      refine region_at ?_
      intro W hW
      have hMW : Sat.Mv (fun b => b = w.heap.size) w2 W := by rw [hW]; (repeat' (first | with_reducible exact Sat.Mv.refl _ _ | with_reducible refine Sat.Mv.alloc ?_ _ | with_reducible refine Sat.Mv.drew ?_ | with_reducible refine Sat.Mv.drewN ?_ _ | with_reducible refine Sat.Mv.set ?_ ?_ _)) <;> (first | exact Or.inl (Or.inl rfl) | exact Or.inl (Or.inr rfl) | exact Or.inl rfl | (refine Or.inr ?_; (try simp); omega) | (refine Or.inl ?_; (try simp); omega))
      have hRB : Blk 47 W (w.heap.size) #[.string ByteArray.empty, .string ByteArray.empty, .slice none 0 0, .slice none 0 0, .slice none 0 0, .slice none 0 0, .int .i64 0] := by rw [hW]; (repeat' (first | with_reducible exact HB.out | with_reducible refine Blk.alloc ?_ _ | with_reducible refine Blk.drewN ?_ _ | with_reducible refine Blk.other ?_ ?_ _ | exact HB.out)) <;> (first | (simp; omega) | simp | omega)
      have hLB0 : Blk 43 W (w2.heap.size) #[.int .i64 ((Syn.hd en st).k : Nat), .string (tx (Syn.hd en st).x), .int .i64 ((Syn.hd en st).a : Nat)] := by rw [hW]; (repeat' (first | exact Blk.new _ _ _ | with_reducible refine Blk.alloc ?_ _ | with_reducible refine Blk.drewN ?_ _ | with_reducible refine Blk.other ?_ ?_ _)) <;> (first | (simp; omega) | simp | omega)
      have HMW := hide hMW
      have HRB := hide hRB
      have HQW := hide (HQ2.out.mv hMW (fun b hb => by have hb : b = w.heap.size := hb; omega))
      have hgW := HQW.out.lt
      have hWz := hMW.size
      have hrz := hRB.lt
      clear hMW hRB hW
      have HLB0 := hide hLB0
      have hLz0 := hLB0.lt
      clear hLB0
      obtain ⟨Ph, hPhE⟩ : ∃ Ph : Phase, Ph = (fun i vs wz => (i < 3 → MvR g W wz) ∧ match i with | 0 => Q wz g lo en dp st.tail | _ => False) := ⟨_, rfl⟩
      refine wp_region_F (by kernel_rfl) [some 28, some 29, some 30, some 31, some 32, some 33, some 34, none] [none, none, none, none, none, none, none, none, none, none, none, none, none, none, none, none, none, none, none, none, none, none, none, none, none, none, none, none, some 28, some 29, some 30, some 31, some 32, some 33, some 34] (fun U => by kernel_rfl) [fun u => u = (.pointer (some ⟨w2.heap.size, 1, none⟩)), fun u => u = (.string (tx (Syn.hd en st).x)), fun u => u = (.pointer (some ⟨g, 0, none⟩)), fun _ => True, fun u => u = (.pointer (some ⟨w2.heap.size, 2, none⟩)), fun u => u = (.int .i64 ((Syn.hd en st).a : Nat)), fun _ => True, fun _ => True] (PC [(3, some 31), (6, some 34), (7, none)] Ph) (by kernel_rfl) (by decide) (by kernel_rfl) (by kernel_rfl) (fun U => PC.start (by rw [hPhE]; exact ⟨fun _ => Sat.Mv.below (Below.refl _ _).drew, HQW.out.below (Below.refl _ _).drew⟩)) ?_ ?_
      · refine StepsF.run rfl ?_ ?_
        · intro L U wr hC hP hlk hcl haf A K hFm hK
          clear haf
          have e3 : A.tmps[3]? = some (.pointer (some ⟨w2.heap.size, 0, none⟩)) := (hFm.old 3 (by decide)).trans (by kernel_rfl)
          have HC9 := hide hC
          clear hC
          refine ⟨?_⟩
          go_simp
          exact hK _ _ rfl (HC9.out.read (by decide) (by decide))
        refine StepsF.run rfl ?_ ?_
        · intro L U wr hC hP hlk hcl haf A K hFm hK
          simp [Aft, Region.binds] at haf
          have e28 : A.tmps[28]? = some (.pointer (some ⟨w2.heap.size, 1, none⟩)) := hFm.is 0 28 rfl (hP 0 28 (by simp [haf]) rfl)
          have hkb : L 6 = false := by cases h : L 6 with | false => rfl | true => have h9 := hcl 6 _ rfl h; simp [Aft, Region.binds, hlk] at h9
          obtain ⟨iz, vz, hiz, hPz⟩ := hC.at_ 1 (by decide) hkb
          rw [hPhE] at hPz
          have hMz : MvR g W wr := hPz.1 (by omega)
          clear hPz hiz
          have hLk : Blk 43 wr (w2.heap.size) #[.int .i64 ((Syn.hd en st).k : Nat), .string (tx (Syn.hd en st).x), .int .i64 ((Syn.hd en st).a : Nat)] := hMz.blk HLB0.out (by omega)
          obtain ⟨l0_0, l0_1, l0_2, f0_0, f0_1, f0_2⟩ := bk3 hLk
          clear hLk
          have HC9 := hide hC
          clear hC hMz
          refine ⟨?_⟩
          go_simp
          exact hK _ _ rfl (HC9.out.read (by decide) (by decide))
        refine StepsF.run rfl ?_ ?_
        · intro L U wr hC hP hlk hcl haf A K hFm hK
          clear haf
          have e0 : A.tmps[0]? = some (.pointer (some ⟨g, 0, none⟩)) := (hFm.old 0 (by decide)).trans (by kernel_rfl)
          have HC9 := hide hC
          clear hC
          refine ⟨?_⟩
          go_simp
          exact hK _ _ rfl (HC9.out.read (by decide) (by decide))
        refine StepsF.run rfl ?_ ?_
        · intro L U wr hC hP hlk hcl haf A K hFm hK
          simp [Aft, Region.binds] at haf
          obtain ⟨vs, hvs, hPh, hnx⟩ := hC.step 0 (by decide) hlk (Or.inl rfl) (by decide) (by decide)
          rw [hPhE] at hPh
          have e30 : A.tmps[30]? = some (.pointer (some ⟨g, 0, none⟩)) := hFm.is 2 30 rfl (hP 2 30 (by simp [haf]) rfl)
          clear hC
          refine ⟨?_⟩
          have HPh := hide hPh
          have Hnx := hide hnx
          clear hPh hnx
          go_simp
          refine (HC2.out wr HPh.out.2 (fun e => by cases e)).mono ?_
          rintro e w9 ⟨m9, rfl⟩
          obtain ⟨tm9, df9⟩ := A
          have hd9 : df9 = [] := hFm.def_
          subst hd9
          clear hFm hK
          go_simp
          refine ⟨rfl, ?_⟩
          rw [HRR.out]
          exact ⟨Mv.out (mvt (mvt HS0.out HS1.out) (seg HMW.out (MvR.to (HPh.out.1 (by decide)) m9))) (fun b hb => by have hb : b = g ∨ b = w.heap.size := hb; omega), rfl⟩
        refine StepsF.run rfl ?_ ?_
        · intro L U wr hC hP hlk hcl haf A K hFm hK
          clear haf
          have e3 : A.tmps[3]? = some (.pointer (some ⟨w2.heap.size, 0, none⟩)) := (hFm.old 3 (by decide)).trans (by kernel_rfl)
          have HC9 := hide hC
          clear hC
          refine ⟨?_⟩
          go_simp
          exact hK _ _ rfl (HC9.out.read (by decide) (by decide))
        refine StepsF.run rfl ?_ ?_
        · intro L U wr hC hP hlk hcl haf A K hFm hK
          simp [Aft, Region.binds] at haf
          have e32 : A.tmps[32]? = some (.pointer (some ⟨w2.heap.size, 2, none⟩)) := hFm.is 4 32 rfl (hP 4 32 (by simp [haf]) rfl)
          have hkb : L 6 = false := by cases h : L 6 with | false => rfl | true => have h9 := hcl 6 _ rfl h; simp [Aft, Region.binds, hlk] at h9
          obtain ⟨iz, vz, hiz, hPz⟩ := hC.at_ 1 (by decide) hkb
          rw [hPhE] at hPz
          have hMz : MvR g W wr := hPz.1 (by omega)
          clear hPz hiz
          have hLk : Blk 43 wr (w2.heap.size) #[.int .i64 ((Syn.hd en st).k : Nat), .string (tx (Syn.hd en st).x), .int .i64 ((Syn.hd en st).a : Nat)] := hMz.blk HLB0.out (by omega)
          obtain ⟨l0_0, l0_1, l0_2, f0_0, f0_1, f0_2⟩ := bk3 hLk
          clear hLk
          have HC9 := hide hC
          clear hC hMz
          refine ⟨?_⟩
          go_simp
          exact hK _ _ rfl (HC9.out.read (by decide) (by decide))
        refine StepsF.run rfl ?_ ?_
        · intro L U wr hC hP hlk hcl haf A K hFm hK
          simp [Aft, Region.binds] at haf
          obtain ⟨vs, hvs, hPh, hnx⟩ := hC.step 1 (by decide) hlk (Or.inr (by first | exact haf | exact haf.1 | exact haf.2 | simp [chN, haf])) (by decide) (by decide)
          rw [hPhE] at hPh
          have e29 : A.tmps[29]? = some (.string (tx (Syn.hd en st).x)) := hFm.is 1 29 rfl (hP 1 29 (by simp [haf]) rfl)
          have e31 : A.tmps[31]? = some (vs 0) := hFm.is 3 31 rfl (hvs 0 31 (by decide) rfl)
          have e33 : A.tmps[33]? = some (.int .i64 ((Syn.hd en st).a : Nat)) := hFm.is 5 33 rfl (hP 5 33 (by simp [haf]) rfl)
          clear hC
          exact hPh.2.elim
        refine StepsF.run rfl ?_ StepsF.nil
        · intro L U wr hC hP hlk hcl haf A K hFm hK
          simp [Aft, Region.binds] at haf
          obtain ⟨vs, hvs, hPh, hnx⟩ := hC.step 2 (by decide) hlk (Or.inr (by first | exact haf | exact haf.1 | exact haf.2 | simp [chN, haf])) (by decide) (by decide)
          rw [hPhE] at hPh
          have e34 : A.tmps[34]? = some (vs 1) := hFm.is 6 34 rfl (hvs 1 34 (by decide) rfl)
          have e2 : A.tmps[2]? = some (.pointer (some ⟨w.heap.size, 0, none⟩)) := (hFm.old 2 (by decide)).trans (by kernel_rfl)
          clear hC
          exact hPh.2.elim
      intro L U5 V5 hall hC hP
      obtain ⟨vs, hvs, hPh⟩ := hC.fin (by decide) (hall 7 (by decide))
      rw [hPhE] at hPh
      clear hPhE hC hP hall
      simp only [setM_some, setM_none, setM_nil]
      exact hPh.2.elim
    | ok r2 s2 =>
      try simp only [Res.to_ok] at hRR
      have hI0 : ((tx (Syn.hd en st).x).toList == ([108, 101, 116] : List UInt8)) = false := by rw [Lex.eqT, Lex.bs_tx]; exact decide_eq_false y0
      have Hy0 := hide y0
      clear y0
      have hI1 : ((tx (Syn.hd en st).x).toList == ([105, 102] : List UInt8)) = false := by rw [Lex.eqT, Lex.bs_tx]; exact decide_eq_false y1
      have Hy1 := hide y1
      clear y1
      have hI2 : ((tx (Syn.hd en st).x).toList == ([119, 104, 105, 108, 101] : List UInt8)) = false := by rw [Lex.eqT, Lex.bs_tx]; exact decide_eq_false y2
      have Hy2 := hide y2
      clear y2
      have hI3 : ((tx (Syn.hd en st).x).toList == ([114, 101, 116, 117, 114, 110] : List UInt8)) = false := by rw [Lex.eqT, Lex.bs_tx]; exact decide_eq_false y3
      have Hy3 := hide y3
      clear y3
      have hI4 : ((tx (Syn.hd en st).x).toList == ([97, 115, 115, 101, 114, 116] : List UInt8)) = false := by rw [Lex.eqT, Lex.bs_tx]; exact decide_eq_false y4
      have Hy4 := hide y4
      clear y4
      have hI5 : ((tx (Syn.hd en st).x).toList == ([112, 114, 105, 110, 116] : List UInt8)) = true := by rw [Lex.eqT, Lex.bs_tx]; exact decide_eq_true y5
      have Hy5 := hide y5
      clear y5
      have HRR := hide hRR
      clear hRR
      go_enter Tryz.func143, Tryz.ntmps143
      go_wp2_with fail
      refine (step_q (fun b => b = w.heap.size) (wk := w) ?_ HQ0.out (fun b hb => by have hb : b = w.heap.size := hb; omega) (fun wz qz => next_q wz g lo en dp st qz)).mono ?_
      · (repeat' (first | with_reducible exact Sat.Mv.refl _ _ | with_reducible refine Sat.Mv.alloc ?_ _ | with_reducible refine Sat.Mv.drew ?_ | with_reducible refine Sat.Mv.drewN ?_ _ | with_reducible refine Sat.Mv.set ?_ ?_ _)) <;> (first | exact Or.inl (Or.inl rfl) | exact Or.inl (Or.inr rfl) | exact Or.inl rfl | (refine Or.inr ?_; (try simp); omega) | (refine Or.inl ?_; (try simp); omega))
      rintro e w1 ⟨⟨rfl, b2⟩, sg⟩
      have m2 : MvR g _ w1 := Sat.Mv.below b2
      have q2 : Q w1 g lo en dp st := (HQ0.out.mv sg (fun b hb => by have hb : b = w.heap.size := hb; omega)).below b2
      have z0 := m2.size
      try simp at z0
      have HS0 := hide (seg sg m2)
      have HQ1 := hide q2
      have hB : Blk 47 w1 (w.heap.size) #[.string ByteArray.empty, .string ByteArray.empty, .slice none 0 0, .slice none 0 0, .slice none 0 0, .slice none 0 0, .int .i64 0] := m2.blk (by (repeat' (first | exact Blk.new _ _ _ | with_reducible refine Blk.alloc ?_ _ | with_reducible refine Blk.drewN ?_ _ | with_reducible refine Blk.other ?_ ?_ _)) <;> (first | (simp; omega) | simp | omega)) (by omega)
      have HB := hide hB
      clear hB
      clear m2 q2 sg b2
      simp only [TV]
      have F10 := fun w => field_text (tx (Syn.hd en st).x) (Syn.hd en st).k (Syn.hd en st).a w
      have F20 := fun w => field_place (tx (Syn.hd en st).x) (Syn.hd en st).k (Syn.hd en st).a w
      go_wp2_with fail
      refine (step_q (fun b => b = w.heap.size) (wk := w1) ?_ HQ1.out (fun b hb => by have hb : b = w.heap.size := hb; omega) (fun wz qz => take_q wz g lo en dp st qz (by exact hd_ne (by decide) Hy5.out))).mono ?_
      · (repeat' (first | with_reducible exact Sat.Mv.refl _ _ | with_reducible refine Sat.Mv.alloc ?_ _ | with_reducible refine Sat.Mv.drew ?_ | with_reducible refine Sat.Mv.drewN ?_ _ | with_reducible refine Sat.Mv.set ?_ ?_ _)) <;> (first | exact Or.inl (Or.inl rfl) | exact Or.inl (Or.inr rfl) | exact Or.inl rfl | (refine Or.inr ?_; (try simp); omega) | (refine Or.inl ?_; (try simp); omega))
      rintro e w2 ⟨⟨rfl, q2, m2⟩, sg⟩
      have z1 := m2.size
      try simp at z1
      have HS1 := hide (seg sg m2)
      have HQ2 := hide q2
      have hB : Blk 47 w2 (w.heap.size) #[.string ByteArray.empty, .string ByteArray.empty, .slice none 0 0, .slice none 0 0, .slice none 0 0, .slice none 0 0, .int .i64 0] := m2.blk (by (repeat' (first | with_reducible exact HB.out | with_reducible refine Blk.alloc ?_ _ | with_reducible refine Blk.drewN ?_ _ | with_reducible refine Blk.other ?_ ?_ _ | exact HB.out)) <;> (first | (simp; omega) | simp | omega)) (by omega)
      clear HB
      have HB := hide hB
      clear hB
      clear m2 q2 sg
      simp only [TV]
      have F11 := fun w => field_text (tx (Syn.hd en st).x) (Syn.hd en st).k (Syn.hd en st).a w
      have F21 := fun w => field_place (tx (Syn.hd en st).x) (Syn.hd en st).k (Syn.hd en st).a w
      go_wp2_with fail
      refine region_at ?_
      intro W hW
      have hMW : Sat.Mv (fun b => b = w.heap.size) w2 W := by rw [hW]; (repeat' (first | with_reducible exact Sat.Mv.refl _ _ | with_reducible refine Sat.Mv.alloc ?_ _ | with_reducible refine Sat.Mv.drew ?_ | with_reducible refine Sat.Mv.drewN ?_ _ | with_reducible refine Sat.Mv.set ?_ ?_ _)) <;> (first | exact Or.inl (Or.inl rfl) | exact Or.inl (Or.inr rfl) | exact Or.inl rfl | (refine Or.inr ?_; (try simp); omega) | (refine Or.inl ?_; (try simp); omega))
      have hRB : Blk 47 W (w.heap.size) #[.string ByteArray.empty, .string ByteArray.empty, .slice none 0 0, .slice none 0 0, .slice none 0 0, .slice none 0 0, .int .i64 0] := by rw [hW]; (repeat' (first | with_reducible exact HB.out | with_reducible refine Blk.alloc ?_ _ | with_reducible refine Blk.drewN ?_ _ | with_reducible refine Blk.other ?_ ?_ _ | exact HB.out)) <;> (first | (simp; omega) | simp | omega)
      have hLB0 : Blk 43 W (w2.heap.size) #[.int .i64 ((Syn.hd en st).k : Nat), .string (tx (Syn.hd en st).x), .int .i64 ((Syn.hd en st).a : Nat)] := by rw [hW]; (repeat' (first | exact Blk.new _ _ _ | with_reducible refine Blk.alloc ?_ _ | with_reducible refine Blk.drewN ?_ _ | with_reducible refine Blk.other ?_ ?_ _)) <;> (first | (simp; omega) | simp | omega)
      have HMW := hide hMW
      have HRB := hide hRB
      have HQW := hide (HQ2.out.mv hMW (fun b hb => by have hb : b = w.heap.size := hb; omega))
      have hgW := HQW.out.lt
      have hWz := hMW.size
      have hrz := hRB.lt
      clear hMW hRB hW
      have HLB0 := hide hLB0
      have hLz0 := hLB0.lt
      clear hLB0
      obtain ⟨Ph, hPhE⟩ : ∃ Ph : Phase, Ph = (fun i vs wz => (i < 3 → MvR g W wz) ∧ match i with | 0 => Q wz g lo en dp st.tail | 1 => ∃ rows2 qA2 cA2, r2 = [.l 0 rows2] ∧ vs 0 = .slice qA2 rows2.length cA2 ∧ MvR g W wz ∧ Q wz g lo en dp s2 ∧ X wz (fun b => W.heap.size ≤ b) (.slice qA2 rows2.length cA2) (.l 0 rows2) | 2 => ∃ rows2 qA2 cA2, r2 = [.l 0 rows2] ∧ vs 0 = .slice qA2 rows2.length cA2 ∧ vs 1 = .agg #[.string (tx (Syn.hd en st).x), .string { data := #[] }, .slice none 0 0, .slice qA2 rows2.length cA2, .slice none 0 0, .slice none 0 0, .int .i64 ((Syn.hd en st).a : Nat)] ∧ MvR g W wz ∧ Q wz g lo en dp s2 ∧ X wz (fun b => W.heap.size ≤ b) (.slice qA2 rows2.length cA2) (.l 0 rows2) | _ => ∃ rows2 qA2 cA2, r2 = [.l 0 rows2] ∧ ∃ wy, Blk 47 wz (w.heap.size) #[.string (tx (Syn.hd en st).x), .string { data := #[] }, .slice none 0 0, .slice qA2 rows2.length cA2, .slice none 0 0, .slice none 0 0, .int .i64 ((Syn.hd en st).a : Nat)] ∧ Sat.Mv (fun b => b = w.heap.size) wy wz ∧ MvR g W wy ∧ Q wy g lo en dp s2 ∧ X wy (fun b => W.heap.size ≤ b) (.slice qA2 rows2.length cA2) (.l 0 rows2)) := ⟨_, rfl⟩
      refine wp_region_F (by kernel_rfl) [some 28, some 29, some 30, some 31, some 32, some 33, some 34, none] [none, none, none, none, none, none, none, none, none, none, none, none, none, none, none, none, none, none, none, none, none, none, none, none, none, none, none, none, some 28, some 29, some 30, some 31, some 32, some 33, some 34] (fun U => by kernel_rfl) [fun u => u = (.pointer (some ⟨w2.heap.size, 1, none⟩)), fun u => u = (.string (tx (Syn.hd en st).x)), fun u => u = (.pointer (some ⟨g, 0, none⟩)), fun _ => True, fun u => u = (.pointer (some ⟨w2.heap.size, 2, none⟩)), fun u => u = (.int .i64 ((Syn.hd en st).a : Nat)), fun _ => True, fun _ => True] (PC [(3, some 31), (6, some 34), (7, none)] Ph) (by kernel_rfl) (by decide) (by kernel_rfl) (by kernel_rfl) (fun U => PC.start (by rw [hPhE]; exact ⟨fun _ => Sat.Mv.below (Below.refl _ _).drew, HQW.out.below (Below.refl _ _).drew⟩)) ?_ ?_
      · refine StepsF.run rfl ?_ ?_
        · intro L U wr hC hP hlk hcl haf A K hFm hK
          clear haf
          have e3 : A.tmps[3]? = some (.pointer (some ⟨w2.heap.size, 0, none⟩)) := (hFm.old 3 (by decide)).trans (by kernel_rfl)
          have HC9 := hide hC
          clear hC
          refine ⟨?_⟩
          go_simp
          exact hK _ _ rfl (HC9.out.read (by decide) (by decide))
        refine StepsF.run rfl ?_ ?_
        · intro L U wr hC hP hlk hcl haf A K hFm hK
          simp [Aft, Region.binds] at haf
          have e28 : A.tmps[28]? = some (.pointer (some ⟨w2.heap.size, 1, none⟩)) := hFm.is 0 28 rfl (hP 0 28 (by simp [haf]) rfl)
          have hkb : L 6 = false := by cases h : L 6 with | false => rfl | true => have h9 := hcl 6 _ rfl h; simp [Aft, Region.binds, hlk] at h9
          obtain ⟨iz, vz, hiz, hPz⟩ := hC.at_ 1 (by decide) hkb
          rw [hPhE] at hPz
          have hMz : MvR g W wr := hPz.1 (by omega)
          clear hPz hiz
          have hLk : Blk 43 wr (w2.heap.size) #[.int .i64 ((Syn.hd en st).k : Nat), .string (tx (Syn.hd en st).x), .int .i64 ((Syn.hd en st).a : Nat)] := hMz.blk HLB0.out (by omega)
          obtain ⟨l0_0, l0_1, l0_2, f0_0, f0_1, f0_2⟩ := bk3 hLk
          clear hLk
          have HC9 := hide hC
          clear hC hMz
          refine ⟨?_⟩
          go_simp
          exact hK _ _ rfl (HC9.out.read (by decide) (by decide))
        refine StepsF.run rfl ?_ ?_
        · intro L U wr hC hP hlk hcl haf A K hFm hK
          clear haf
          have e0 : A.tmps[0]? = some (.pointer (some ⟨g, 0, none⟩)) := (hFm.old 0 (by decide)).trans (by kernel_rfl)
          have HC9 := hide hC
          clear hC
          refine ⟨?_⟩
          go_simp
          exact hK _ _ rfl (HC9.out.read (by decide) (by decide))
        refine StepsF.run rfl ?_ ?_
        · intro L U wr hC hP hlk hcl haf A K hFm hK
          simp [Aft, Region.binds] at haf
          obtain ⟨vs, hvs, hPh, hnx⟩ := hC.step 0 (by decide) hlk (Or.inl rfl) (by decide) (by decide)
          rw [hPhE] at hPh
          have e30 : A.tmps[30]? = some (.pointer (some ⟨g, 0, none⟩)) := hFm.is 2 30 rfl (hP 2 30 (by simp [haf]) rfl)
          clear hC
          refine ⟨?_⟩
          have HPh := hide hPh
          have Hnx := hide hnx
          clear hPh hnx
          go_simp
          refine (HC2.out wr HPh.out.2 (fun e => by cases e)).mono ?_
          rintro e w9 ⟨m9, q9, u, rfl, ⟨rows2, hr9, xA2⟩⟩
          obtain ⟨qA2, cA2, rfl⟩ := xA2.slice
          have m99 := MvR.to (HPh.out.1 (by decide)) m9
          have hz9 := (HPh.out.1 (by decide)).size
          go_simp
          exact hK _ _ trivial (Hnx.out _ _ (by rw [hPhE]; exact ⟨fun _ => m99, _, _, _, hr9, rfl, m99, q9, xA2.stay (fun b hb _ => ⟨rfl, Nat.le_trans hz9 hb⟩)⟩))
        refine StepsF.run rfl ?_ ?_
        · intro L U wr hC hP hlk hcl haf A K hFm hK
          clear haf
          have e3 : A.tmps[3]? = some (.pointer (some ⟨w2.heap.size, 0, none⟩)) := (hFm.old 3 (by decide)).trans (by kernel_rfl)
          have HC9 := hide hC
          clear hC
          refine ⟨?_⟩
          go_simp
          exact hK _ _ rfl (HC9.out.read (by decide) (by decide))
        refine StepsF.run rfl ?_ ?_
        · intro L U wr hC hP hlk hcl haf A K hFm hK
          simp [Aft, Region.binds] at haf
          have e32 : A.tmps[32]? = some (.pointer (some ⟨w2.heap.size, 2, none⟩)) := hFm.is 4 32 rfl (hP 4 32 (by simp [haf]) rfl)
          have hkb : L 6 = false := by cases h : L 6 with | false => rfl | true => have h9 := hcl 6 _ rfl h; simp [Aft, Region.binds, hlk] at h9
          obtain ⟨iz, vz, hiz, hPz⟩ := hC.at_ 1 (by decide) hkb
          rw [hPhE] at hPz
          have hMz : MvR g W wr := hPz.1 (by omega)
          clear hPz hiz
          have hLk : Blk 43 wr (w2.heap.size) #[.int .i64 ((Syn.hd en st).k : Nat), .string (tx (Syn.hd en st).x), .int .i64 ((Syn.hd en st).a : Nat)] := hMz.blk HLB0.out (by omega)
          obtain ⟨l0_0, l0_1, l0_2, f0_0, f0_1, f0_2⟩ := bk3 hLk
          clear hLk
          have HC9 := hide hC
          clear hC hMz
          refine ⟨?_⟩
          go_simp
          exact hK _ _ rfl (HC9.out.read (by decide) (by decide))
        refine StepsF.run rfl ?_ ?_
        · intro L U wr hC hP hlk hcl haf A K hFm hK
          simp [Aft, Region.binds] at haf
          obtain ⟨vs, hvs, hPh, hnx⟩ := hC.step 1 (by decide) hlk (Or.inr (by first | exact haf | exact haf.1 | exact haf.2 | simp [chN, haf])) (by decide) (by decide)
          rw [hPhE] at hPh
          have e29 : A.tmps[29]? = some (.string (tx (Syn.hd en st).x)) := hFm.is 1 29 rfl (hP 1 29 (by simp [haf]) rfl)
          have e31 : A.tmps[31]? = some (vs 0) := hFm.is 3 31 rfl (hvs 0 31 (by decide) rfl)
          have e33 : A.tmps[33]? = some (.int .i64 ((Syn.hd en st).a : Nat)) := hFm.is 5 33 rfl (hP 5 33 (by simp [haf]) rfl)
          clear hC
          obtain ⟨h3, rows2, qA2, cA2, hr9, hv9, hz9⟩ := hPh
          rw [hv9] at e31
          have HZ := hide (And.intro h3 (And.intro hr9 hz9))
          have Hnx := hide hnx
          have Hv9 := hide hv9
          clear h3 hr9 hz9 hnx hv9
          refine ⟨?_⟩
          go_simp
          exact hK _ _ trivial (Hnx.out _ _ (by rw [hPhE]; exact ⟨fun _ => HZ.out.1 (by decide), _, _, _, HZ.out.2.1, Hv9.out, rfl, HZ.out.2.2⟩))
        refine StepsF.run rfl ?_ StepsF.nil
        · intro L U wr hC hP hlk hcl haf A K hFm hK
          simp [Aft, Region.binds] at haf
          obtain ⟨vs, hvs, hPh, hnx⟩ := hC.step 2 (by decide) hlk (Or.inr (by first | exact haf | exact haf.1 | exact haf.2 | simp [chN, haf])) (by decide) (by decide)
          rw [hPhE] at hPh
          have e34 : A.tmps[34]? = some (vs 1) := hFm.is 6 34 rfl (hvs 1 34 (by decide) rfl)
          have e2 : A.tmps[2]? = some (.pointer (some ⟨w.heap.size, 0, none⟩)) := (hFm.old 2 (by decide)).trans (by kernel_rfl)
          clear hC
          obtain ⟨h3, rows2, qA2, cA2, hr9, hv8, hv9, hz9⟩ := hPh
          rw [hv9] at e34
          have hb9 := (h3 (by decide)).blk HRB.out (by omega)
          refine ⟨?_⟩
          refine op_list 47 (.tmp 2) (.tmp 34) rfl (w.heap.size) #[.string (tx (Syn.hd en st).x), .string { data := #[] }, .slice none 0 0, .slice qA2 rows2.length cA2, .slice none 0 0, .slice none 0 0, .int .i64 ((Syn.hd en st).a : Nat)] (by simp [Act.eval, e2]) (by simp [Act.eval, e34]) 47 #[.string ByteArray.empty, .string ByteArray.empty, .slice none 0 0, .slice none 0 0, .slice none 0 0, .slice none 0 0, .int .i64 0] hb9 (by kernel_rfl) rfl rfl ?_
          exact hK _ _ trivial (hnx _ _ (by rw [hPhE]; exact ⟨(fun h => absurd h (by decide)), _, _, _, hr9, wr, setRow_heap wr (w.heap.size) _ _ 47 (0, 0) hb9, ⟨rfl, rfl, rfl, by simp [World.setRow], fun k _ hk => setRow_other wr (w.heap.size) k _ hk⟩, hz9⟩))
      intro L U5 V5 hall hC hP
      obtain ⟨vs, hvs, hPh⟩ := hC.fin (by decide) (hall 7 (by decide))
      rw [hPhE] at hPh
      clear hPhE hC hP hall
      simp only [setM_some, setM_none, setM_nil]
      obtain ⟨-, rows2, qA2, cA2, rfl, wy, hB9, hM9, m9, q9, xA2⟩ := hPh
      obtain ⟨c0, c1, c2, c3, c4, c5, c6, k0, k1, k2, k3, k4, k5, k6⟩ := bk7 hB9
      have HE := hide hM9
      have HS2 := hide (seg HMW.out m9)
      have HQ3 := hide q9
      have hz9 := m9.size
      have HXxA2 := hide xA2
      clear hM9 m9 q9 hB9 xA2 hvs
      go_wp2
      refine bodyPost_ret (v := .agg #[.string (tx (Syn.hd en st).x), .string { data := #[] }, .slice none 0 0, .slice qA2 rows2.length cA2, .slice none 0 0, .slice none 0 0, .int .i64 ((Syn.hd en st).a : Nat)]) (by simp [results, Tryz.results143, go_sem, c0, c1, c2, c3, c4, c5, c6]) rfl ?_
      rw [HRR.out]
      exact ans_fin (fun b => b = w.heap.size) (Mv.wide HE.out (fun b (hb : b = w.heap.size) => by show b = w.heap.size; omega)) (mvt (mvt HS0.out HS1.out) HS2.out) (fun b hb => by have hb : b = g ∨ b = w.heap.size := hb; omega) HQ3.out (fun b hb => by have hb : b = w.heap.size := hb; omega) ⟨_, _, _, _, _, _, _, _, _, _, _, rfl, rfl, X.nil _ _ _, HXxA2.out.far (Mv.wide HE.out (fun b (hb : b = w.heap.size) => (Or.inr (by show b = w.heap.size; omega) : b = g ∨ b = w.heap.size))) (by intro b hb hl hk; (try simp at hb); have hk : b = g ∨ b = w.heap.size := hk; omega) (by intro b hb; (try simp at hb); show w.heap.size ≤ b; omega), X.nil _ _ _, X.nil _ _ _⟩
  have yo : ¬ ((Syn.hd en st).x = ([97, 115, 115, 101, 114, 116] : List UInt8) ∨ (Syn.hd en st).x = ([112, 114, 105, 110, 116] : List UInt8)) := (fun h => h.elim y4 y5)
  rw [if_neg yo] at hRR
  clear yo
  have HC1 : Hid (∀ w1, Q w1 g lo en dp st → P en N .wordless dp st ≠ .out → Calls Tryz.prog 164 #[.pointer (some ⟨g, 0, none⟩)] w1 fun e w' => Ans ShS w1 g lo en dp e w' (P en N .wordless dp st)) := fun w1 q1 hn => hwordless w1 dp st q1 hn
  generalize P en N .wordless dp st = E1 at hRR HC1
  cases E1 with
  | out => exact absurd hRR hne
  | bad cc a =>
    have hI0 : ((tx (Syn.hd en st).x).toList == ([108, 101, 116] : List UInt8)) = false := by rw [Lex.eqT, Lex.bs_tx]; exact decide_eq_false y0
    have Hy0 := hide y0
    clear y0
    have hI1 : ((tx (Syn.hd en st).x).toList == ([105, 102] : List UInt8)) = false := by rw [Lex.eqT, Lex.bs_tx]; exact decide_eq_false y1
    have Hy1 := hide y1
    clear y1
    have hI2 : ((tx (Syn.hd en st).x).toList == ([119, 104, 105, 108, 101] : List UInt8)) = false := by rw [Lex.eqT, Lex.bs_tx]; exact decide_eq_false y2
    have Hy2 := hide y2
    clear y2
    have hI3 : ((tx (Syn.hd en st).x).toList == ([114, 101, 116, 117, 114, 110] : List UInt8)) = false := by rw [Lex.eqT, Lex.bs_tx]; exact decide_eq_false y3
    have Hy3 := hide y3
    clear y3
    have hI4 : ((tx (Syn.hd en st).x).toList == ([97, 115, 115, 101, 114, 116] : List UInt8)) = false := by rw [Lex.eqT, Lex.bs_tx]; exact decide_eq_false y4
    have Hy4 := hide y4
    clear y4
    have hI5 : ((tx (Syn.hd en st).x).toList == ([112, 114, 105, 110, 116] : List UInt8)) = false := by rw [Lex.eqT, Lex.bs_tx]; exact decide_eq_false y5
    have Hy5 := hide y5
    clear y5
    have HRR := hide hRR
    clear hRR
    go_enter Tryz.func143, Tryz.ntmps143
    go_wp2_with fail
    refine (step_q (fun b => b = w.heap.size) (wk := w) ?_ HQ0.out (fun b hb => by have hb : b = w.heap.size := hb; omega) (fun wz qz => next_q wz g lo en dp st qz)).mono ?_
    · (repeat' (first | with_reducible exact Sat.Mv.refl _ _ | with_reducible refine Sat.Mv.alloc ?_ _ | with_reducible refine Sat.Mv.drew ?_ | with_reducible refine Sat.Mv.drewN ?_ _ | with_reducible refine Sat.Mv.set ?_ ?_ _)) <;> (first | exact Or.inl (Or.inl rfl) | exact Or.inl (Or.inr rfl) | exact Or.inl rfl | (refine Or.inr ?_; (try simp); omega) | (refine Or.inl ?_; (try simp); omega))
    rintro e w1 ⟨⟨rfl, b2⟩, sg⟩
    have m2 : MvR g _ w1 := Sat.Mv.below b2
    have q2 : Q w1 g lo en dp st := (HQ0.out.mv sg (fun b hb => by have hb : b = w.heap.size := hb; omega)).below b2
    have z0 := m2.size
    try simp at z0
    have HS0 := hide (seg sg m2)
    have HQ1 := hide q2
    have hB : Blk 47 w1 (w.heap.size) #[.string ByteArray.empty, .string ByteArray.empty, .slice none 0 0, .slice none 0 0, .slice none 0 0, .slice none 0 0, .int .i64 0] := m2.blk (by (repeat' (first | exact Blk.new _ _ _ | with_reducible refine Blk.alloc ?_ _ | with_reducible refine Blk.drewN ?_ _ | with_reducible refine Blk.other ?_ ?_ _)) <;> (first | (simp; omega) | simp | omega)) (by omega)
    have HB := hide hB
    clear hB
    clear m2 q2 sg b2
    simp only [TV]
    have F10 := fun w => field_text (tx (Syn.hd en st).x) (Syn.hd en st).k (Syn.hd en st).a w
    have F20 := fun w => field_place (tx (Syn.hd en st).x) (Syn.hd en st).k (Syn.hd en st).a w
    go_wp2_with fail
    refine (step_q (fun b => b = w.heap.size) (wk := w1) ?_ HQ1.out (fun b hb => by have hb : b = w.heap.size := hb; omega) (fun wz qz => HC1.out wz qz (fun e => by cases e))).mono ?_
    · (repeat' (first | with_reducible exact Sat.Mv.refl _ _ | with_reducible refine Sat.Mv.alloc ?_ _ | with_reducible refine Sat.Mv.drew ?_ | with_reducible refine Sat.Mv.drewN ?_ _ | with_reducible refine Sat.Mv.set ?_ ?_ _)) <;> (first | exact Or.inl (Or.inl rfl) | exact Or.inl (Or.inr rfl) | exact Or.inl rfl | (refine Or.inr ?_; (try simp); omega) | (refine Or.inl ?_; (try simp); omega))
    rintro e w2 ⟨⟨m2, rfl⟩, sg⟩
    go_wp2
    refine ⟨rfl, ?_⟩
    rw [HRR.out]
    refine ⟨Mv.out (mvt HS0.out (seg sg m2)) (fun b hb => by have hb : b = g ∨ b = w.heap.size := hb; omega), rfl⟩
  | ok r1 s1 =>
    try simp only [Res.to_ok] at hRR
    have hI0 : ((tx (Syn.hd en st).x).toList == ([108, 101, 116] : List UInt8)) = false := by rw [Lex.eqT, Lex.bs_tx]; exact decide_eq_false y0
    have Hy0 := hide y0
    clear y0
    have hI1 : ((tx (Syn.hd en st).x).toList == ([105, 102] : List UInt8)) = false := by rw [Lex.eqT, Lex.bs_tx]; exact decide_eq_false y1
    have Hy1 := hide y1
    clear y1
    have hI2 : ((tx (Syn.hd en st).x).toList == ([119, 104, 105, 108, 101] : List UInt8)) = false := by rw [Lex.eqT, Lex.bs_tx]; exact decide_eq_false y2
    have Hy2 := hide y2
    clear y2
    have hI3 : ((tx (Syn.hd en st).x).toList == ([114, 101, 116, 117, 114, 110] : List UInt8)) = false := by rw [Lex.eqT, Lex.bs_tx]; exact decide_eq_false y3
    have Hy3 := hide y3
    clear y3
    have hI4 : ((tx (Syn.hd en st).x).toList == ([97, 115, 115, 101, 114, 116] : List UInt8)) = false := by rw [Lex.eqT, Lex.bs_tx]; exact decide_eq_false y4
    have Hy4 := hide y4
    clear y4
    have hI5 : ((tx (Syn.hd en st).x).toList == ([112, 114, 105, 110, 116] : List UInt8)) = false := by rw [Lex.eqT, Lex.bs_tx]; exact decide_eq_false y5
    have Hy5 := hide y5
    clear y5
    have HRR := hide hRR
    clear hRR
    go_enter Tryz.func143, Tryz.ntmps143
    go_wp2_with fail
    refine (step_q (fun b => b = w.heap.size) (wk := w) ?_ HQ0.out (fun b hb => by have hb : b = w.heap.size := hb; omega) (fun wz qz => next_q wz g lo en dp st qz)).mono ?_
    · (repeat' (first | with_reducible exact Sat.Mv.refl _ _ | with_reducible refine Sat.Mv.alloc ?_ _ | with_reducible refine Sat.Mv.drew ?_ | with_reducible refine Sat.Mv.drewN ?_ _ | with_reducible refine Sat.Mv.set ?_ ?_ _)) <;> (first | exact Or.inl (Or.inl rfl) | exact Or.inl (Or.inr rfl) | exact Or.inl rfl | (refine Or.inr ?_; (try simp); omega) | (refine Or.inl ?_; (try simp); omega))
    rintro e w1 ⟨⟨rfl, b2⟩, sg⟩
    have m2 : MvR g _ w1 := Sat.Mv.below b2
    have q2 : Q w1 g lo en dp st := (HQ0.out.mv sg (fun b hb => by have hb : b = w.heap.size := hb; omega)).below b2
    have z0 := m2.size
    try simp at z0
    have HS0 := hide (seg sg m2)
    have HQ1 := hide q2
    have hB : Blk 47 w1 (w.heap.size) #[.string ByteArray.empty, .string ByteArray.empty, .slice none 0 0, .slice none 0 0, .slice none 0 0, .slice none 0 0, .int .i64 0] := m2.blk (by (repeat' (first | exact Blk.new _ _ _ | with_reducible refine Blk.alloc ?_ _ | with_reducible refine Blk.drewN ?_ _ | with_reducible refine Blk.other ?_ ?_ _)) <;> (first | (simp; omega) | simp | omega)) (by omega)
    have HB := hide hB
    clear hB
    clear m2 q2 sg b2
    simp only [TV]
    have F10 := fun w => field_text (tx (Syn.hd en st).x) (Syn.hd en st).k (Syn.hd en st).a w
    have F20 := fun w => field_place (tx (Syn.hd en st).x) (Syn.hd en st).k (Syn.hd en st).a w
    go_wp2_with fail
    refine (step_q (fun b => b = w.heap.size) (wk := w1) ?_ HQ1.out (fun b hb => by have hb : b = w.heap.size := hb; omega) (fun wz qz => HC1.out wz qz (fun e => by cases e))).mono ?_
    · (repeat' (first | with_reducible exact Sat.Mv.refl _ _ | with_reducible refine Sat.Mv.alloc ?_ _ | with_reducible refine Sat.Mv.drew ?_ | with_reducible refine Sat.Mv.drewN ?_ _ | with_reducible refine Sat.Mv.set ?_ ?_ _)) <;> (first | exact Or.inl (Or.inl rfl) | exact Or.inl (Or.inr rfl) | exact Or.inl rfl | (refine Or.inr ?_; (try simp); omega) | (refine Or.inl ?_; (try simp); omega))
    rintro e w2 ⟨⟨m2, q2, u, rfl, kd1, nm1, tys1, exprs1, body1, els1, p1, A1, B1, C1, D1, rfl, rfl, xA1, xB1, xC1, xD1⟩, sg⟩
    obtain ⟨qA1, cA1, rfl⟩ := xA1.slice
    obtain ⟨qB1, cB1, rfl⟩ := xB1.slice
    obtain ⟨qC1, cC1, rfl⟩ := xC1.slice
    obtain ⟨qD1, cD1, rfl⟩ := xD1.slice
    have z1 := m2.size
    try simp at z1
    have HS1 := hide (seg sg m2)
    have HQ2 := hide q2
    have HX1 := hide (And.intro xA1 (And.intro xB1 (And.intro xC1 xD1)))
    clear xA1 xB1 xC1 xD1
    have hB : Blk 47 w2 (w.heap.size) #[.string ByteArray.empty, .string ByteArray.empty, .slice none 0 0, .slice none 0 0, .slice none 0 0, .slice none 0 0, .int .i64 0] := m2.blk (by (repeat' (first | with_reducible exact HB.out | with_reducible refine Blk.alloc ?_ _ | with_reducible refine Blk.drewN ?_ _ | with_reducible refine Blk.other ?_ ?_ _ | exact HB.out)) <;> (first | (simp; omega) | simp | omega)) (by omega)
    clear HB
    have HB := hide hB
    clear hB
    clear m2 q2 sg
    go_wp2_with ((show wpList _ _ _ _ _ _); refine store_blk rfl 47 (.tmp 2) (.tmp 36) rfl (w.heap.size) _ rfl rfl 47 #[.string ByteArray.empty, .string ByteArray.empty, .slice none 0 0, .slice none 0 0, .slice none 0 0, .slice none 0 0, .int .i64 0] (by (repeat' (first | with_reducible exact HB.out | with_reducible refine Blk.alloc ?_ _ | with_reducible refine Blk.drewN ?_ _ | with_reducible refine Blk.other ?_ ?_ _ | exact HB.out)) <;> (first | (simp; omega) | simp | omega)) (by kernel_rfl) rfl rfl ?_; intro wf b2 m2; have HE := hide (show Sat.Mv (fun b => b = w.heap.size) w2 wf from mvt (by (repeat' (first | with_reducible exact Sat.Mv.refl _ _ | with_reducible refine Sat.Mv.alloc ?_ _ | with_reducible refine Sat.Mv.drew ?_ | with_reducible refine Sat.Mv.drewN ?_ _ | with_reducible refine Sat.Mv.set ?_ ?_ _)) <;> (first | exact Or.inl (Or.inl rfl) | exact Or.inl (Or.inr rfl) | exact Or.inl rfl | (refine Or.inr ?_; (try simp); omega) | (refine Or.inl ?_; (try simp); omega))) (Mv.wide m2 (fun b hb => hb))); have HM := hide m2; obtain ⟨c0, c1, c2, c3, c4, c5, c6, k0, k1, k2, k3, k4, k5, k6⟩ := bk7 b2; clear m2 b2)
    refine bodyPost_ret (v := .agg #[.string (tx kd1), .string (tx nm1), .slice qA1 tys1.length cA1, .slice qB1 exprs1.length cB1, .slice qC1 body1.length cC1, .slice qD1 els1.length cD1, .int .i64 (p1 : Nat)]) (by simp [results, Tryz.results143, go_sem, c0, c1, c2, c3, c4, c5, c6]) rfl ?_
    rw [HRR.out]
    exact ans_fin (fun b => b = w.heap.size) HE.out (mvt HS0.out HS1.out) (fun b hb => by have hb : b = g ∨ b = w.heap.size := hb; omega) HQ2.out (fun b hb => by have hb : b = w.heap.size := hb; omega) ⟨_, _, _, _, _, _, _, _, _, _, _, rfl, rfl, HX1.out.1.far (G := fun b => b = g ∨ b = w.heap.size) (Mv.wide HE.out fun b k => Or.inr k) (by intro b hb hl hk; (try simp at hb); have hk : b = g ∨ b = w.heap.size := hk; omega) (by intro b hb; (try simp at hb); show w.heap.size ≤ b; omega), HX1.out.2.1.far (G := fun b => b = g ∨ b = w.heap.size) (Mv.wide HE.out fun b k => Or.inr k) (by intro b hb hl hk; (try simp at hb); have hk : b = g ∨ b = w.heap.size := hk; omega) (by intro b hb; (try simp at hb); show w.heap.size ≤ b; omega), HX1.out.2.2.1.far (G := fun b => b = g ∨ b = w.heap.size) (Mv.wide HE.out fun b k => Or.inr k) (by intro b hb hl hk; (try simp at hb); have hk : b = g ∨ b = w.heap.size := hk; omega) (by intro b hb; (try simp at hb); show w.heap.size ≤ b; omega), HX1.out.2.2.2.far (G := fun b => b = g ∨ b = w.heap.size) (Mv.wide HE.out fun b k => Or.inr k) (by intro b hb hl hk; (try simp at hb); have hk : b = g ∨ b = w.heap.size := hk; omega) (by intro b hb; (try simp at hb); show w.heap.size ≤ b; omega)⟩
end Syn
end Go.Proofs.YtomldkljlbdnjaaGreat
