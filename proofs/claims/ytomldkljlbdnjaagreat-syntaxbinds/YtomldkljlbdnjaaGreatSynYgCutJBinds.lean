/- Methods of the reader: expr, typ, block, stmts. No statement of the seat is proved here. -/
import Derived.Test.YtomldkljlbdnjaaGreatJoin10Binds
namespace Go.Proofs.YtomldkljlbdnjaaGreat
open Go.RowKit
set_option linter.unusedVariables false
set_option linter.unusedSimpArgs false
namespace Syn
open Euf (OL App Stop)
open Lex (T TL tx bs tkC FV IsNm hide)
set_option maxRecDepth 4000 in
set_option maxHeartbeats 2000000 in
theorem expr_sp (en g lo N : Nat) (himplied : Sp 174 ShE .implied en g lo N) : Sp 157 ShE .expr en g lo (N + 1) := by
  intro w dp st h hne
  have hgl := h.gl
  have hlw := h.lw
  have hgw := h.lt
  have HQ0 := hide h
  clear h
  obtain ⟨R, hRR⟩ : ∃ R, R = P en (N + 1) .expr dp st := ⟨_, rfl⟩
  rw [← hRR] at hne ⊢
  simp only [P, wantP, nameP] at hRR
  have HC0 : Hid (∀ w1, Q w1 g lo en dp st → (nestP en dp st fun d => P en N .implied d st) ≠ .out → Calls Tryz.prog 173 #[.pointer (some ⟨g, 0, none⟩), .func (.func 174) #[.pointer (some ⟨g, 0, none⟩)] #[]] w1 fun e w' => Ans ShE w1 g lo en dp e w' ((nestP en dp st fun d => P en N .implied d st))) := fun w1 q1 hn => nestE_any 174 (fun _ _ => by kernel_rfl) w1 g lo en dp st (fun d => P en N .implied d st) q1 hn (fun _ w2 q2 h2 => himplied w2 (dp + 1) st q2 h2)
  generalize (nestP en dp st fun d => P en N .implied d st) = E0 at hRR HC0
  cases E0 with
  | out => exact absurd hRR hne
  | bad cc a =>
    have HRR := hide hRR
    clear hRR
    go_enter Tryz.func157, Tryz.ntmps157
    go_wp2_with fail
    refine (step_q (fun b => b = w.heap.size) (wk := w) ?_ HQ0.out (fun b hb => by have hb : b = w.heap.size := hb; omega) (fun wz qz => HC0.out wz qz (fun e => by cases e))).mono ?_
    · (repeat' (first | with_reducible exact Sat.Mv.refl _ _ | with_reducible refine Sat.Mv.alloc ?_ _ | with_reducible refine Sat.Mv.drew ?_ | with_reducible refine Sat.Mv.drewN ?_ _ | with_reducible refine Sat.Mv.set ?_ ?_ _)) <;> (first | exact Or.inl (Or.inl rfl) | exact Or.inl (Or.inr rfl) | exact Or.inl rfl | (refine Or.inr ?_; (try simp); omega) | (refine Or.inl ?_; (try simp); omega))
    rintro e w1 ⟨⟨m2, rfl⟩, sg⟩
    go_wp2
    refine ⟨rfl, ?_⟩
    rw [HRR.out]
    refine ⟨Mv.out (seg sg m2) (fun b hb => by have hb : b = g ∨ b = w.heap.size := hb; omega), rfl⟩
  | ok r0 s0 =>
    try simp only [Res.to_ok] at hRR
    have HRR := hide hRR
    clear hRR
    go_enter Tryz.func157, Tryz.ntmps157
    go_wp2_with fail
    refine (step_q (fun b => b = w.heap.size) (wk := w) ?_ HQ0.out (fun b hb => by have hb : b = w.heap.size := hb; omega) (fun wz qz => HC0.out wz qz (fun e => by cases e))).mono ?_
    · (repeat' (first | with_reducible exact Sat.Mv.refl _ _ | with_reducible refine Sat.Mv.alloc ?_ _ | with_reducible refine Sat.Mv.drew ?_ | with_reducible refine Sat.Mv.drewN ?_ _ | with_reducible refine Sat.Mv.set ?_ ?_ _)) <;> (first | exact Or.inl (Or.inl rfl) | exact Or.inl (Or.inr rfl) | exact Or.inl rfl | (refine Or.inr ?_; (try simp); omega) | (refine Or.inl ?_; (try simp); omega))
    rintro e w1 ⟨⟨m2, q2, u, rfl, op0, nm0, args0, tys0, p0, A0, B0, rfl, rfl, xA0, xB0⟩, sg⟩
    obtain ⟨qA0, cA0, rfl⟩ := xA0.slice
    obtain ⟨qB0, cB0, rfl⟩ := xB0.slice
    have z0 := m2.size
    try simp at z0
    have HS0 := hide (seg sg m2)
    have HQ1 := hide q2
    have HX0 := hide (And.intro xA0 xB0)
    clear xA0 xB0
    have hB : Blk 49 w1 (w.heap.size) #[.string ByteArray.empty, .string ByteArray.empty, .slice none 0 0, .slice none 0 0, .int .i64 0] := m2.blk (by (repeat' (first | exact Blk.new _ _ _ | with_reducible refine Blk.alloc ?_ _ | with_reducible refine Blk.drewN ?_ _ | with_reducible refine Blk.other ?_ ?_ _)) <;> (first | (simp; omega) | simp | omega)) (by omega)
    have HB := hide hB
    clear hB
    clear m2 q2 sg
    go_wp2_with ((show wpList _ _ _ _ _ _); refine store_blk rfl 49 (.tmp 2) (.tmp 6) rfl (w.heap.size) _ rfl rfl 49 #[.string ByteArray.empty, .string ByteArray.empty, .slice none 0 0, .slice none 0 0, .int .i64 0] (by (repeat' (first | with_reducible exact HB.out | with_reducible refine Blk.alloc ?_ _ | with_reducible refine Blk.drewN ?_ _ | with_reducible refine Blk.other ?_ ?_ _ | exact HB.out)) <;> (first | (simp; omega) | simp | omega)) (by kernel_rfl) rfl rfl ?_; intro wf b2 m2; have HE := hide (show Sat.Mv (fun b => b = w.heap.size) w1 wf from mvt (by (repeat' (first | with_reducible exact Sat.Mv.refl _ _ | with_reducible refine Sat.Mv.alloc ?_ _ | with_reducible refine Sat.Mv.drew ?_ | with_reducible refine Sat.Mv.drewN ?_ _ | with_reducible refine Sat.Mv.set ?_ ?_ _)) <;> (first | exact Or.inl (Or.inl rfl) | exact Or.inl (Or.inr rfl) | exact Or.inl rfl | (refine Or.inr ?_; (try simp); omega) | (refine Or.inl ?_; (try simp); omega))) (Mv.wide m2 (fun b hb => hb))); have HM := hide m2; obtain ⟨c0, c1, c2, c3, c4, k0, k1, k2, k3, k4⟩ := bk5 b2; clear m2 b2)
    refine bodyPost_ret (v := .agg #[.string (tx op0), .string (tx nm0), .slice qA0 args0.length cA0, .slice qB0 tys0.length cB0, .int .i64 (p0 : Nat)]) (by simp [results, Tryz.results157, go_sem, c0, c1, c2, c3, c4]) rfl ?_
    rw [HRR.out]
    exact ans_fin (fun b => b = w.heap.size) HE.out HS0.out (fun b hb => by have hb : b = g ∨ b = w.heap.size := hb; omega) HQ1.out (fun b hb => by have hb : b = w.heap.size := hb; omega) ⟨_, _, _, _, _, _, _, rfl, rfl, HX0.out.1.far (G := fun b => b = g ∨ b = w.heap.size) (Mv.wide HE.out fun b k => Or.inr k) (by intro b hb hl hk; (try simp at hb); have hk : b = g ∨ b = w.heap.size := hk; omega) (by intro b hb; (try simp at hb); show w.heap.size ≤ b; omega), HX0.out.2.far (G := fun b => b = g ∨ b = w.heap.size) (Mv.wide HE.out fun b k => Or.inr k) (by intro b hb hl hk; (try simp at hb); have hk : b = g ∨ b = w.heap.size := hk; omega) (by intro b hb; (try simp at hb); show w.heap.size ≤ b; omega)⟩
set_option maxRecDepth 4000 in
set_option maxHeartbeats 2000000 in
theorem block_sp (en g lo N : Nat) (hstmts : Sp 107 (ShL 2) .stmts en g lo N) : Sp 57 (ShL 2) .block en g lo (N + 1) := by
  intro w dp st h hne
  have hgl := h.gl
  have hlw := h.lw
  have hgw := h.lt
  have HQ0 := hide h
  clear h
  obtain ⟨R, hRR⟩ : ∃ R, R = P en (N + 1) .block dp st := ⟨_, rfl⟩
  rw [← hRR] at hne ⊢
  simp only [P, wantP, nameP] at hRR
  have HC0 : Hid (∀ w1, Q w1 g lo en dp st → (nestP en dp st fun d => P en N .stmts d st) ≠ .out → Calls Tryz.prog 106 #[.pointer (some ⟨g, 0, none⟩), .func (.func 107) #[.pointer (some ⟨g, 0, none⟩)] #[]] w1 fun e w' => Ans (ShL 2) w1 g lo en dp e w' ((nestP en dp st fun d => P en N .stmts d st))) := fun w1 q1 hn => nestB_any 107 (fun _ _ => by kernel_rfl) w1 g lo en dp st (fun d => P en N .stmts d st) q1 hn (fun _ w2 q2 h2 => hstmts w2 (dp + 1) st q2 h2)
  generalize (nestP en dp st fun d => P en N .stmts d st) = E0 at hRR HC0
  cases E0 with
  | out => exact absurd hRR hne
  | bad cc a =>
    have HRR := hide hRR
    clear hRR
    go_enter Tryz.func57, Tryz.ntmps57
    go_wp2_with fail
    refine (step_q (fun b => b < 0) (wk := w) ?_ HQ0.out (fun b hb => by have hb : b < 0 := hb; omega) (fun wz qz => HC0.out wz qz (fun e => by cases e))).mono ?_
    · (repeat' (first | with_reducible exact Sat.Mv.refl _ _ | with_reducible refine Sat.Mv.alloc ?_ _ | with_reducible refine Sat.Mv.drew ?_ | with_reducible refine Sat.Mv.drewN ?_ _ | with_reducible refine Sat.Mv.set ?_ ?_ _)) <;> (first | exact Or.inl (Or.inl rfl) | exact Or.inl (Or.inr rfl) | exact Or.inl rfl | (refine Or.inr ?_; (try simp); omega) | (refine Or.inl ?_; (try simp); omega))
    rintro e w1 ⟨⟨m2, rfl⟩, sg⟩
    go_wp2
    refine ⟨rfl, ?_⟩
    rw [HRR.out]
    refine ⟨Mv.out (seg sg m2) (fun b hb => by have hb : b = g ∨ b < 0 := hb; omega), rfl⟩
  | ok r0 s0 =>
    try simp only [Res.to_ok] at hRR
    have HRR := hide hRR
    clear hRR
    go_enter Tryz.func57, Tryz.ntmps57
    go_wp2_with fail
    refine (step_q (fun b => b < 0) (wk := w) ?_ HQ0.out (fun b hb => by have hb : b < 0 := hb; omega) (fun wz qz => HC0.out wz qz (fun e => by cases e))).mono ?_
    · (repeat' (first | with_reducible exact Sat.Mv.refl _ _ | with_reducible refine Sat.Mv.alloc ?_ _ | with_reducible refine Sat.Mv.drew ?_ | with_reducible refine Sat.Mv.drewN ?_ _ | with_reducible refine Sat.Mv.set ?_ ?_ _)) <;> (first | exact Or.inl (Or.inl rfl) | exact Or.inl (Or.inr rfl) | exact Or.inl rfl | (refine Or.inr ?_; (try simp); omega) | (refine Or.inl ?_; (try simp); omega))
    rintro e w1 ⟨⟨m2, q2, u, rfl, rows0, rfl, xA0⟩, sg⟩
    obtain ⟨qA0, cA0, rfl⟩ := xA0.slice
    have z0 := m2.size
    try simp at z0
    have HS0 := hide (seg sg m2)
    have HQ1 := hide q2
    have HX0 := hide xA0
    clear xA0
    clear m2 q2 sg
    go_wp2
    go_ret
    rw [HRR.out]
    refine ans_fin (fun b => b < 0) (wk := w1) ?_ HS0.out (fun b hb => by have hb : b = g ∨ b < 0 := hb; omega) HQ1.out (fun b hb => by have hb : b < 0 := hb; omega) ?_
    · (repeat' (first | with_reducible exact Sat.Mv.refl _ _ | with_reducible refine Sat.Mv.alloc ?_ _ | with_reducible refine Sat.Mv.drew ?_ | with_reducible refine Sat.Mv.drewN ?_ _ | with_reducible refine Sat.Mv.set ?_ ?_ _)) <;> (first | exact Or.inl (Or.inl rfl) | exact Or.inl (Or.inr rfl) | exact Or.inl rfl | (refine Or.inr ?_; (try simp); omega) | (refine Or.inl ?_; (try simp); omega))
    · exact ⟨_, rfl, HX0.out.far (G := fun b => b = g ∨ b < 0) (Mv.wide (Sat.Mv.refl _ _) fun b k => Or.inr k) (by intro b hb hl hk; (try simp at hb); have hk : b = g ∨ b < 0 := hk; omega) (by intro b hb; (try simp at hb); show w.heap.size ≤ b; omega)⟩
set_option maxRecDepth 4000 in
set_option maxHeartbeats 2000000 in
theorem stmts_sp (en g lo N : Nat) (hstmt : ∀ m, m < N → Sp 143 ShS .stmt en g lo m) : Sp 107 (ShL 2) .stmts en g lo (N + 1) := by
  intro w dp st h hne
  have hgl := h.gl
  have hlw := h.lw
  have hgw := h.lt
  have HQ0 := hide h
  clear h
  obtain ⟨R, hRR⟩ : ∃ R, R = P en (N + 1) .stmts dp st := ⟨_, rfl⟩
  rw [← hRR] at hne ⊢
  simp only [P, wantP, nameP] at hRR
  have HC0 : Hid (∀ w1, Q w1 g lo en dp st → P en N (.curly 2) dp st ≠ .out → Calls Tryz.prog 142 #[.pointer (some ⟨g, 0, none⟩), .func (.func 143) #[.pointer (some ⟨g, 0, none⟩)] #[]] w1 fun e w' => Ans (ShL 2) w1 g lo en dp e w' (P en N (.curly 2) dp st)) := fun w1 q1 hn => curlyS_any 143 (fun _ _ => by kernel_rfl) w1 g lo en dp N st q1 hn (elem2 hstmt)
  generalize P en N (.curly 2) dp st = E0 at hRR HC0
  cases E0 with
  | out => exact absurd hRR hne
  | bad cc a =>
    have HRR := hide hRR
    clear hRR
    go_enter Tryz.func107, Tryz.ntmps107
    go_wp2_with fail
    refine (step_q (fun b => b < 0) (wk := w) ?_ HQ0.out (fun b hb => by have hb : b < 0 := hb; omega) (fun wz qz => HC0.out wz qz (fun e => by cases e))).mono ?_
    · (repeat' (first | with_reducible exact Sat.Mv.refl _ _ | with_reducible refine Sat.Mv.alloc ?_ _ | with_reducible refine Sat.Mv.drew ?_ | with_reducible refine Sat.Mv.drewN ?_ _ | with_reducible refine Sat.Mv.set ?_ ?_ _)) <;> (first | exact Or.inl (Or.inl rfl) | exact Or.inl (Or.inr rfl) | exact Or.inl rfl | (refine Or.inr ?_; (try simp); omega) | (refine Or.inl ?_; (try simp); omega))
    rintro e w1 ⟨⟨m2, rfl⟩, sg⟩
    go_wp2
    refine ⟨rfl, ?_⟩
    rw [HRR.out]
    refine ⟨Mv.out (seg sg m2) (fun b hb => by have hb : b = g ∨ b < 0 := hb; omega), rfl⟩
  | ok r0 s0 =>
    try simp only [Res.to_ok] at hRR
    have HRR := hide hRR
    clear hRR
    go_enter Tryz.func107, Tryz.ntmps107
    go_wp2_with fail
    refine (step_q (fun b => b < 0) (wk := w) ?_ HQ0.out (fun b hb => by have hb : b < 0 := hb; omega) (fun wz qz => HC0.out wz qz (fun e => by cases e))).mono ?_
    · (repeat' (first | with_reducible exact Sat.Mv.refl _ _ | with_reducible refine Sat.Mv.alloc ?_ _ | with_reducible refine Sat.Mv.drew ?_ | with_reducible refine Sat.Mv.drewN ?_ _ | with_reducible refine Sat.Mv.set ?_ ?_ _)) <;> (first | exact Or.inl (Or.inl rfl) | exact Or.inl (Or.inr rfl) | exact Or.inl rfl | (refine Or.inr ?_; (try simp); omega) | (refine Or.inl ?_; (try simp); omega))
    rintro e w1 ⟨⟨m2, q2, u, rfl, rows0, rfl, xA0⟩, sg⟩
    obtain ⟨qA0, cA0, rfl⟩ := xA0.slice
    have z0 := m2.size
    try simp at z0
    have HS0 := hide (seg sg m2)
    have HQ1 := hide q2
    have HX0 := hide xA0
    clear xA0
    clear m2 q2 sg
    go_wp2
    go_ret
    rw [HRR.out]
    refine ans_fin (fun b => b < 0) (wk := w1) ?_ HS0.out (fun b hb => by have hb : b = g ∨ b < 0 := hb; omega) HQ1.out (fun b hb => by have hb : b < 0 := hb; omega) ?_
    · (repeat' (first | with_reducible exact Sat.Mv.refl _ _ | with_reducible refine Sat.Mv.alloc ?_ _ | with_reducible refine Sat.Mv.drew ?_ | with_reducible refine Sat.Mv.drewN ?_ _ | with_reducible refine Sat.Mv.set ?_ ?_ _)) <;> (first | exact Or.inl (Or.inl rfl) | exact Or.inl (Or.inr rfl) | exact Or.inl rfl | (refine Or.inr ?_; (try simp); omega) | (refine Or.inl ?_; (try simp); omega))
    · exact ⟨_, rfl, HX0.out.far (G := fun b => b = g ∨ b < 0) (Mv.wide (Sat.Mv.refl _ _) fun b k => Or.inr k) (by intro b hb hl hk; (try simp at hb); have hk : b = g ∨ b < 0 := hk; omega) (by intro b hb; (try simp at hb); show w.heap.size ≤ b; omega)⟩
end Syn
end Go.Proofs.YtomldkljlbdnjaaGreat
