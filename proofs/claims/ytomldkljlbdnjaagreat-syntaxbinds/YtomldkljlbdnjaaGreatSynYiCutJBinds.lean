/- Methods of the reader: alone, prefixed, object. No statement of the seat is proved here. -/
import Derived.Test.YtomldkljlbdnjaaGreatJoin10Binds
namespace Go.Proofs.YtomldkljlbdnjaaGreat
open Go.RowKit
set_option linter.unusedVariables false
set_option linter.unusedSimpArgs false
namespace Syn
open Euf (OL App Stop)
open Lex (T TL tx bs tkC FV IsNm hide)
set_option maxRecDepth 4000 in
set_option maxHeartbeats 2000000 in
theorem alone_sp (en g lo N : Nat) (op : List UInt8) : Sp1A 195 #[.pointer (some ⟨g, 0, none⟩), .string (tx op)] ShE (.alone op) en g lo (N + 1) := by
  intro w dp st h hs hne
  have hgl := h.gl
  have hlw := h.lw
  have hgw := h.lt
  have HQ0 := hide h
  clear h
  obtain ⟨R, hRR⟩ : ∃ R, R = P en (N + 1) (.alone op) dp st := ⟨_, rfl⟩
  rw [← hRR] at hne ⊢
  simp only [P, wantP, nameP] at hRR
  have HRR := hide hRR
  clear hRR
  go_enter Tryz.func195, Tryz.ntmps195
  go_wp2_with fail
  refine (step_q (fun b => b = w.heap.size) (wk := w) ?_ HQ0.out (fun b hb => by have hb : b = w.heap.size := hb; omega) (fun wz qz => take_q wz g lo en dp st qz (by exact hs))).mono ?_
  · (repeat' (first | with_reducible exact Sat.Mv.refl _ _ | with_reducible refine Sat.Mv.alloc ?_ _ | with_reducible refine Sat.Mv.drew ?_ | with_reducible refine Sat.Mv.drewN ?_ _ | with_reducible refine Sat.Mv.set ?_ ?_ _)) <;> (first | exact Or.inl (Or.inl rfl) | exact Or.inl (Or.inr rfl) | exact Or.inl rfl | (refine Or.inr ?_; (try simp); omega) | (refine Or.inl ?_; (try simp); omega))
  rintro e w1 ⟨⟨rfl, q2, m2⟩, sg⟩
  have z0 := m2.size
  try simp at z0
  have HS0 := hide (seg sg m2)
  have HQ1 := hide q2
  have hB : Blk 49 w1 (w.heap.size) #[.string ByteArray.empty, .string ByteArray.empty, .slice none 0 0, .slice none 0 0, .int .i64 0] := m2.blk (by (repeat' (first | exact Blk.new _ _ _ | with_reducible refine Blk.alloc ?_ _ | with_reducible refine Blk.drewN ?_ _ | with_reducible refine Blk.other ?_ ?_ _)) <;> (first | (simp; omega) | simp | omega)) (by omega)
  have HB := hide hB
  clear hB
  clear m2 q2 sg
  simp only [TV]
  have F10 := fun w => field_text (tx (Syn.hd en st).x) (Syn.hd en st).k (Syn.hd en st).a w
  have F20 := fun w => field_place (tx (Syn.hd en st).x) (Syn.hd en st).k (Syn.hd en st).a w
  go_wp2_with ((show wpList _ _ _ _ _ _); refine store_blk rfl 49 (.tmp 4) (.tmp 13) rfl (w.heap.size) _ rfl rfl 49 #[.string ByteArray.empty, .string ByteArray.empty, .slice none 0 0, .slice none 0 0, .int .i64 0] (by (repeat' (first | with_reducible exact HB.out | with_reducible refine Blk.alloc ?_ _ | with_reducible refine Blk.drewN ?_ _ | with_reducible refine Blk.other ?_ ?_ _ | exact HB.out)) <;> (first | (simp; omega) | simp | omega)) (by kernel_rfl) rfl rfl ?_; intro wf b2 m2; have HE := hide (show Sat.Mv (fun b => b = w.heap.size) w1 wf from mvt (by (repeat' (first | with_reducible exact Sat.Mv.refl _ _ | with_reducible refine Sat.Mv.alloc ?_ _ | with_reducible refine Sat.Mv.drew ?_ | with_reducible refine Sat.Mv.drewN ?_ _ | with_reducible refine Sat.Mv.set ?_ ?_ _)) <;> (first | exact Or.inl (Or.inl rfl) | exact Or.inl (Or.inr rfl) | exact Or.inl rfl | (refine Or.inr ?_; (try simp); omega) | (refine Or.inl ?_; (try simp); omega))) (Mv.wide m2 (fun b hb => hb))); have HM := hide m2; obtain ⟨c0, c1, c2, c3, c4, k0, k1, k2, k3, k4⟩ := bk5 b2; clear m2 b2)
  refine bodyPost_ret (v := .agg #[.string (tx op), .string (tx (Syn.hd en st).x), .slice none 0 0, .slice none 0 0, .int .i64 ((Syn.hd en st).a : Nat)]) (by simp [results, Tryz.results195, go_sem, c0, c1, c2, c3, c4]) rfl ?_
  rw [HRR.out]
  exact ans_fin (fun b => b = w.heap.size) HE.out HS0.out (fun b hb => by have hb : b = g ∨ b = w.heap.size := hb; omega) HQ1.out (fun b hb => by have hb : b = w.heap.size := hb; omega) ⟨_, _, _, _, _, _, _, rfl, rfl, X.nil _ _ _, X.nil _ _ _⟩
set_option maxRecDepth 4000 in
set_option maxHeartbeats 2000000 in
theorem prefixed_sp (en g lo N : Nat) (op : List UInt8) (hnestOperand : SpN 173 189 ShE .nestOperand en g lo N) : Sp1A 191 #[.pointer (some ⟨g, 0, none⟩), .string (tx op)] ShE (.prefixed op) en g lo (N + 1) := by
  intro w dp st h hs hne
  have hgl := h.gl
  have hlw := h.lw
  have hgw := h.lt
  have HQ0 := hide h
  clear h
  obtain ⟨R, hRR⟩ : ∃ R, R = P en (N + 1) (.prefixed op) dp st := ⟨_, rfl⟩
  rw [← hRR] at hne ⊢
  simp only [P, wantP, nameP] at hRR
  have HC1 : Hid (∀ w1, Q w1 g lo en dp st.tail → P en N .nestOperand dp st.tail ≠ .out → Calls Tryz.prog 173 #[.pointer (some ⟨g, 0, none⟩), .func (.func 189) #[.pointer (some ⟨g, 0, none⟩)] #[]] w1 fun e w' => Ans ShE w1 g lo en dp e w' (P en N .nestOperand dp st.tail)) := fun w1 q1 hn => hnestOperand w1 dp st.tail q1 hn
  generalize P en N .nestOperand dp st.tail = E1 at hRR HC1
  cases E1 with
  | out => exact absurd hRR hne
  | bad cc a =>
    have HRR := hide hRR
    clear hRR
    go_enter Tryz.func191, Tryz.ntmps191
    go_wp2_with fail
    refine (step_q (fun b => b = w.heap.size) (wk := w) ?_ HQ0.out (fun b hb => by have hb : b = w.heap.size := hb; omega) (fun wz qz => take_q wz g lo en dp st qz (by exact hs))).mono ?_
    · (repeat' (first | with_reducible exact Sat.Mv.refl _ _ | with_reducible refine Sat.Mv.alloc ?_ _ | with_reducible refine Sat.Mv.drew ?_ | with_reducible refine Sat.Mv.drewN ?_ _ | with_reducible refine Sat.Mv.set ?_ ?_ _)) <;> (first | exact Or.inl (Or.inl rfl) | exact Or.inl (Or.inr rfl) | exact Or.inl rfl | (refine Or.inr ?_; (try simp); omega) | (refine Or.inl ?_; (try simp); omega))
    rintro e w1 ⟨⟨rfl, q2, m2⟩, sg⟩
    have z0 := m2.size
    try simp at z0
    have HS0 := hide (seg sg m2)
    have HQ1 := hide q2
    have hB : Blk 49 w1 (w.heap.size) #[.string ByteArray.empty, .string ByteArray.empty, .slice none 0 0, .slice none 0 0, .int .i64 0] := m2.blk (by (repeat' (first | exact Blk.new _ _ _ | with_reducible refine Blk.alloc ?_ _ | with_reducible refine Blk.drewN ?_ _ | with_reducible refine Blk.other ?_ ?_ _)) <;> (first | (simp; omega) | simp | omega)) (by omega)
    have HB := hide hB
    clear hB
    clear m2 q2 sg
    simp only [TV]
    have F10 := fun w => field_text (tx (Syn.hd en st).x) (Syn.hd en st).k (Syn.hd en st).a w
    have F20 := fun w => field_place (tx (Syn.hd en st).x) (Syn.hd en st).k (Syn.hd en st).a w
    go_wp2_with fail
    refine (step_q (fun b => b = w.heap.size) (wk := w1) ?_ HQ1.out (fun b hb => by have hb : b = w.heap.size := hb; omega) (fun wz qz => HC1.out wz qz (fun e => by cases e))).mono ?_
    · (repeat' (first | with_reducible exact Sat.Mv.refl _ _ | with_reducible refine Sat.Mv.alloc ?_ _ | with_reducible refine Sat.Mv.drew ?_ | with_reducible refine Sat.Mv.drewN ?_ _ | with_reducible refine Sat.Mv.set ?_ ?_ _)) <;> (first | exact Or.inl (Or.inl rfl) | exact Or.inl (Or.inr rfl) | exact Or.inl rfl | (refine Or.inr ?_; (try simp); omega) | (refine Or.inl ?_; (try simp); omega))
    rintro e w2 ⟨⟨m2, rfl⟩, sg⟩
    go_wp2
    refine ⟨rfl, ?_⟩
    rw [HRR.out]
    refine ⟨Mv.out (mvt HS0.out (seg sg m2)) (fun b hb => by have hb : b = g ∨ b = w.heap.size := hb; omega), rfl⟩
  | ok r1 s1 =>
    try simp only [Res.to_ok] at hRR
    have HRR := hide hRR
    clear hRR
    go_enter Tryz.func191, Tryz.ntmps191
    go_wp2_with fail
    refine (step_q (fun b => b = w.heap.size) (wk := w) ?_ HQ0.out (fun b hb => by have hb : b = w.heap.size := hb; omega) (fun wz qz => take_q wz g lo en dp st qz (by exact hs))).mono ?_
    · (repeat' (first | with_reducible exact Sat.Mv.refl _ _ | with_reducible refine Sat.Mv.alloc ?_ _ | with_reducible refine Sat.Mv.drew ?_ | with_reducible refine Sat.Mv.drewN ?_ _ | with_reducible refine Sat.Mv.set ?_ ?_ _)) <;> (first | exact Or.inl (Or.inl rfl) | exact Or.inl (Or.inr rfl) | exact Or.inl rfl | (refine Or.inr ?_; (try simp); omega) | (refine Or.inl ?_; (try simp); omega))
    rintro e w1 ⟨⟨rfl, q2, m2⟩, sg⟩
    have z0 := m2.size
    try simp at z0
    have HS0 := hide (seg sg m2)
    have HQ1 := hide q2
    have hB : Blk 49 w1 (w.heap.size) #[.string ByteArray.empty, .string ByteArray.empty, .slice none 0 0, .slice none 0 0, .int .i64 0] := m2.blk (by (repeat' (first | exact Blk.new _ _ _ | with_reducible refine Blk.alloc ?_ _ | with_reducible refine Blk.drewN ?_ _ | with_reducible refine Blk.other ?_ ?_ _)) <;> (first | (simp; omega) | simp | omega)) (by omega)
    have HB := hide hB
    clear hB
    clear m2 q2 sg
    simp only [TV]
    have F10 := fun w => field_text (tx (Syn.hd en st).x) (Syn.hd en st).k (Syn.hd en st).a w
    have F20 := fun w => field_place (tx (Syn.hd en st).x) (Syn.hd en st).k (Syn.hd en st).a w
    go_wp2_with fail
    refine (step_q (fun b => b = w.heap.size) (wk := w1) ?_ HQ1.out (fun b hb => by have hb : b = w.heap.size := hb; omega) (fun wz qz => HC1.out wz qz (fun e => by cases e))).mono ?_
    · (repeat' (first | with_reducible exact Sat.Mv.refl _ _ | with_reducible refine Sat.Mv.alloc ?_ _ | with_reducible refine Sat.Mv.drew ?_ | with_reducible refine Sat.Mv.drewN ?_ _ | with_reducible refine Sat.Mv.set ?_ ?_ _)) <;> (first | exact Or.inl (Or.inl rfl) | exact Or.inl (Or.inr rfl) | exact Or.inl rfl | (refine Or.inr ?_; (try simp); omega) | (refine Or.inl ?_; (try simp); omega))
    rintro e w2 ⟨⟨m2, q2, u, rfl, op1, nm1, args1, tys1, p1, A1, B1, rfl, rfl, xA1, xB1⟩, sg⟩
    obtain ⟨qA1, cA1, rfl⟩ := xA1.slice
    obtain ⟨qB1, cB1, rfl⟩ := xB1.slice
    have z1 := m2.size
    try simp at z1
    have HS1 := hide (seg sg m2)
    have HQ2 := hide q2
    have HX1 := hide (And.intro xA1 xB1)
    clear xA1 xB1
    have hB : Blk 49 w2 (w.heap.size) #[.string ByteArray.empty, .string ByteArray.empty, .slice none 0 0, .slice none 0 0, .int .i64 0] := m2.blk (by (repeat' (first | with_reducible exact HB.out | with_reducible refine Blk.alloc ?_ _ | with_reducible refine Blk.drewN ?_ _ | with_reducible refine Blk.other ?_ ?_ _ | exact HB.out)) <;> (first | (simp; omega) | simp | omega)) (by omega)
    clear HB
    have HB := hide hB
    clear hB
    clear m2 q2 sg
    go_wp2_with ((show wpList _ _ _ _ _ _); refine store_blk rfl 49 (.tmp 4) (.tmp 16) rfl (w.heap.size) _ rfl rfl 49 #[.string ByteArray.empty, .string ByteArray.empty, .slice none 0 0, .slice none 0 0, .int .i64 0] (by (repeat' (first | with_reducible exact HB.out | with_reducible refine Blk.alloc ?_ _ | with_reducible refine Blk.drewN ?_ _ | with_reducible refine Blk.other ?_ ?_ _ | exact HB.out)) <;> (first | (simp; omega) | simp | omega)) (by kernel_rfl) rfl rfl ?_; intro wf b2 m2; have HE := hide (show Sat.Mv (fun b => b = w.heap.size) w2 wf from mvt (by (repeat' (first | with_reducible exact Sat.Mv.refl _ _ | with_reducible refine Sat.Mv.alloc ?_ _ | with_reducible refine Sat.Mv.drew ?_ | with_reducible refine Sat.Mv.drewN ?_ _ | with_reducible refine Sat.Mv.set ?_ ?_ _)) <;> (first | exact Or.inl (Or.inl rfl) | exact Or.inl (Or.inr rfl) | exact Or.inl rfl | (refine Or.inr ?_; (try simp); omega) | (refine Or.inl ?_; (try simp); omega))) (Mv.wide m2 (fun b hb => hb))); have HM := hide m2; obtain ⟨c0, c1, c2, c3, c4, k0, k1, k2, k3, k4⟩ := bk5 b2; clear m2 b2)
    refine bodyPost_ret (v := .agg #[.string (tx op), .string { data := #[] }, .slice (some ⟨w2.heap.size, 0, none⟩) 1 1, .slice none 0 0, .int .i64 ((Syn.hd en st).a : Nat)]) (by simp [results, Tryz.results191, go_sem, c0, c1, c2, c3, c4]) rfl ?_
    rw [HRR.out]
    exact ans_fin (fun b => b = w.heap.size) HE.out (mvt HS0.out HS1.out) (fun b hb => by have hb : b = g ∨ b = w.heap.size := hb; omega) HQ2.out (fun b hb => by have hb : b = w.heap.size := hb; omega) ⟨_, _, _, _, _, _, _, rfl, rfl, ((LS.one w2 (w.heap.size + 1) 0 [.string (tx op1), .string (tx nm1), .slice qA1 args1.length cA1, .slice qB1 tys1.length cB1, .int .i64 (p1 : Nat)] (exR op1 nm1 args1 tys1 p1) (by omega) rfl (.cons (X.s _ _ _) (.cons (X.s _ _ _) (.cons (HX1.out.1.stay (fun b hb hl => ⟨rfl, by (try simp at hb); omega⟩)) (.cons (HX1.out.2.stay (fun b hb hl => ⟨rfl, by (try simp at hb); omega⟩)) (.cons (X.a _ _ _) .nil)))))).x.far HM.out (by intro b hb hl hk; (try simp at hb); have hk : b = w.heap.size := hk; omega) (by intro b hb; (try simp at hb); show w.heap.size ≤ b; omega)), X.nil _ _ _⟩
end Syn
end Go.Proofs.YtomldkljlbdnjaaGreat
