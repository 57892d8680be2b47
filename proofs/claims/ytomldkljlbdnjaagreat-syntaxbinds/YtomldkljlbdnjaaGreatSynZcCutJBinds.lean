/- Methods of the reader: part. No statement of the seat is proved here. -/
import Derived.Test.YtomldkljlbdnjaaGreatJoin12Binds
namespace Go.Proofs.YtomldkljlbdnjaaGreat
open Go.RowKit
set_option linter.unusedVariables false
set_option linter.unusedSimpArgs false
namespace Syn
open Euf (OL App Stop)
open Lex (T TL tx bs tkC FV IsNm hide)
set_option maxRecDepth 4000 in
set_option maxHeartbeats 2000000 in
theorem part_sp (en g lo N : Nat) (hexpr : ∀ m, m < N → Sp 157 ShE .expr en g lo m) : SpB 193 ShE .part en g lo (N + 1) := by
  intro w dp st base ex opO nmO argsO tysO pO qAO cAO qBO cBO h hgb hbw hex xAO xBO hne
  have hgl := h.gl
  have hlw := h.lw
  have hgw := h.lt
  have HQ0 := hide h
  have HXO := hide (And.intro xAO xBO)
  clear h xAO xBO
  obtain ⟨R, hRR⟩ : ∃ R, R = P en (N + 1) (.part (exR opO nmO argsO tysO pO)) dp st := ⟨_, rfl⟩
  rw [← hRR] at hne ⊢
  simp only [P, wantP, nameP] at hRR
  by_cases x0 : IsNm (Syn.hd en st).x
  case neg =>
    rw [if_neg x0] at hRR
    have Hx0 := hide x0
    clear x0
    have HRR := hide hRR
    clear hRR
    go_enter Tryz.func193, Tryz.ntmps193
    go_wp2_with fail
    refine (step_q (fun b => b = w.heap.size + 1) (wk := w) ?_ HQ0.out (fun b hb => by have hb : b = w.heap.size + 1 := hb; omega) (fun wz qz => name_q wz g lo en dp st qz)).mono ?_
    · (repeat' (first | with_reducible exact Sat.Mv.refl _ _ | with_reducible refine Sat.Mv.alloc ?_ _ | with_reducible refine Sat.Mv.drew ?_ | with_reducible refine Sat.Mv.drewN ?_ _ | with_reducible refine Sat.Mv.set ?_ ?_ _)) <;> (first | exact Or.inl (Or.inl rfl) | exact Or.inl (Or.inr rfl) | exact Or.inl rfl | (refine Or.inr ?_; (try simp); omega) | (refine Or.inl ?_; (try simp); omega))
    rintro e w1 ⟨⟨m2, ⟨hyes, -, -⟩ | ⟨-, rfl⟩⟩, sg⟩
    case inl => exact absurd hyes Hx0.out
    go_wp2
    refine ⟨rfl, ?_⟩
    rw [HRR.out]
    refine ⟨Mv.out (seg sg m2) (fun b hb => by have hb : b = g ∨ b = w.heap.size + 1 := hb; omega), rfl⟩
  rw [if_pos x0] at hRR
  by_cases x1 : (Syn.hd en st.tail).x = ([40] : List UInt8)
  case pos =>
    rw [if_pos x1] at hRR
    try rw [decide_eq_true x1] at hRR
    have HC2 : Hid (∀ w1, Q w1 g lo en dp st.tail → P en N (.round 0) dp st.tail ≠ .out → Calls Tryz.prog 159 #[.pointer (some ⟨g, 0, none⟩), .func (.func 157) #[.pointer (some ⟨g, 0, none⟩)] #[]] w1 fun e w' => Ans (ShL 0) w1 g lo en dp e w' (P en N (.round 0) dp st.tail)) := fun w1 q1 hn => roundE_any 157 (fun _ _ => by kernel_rfl) w1 g lo en dp N st.tail q1 hn (elem0 hexpr)
    have HP2 := hide <| round_cnt en 0 N dp st.tail
    generalize P en N (.round 0) dp st.tail = E2 at hRR HC2 HP2
    cases E2 with
    | out => exact absurd hRR hne
    | bad cc a =>
      have Hx0 := hide x0
      clear x0
      have Hx1 := hide x1
      clear x1
      have HRR := hide hRR
      clear hRR
      go_enter Tryz.func193, Tryz.ntmps193
      go_wp2_with fail
      refine (step_q (fun b => b = w.heap.size + 1) (wk := w) ?_ HQ0.out (fun b hb => by have hb : b = w.heap.size + 1 := hb; omega) (fun wz qz => name_q wz g lo en dp st qz)).mono ?_
      · (repeat' (first | with_reducible exact Sat.Mv.refl _ _ | with_reducible refine Sat.Mv.alloc ?_ _ | with_reducible refine Sat.Mv.drew ?_ | with_reducible refine Sat.Mv.drewN ?_ _ | with_reducible refine Sat.Mv.set ?_ ?_ _)) <;> (first | exact Or.inl (Or.inl rfl) | exact Or.inl (Or.inr rfl) | exact Or.inl rfl | (refine Or.inr ?_; (try simp); omega) | (refine Or.inl ?_; (try simp); omega))
      rintro e w1 ⟨⟨m2, ⟨-, rfl, q2⟩ | ⟨hno, -⟩⟩, sg⟩
      case inr => exact absurd Hx0.out hno
      have z0 := m2.size
      try simp at z0
      have HS0 := hide (seg sg m2)
      have HQ1 := hide q2
      replace HS0 := hide (Mv.wide (G := fun b => b = g ∨ b = w.heap.size + 1 ∨ b = (w1.heap.size + 2)) HS0.out (fun b hb => by have hb : b = g ∨ b = w.heap.size + 1 := hb; show b = g ∨ b = w.heap.size + 1 ∨ b = (w1.heap.size + 2); omega))
      have hB : Blk 49 w1 (w.heap.size + 1) #[.string ByteArray.empty, .string ByteArray.empty, .slice none 0 0, .slice none 0 0, .int .i64 0] := m2.blk (by (repeat' (first | exact blk_new1 _ _ _ _ | with_reducible refine Blk.alloc ?_ _ | with_reducible refine Blk.drewN ?_ _ | with_reducible refine Blk.other ?_ ?_ _)) <;> (first | (simp; omega) | simp | omega)) (by omega)
      have HB := hide hB
      clear hB
      have hL : Blk 49 w1 (w.heap.size) #[.string (tx opO), .string (tx nmO), .slice qAO argsO.length cAO, .slice qBO tysO.length cBO, .int .i64 (pO : Nat)] := m2.blk (by (repeat' (first | with_reducible exact alloc2_blk _ (.cells #[] 0 (0, 0)) _ _ _ _ | with_reducible refine Blk.alloc ?_ _ | with_reducible refine Blk.drewN ?_ _ | with_reducible refine Blk.other ?_ ?_ _ | exact alloc2_blk _ (.cells #[] 0 (0, 0)) _ _ _ _)) <;> (first | (simp; omega) | simp | omega)) (by omega)
      have HL2 := hide hL
      clear hL
      obtain ⟨l2_0, l2_1, l2_2, l2_3, l2_4, f2_0, f2_1, f2_2, f2_3, f2_4⟩ := bk5 HL2.out
      have hLl2 := HL2.out.lt
      clear m2 q2 sg
      simp only [TV]
      have F10 := fun w => field_text (tx (Syn.hd en st).x) (Syn.hd en st).k (Syn.hd en st).a w
      have F20 := fun w => field_place (tx (Syn.hd en st).x) (Syn.hd en st).k (Syn.hd en st).a w
      go_wp2_with fail
      refine (step_sees (fun b => b = w.heap.size + 1 ∨ b = (w1.heap.size + 2)) ([40] : List UInt8) (wk := w1) ?_ HQ1.out (fun b hb => by have hb : b = w.heap.size + 1 ∨ b = (w1.heap.size + 2) := hb; omega) ?_).mono ?_
      · (repeat' (first | with_reducible exact Sat.Mv.refl _ _ | with_reducible refine Sat.Mv.alloc ?_ _ | with_reducible refine Sat.Mv.drew ?_ | with_reducible refine Sat.Mv.drewN ?_ _ | with_reducible refine Sat.Mv.set ?_ ?_ _)) <;> (first | exact Or.inl (Or.inl rfl) | exact Or.inl (Or.inr rfl) | exact Or.inl rfl | (refine Or.inr ?_; (try simp); omega) | (refine Or.inl ?_; (try simp); omega))
      · first | exact heap_alloc_new _ _ | exact new_at1 _ _ _ | exact new_at2 _ _ _ _ | exact new_at3 _ _ _ _ _ | (simp only [World.size_setCell]; exact heap_alloc_new _ _)
      rintro e w2 ⟨⟨he, b2⟩, sg⟩
      rw [decide_eq_true Hx1.out] at he
      subst he
      have m2 : MvR g _ w2 := Sat.Mv.below b2
      have q2 : Q w2 g lo en dp st.tail := (HQ1.out.mv sg (fun b hb => by have hb : b = w.heap.size + 1 ∨ b = (w1.heap.size + 2) := hb; omega)).below b2
      have z1 := m2.size
      try simp at z1
      have HS1 := hide (seg sg m2)
      have HQ2 := hide q2
      have hB : Blk 49 w2 (w.heap.size + 1) #[.string ByteArray.empty, .string ByteArray.empty, .slice none 0 0, .slice none 0 0, .int .i64 0] := m2.blk (by (repeat' (first | with_reducible exact HB.out | with_reducible refine Blk.alloc ?_ _ | with_reducible refine Blk.drewN ?_ _ | with_reducible refine Blk.other ?_ ?_ _ | exact HB.out)) <;> (first | (simp; omega) | simp | omega)) (by omega)
      clear HB
      have HB := hide hB
      clear hB
      have hL : Blk 49 w2 (w1.heap.size + 1) #[.string (tx opO), .string (tx nmO), .slice qAO argsO.length cAO, .slice qBO tysO.length cBO, .int .i64 (pO : Nat)] := m2.blk (by (repeat' (first | exact blk_new1 _ _ _ _ | with_reducible refine Blk.alloc ?_ _ | with_reducible refine Blk.drewN ?_ _ | with_reducible refine Blk.other ?_ ?_ _)) <;> (first | (simp; omega) | simp | omega)) (by omega)
      have HL0 := hide hL
      clear hL
      obtain ⟨l0_0, l0_1, l0_2, l0_3, l0_4, f0_0, f0_1, f0_2, f0_3, f0_4⟩ := bk5 HL0.out
      have hL : Blk 49 w2 (w1.heap.size + 2) #[.string { data := #[102, 105, 101, 108, 100] }, .string (tx (Syn.hd en st).x), .slice (some ⟨w1.heap.size + 1, 0, none⟩) 1 1, .slice none 0 0, .int .i64 ((Syn.hd en st).a : Nat)] := m2.blk (by (repeat' (first | exact blk_new2 _ _ _ _ _ | with_reducible refine Blk.alloc ?_ _ | with_reducible refine Blk.drewN ?_ _ | with_reducible refine Blk.other ?_ ?_ _)) <;> (first | (simp; omega) | simp | omega)) (by omega)
      have HL1 := hide hL
      clear hL
      obtain ⟨l1_0, l1_1, l1_2, l1_3, l1_4, f1_0, f1_1, f1_2, f1_3, f1_4⟩ := bk5 HL1.out
      have hL : Blk 49 w2 (w.heap.size) #[.string (tx opO), .string (tx nmO), .slice qAO argsO.length cAO, .slice qBO tysO.length cBO, .int .i64 (pO : Nat)] := m2.blk (by (repeat' (first | with_reducible exact HL2.out | with_reducible refine Blk.alloc ?_ _ | with_reducible refine Blk.drewN ?_ _ | with_reducible refine Blk.other ?_ ?_ _ | exact HL2.out)) <;> (first | (simp; omega) | simp | omega)) (by omega)
      clear HL2 l2_0 l2_1 l2_2 l2_3 l2_4 f2_0 f2_1 f2_2 f2_3 f2_4
      have HL2 := hide hL
      clear hL
      obtain ⟨l2_0, l2_1, l2_2, l2_3, l2_4, f2_0, f2_1, f2_2, f2_3, f2_4⟩ := bk5 HL2.out
      clear hLl2
      have hLl2 := HL2.out.lt
      clear m2 q2 sg b2
      go_wp2_with fail
      refine region_at ?_
      intro W hW
      have hMW : Sat.Mv (fun b => b = w.heap.size + 1 ∨ b = (w1.heap.size + 2)) w2 W := by rw [hW]; (repeat' (first | with_reducible exact Sat.Mv.refl _ _ | with_reducible refine Sat.Mv.alloc ?_ _ | with_reducible refine Sat.Mv.drew ?_ | with_reducible refine Sat.Mv.drewN ?_ _ | with_reducible refine Sat.Mv.set ?_ ?_ _)) <;> (first | exact Or.inl (Or.inl rfl) | exact Or.inl (Or.inr rfl) | exact Or.inl rfl | (refine Or.inr ?_; (try simp); omega) | (refine Or.inl ?_; (try simp); omega))
      have hRB : Blk 49 W (w.heap.size + 1) #[.string ByteArray.empty, .string ByteArray.empty, .slice none 0 0, .slice none 0 0, .int .i64 0] := by rw [hW]; (repeat' (first | with_reducible exact HB.out | with_reducible refine Blk.alloc ?_ _ | with_reducible refine Blk.drewN ?_ _ | with_reducible refine Blk.other ?_ ?_ _ | exact HB.out)) <;> (first | (simp; omega) | simp | omega)
      have hLB0 : Blk 49 W (w1.heap.size + 1) #[.string (tx opO), .string (tx nmO), .slice qAO argsO.length cAO, .slice qBO tysO.length cBO, .int .i64 (pO : Nat)] := by rw [hW]; (repeat' (first | with_reducible exact HL0.out | with_reducible refine Blk.alloc ?_ _ | with_reducible refine Blk.drewN ?_ _ | with_reducible refine Blk.other ?_ ?_ _ | exact HL0.out)) <;> (first | (simp; omega) | simp | omega)
      have hLB1 : Blk 49 W (w1.heap.size + 2) #[.string { data := #[99, 97, 108, 108] }, .string (tx (Syn.hd en st).x), .slice (some ⟨w1.heap.size + 1, 0, none⟩) 1 1, .slice none 0 0, .int .i64 ((Syn.hd en st).a : Nat)] := by rw [hW]; (repeat' (first | with_reducible refine Blk.alloc ?_ _ | exact Blk.set (HL1.out) 0 _ | with_reducible refine Blk.drewN ?_ _ | with_reducible refine Blk.other ?_ ?_ _)) <;> (first | (simp; omega) | simp | omega)
      obtain ⟨C0, hLF⟩ := LF.ofX (X.ofBlk (s := 0) (F := fun b => (((base ≤ b ∧ b ≠ ex) ∧ b < w.heap.size) ∨ b = w1.heap.size + 1 ∨ w2.heap.size ≤ b)) (vs := [.string (tx opO), .string (tx nmO), .slice qAO argsO.length cAO, .slice qBO tysO.length cBO, .int .i64 (pO : Nat)]) (r := (exR opO nmO argsO tysO pO)) hLB0 rfl (by show (((base ≤ (w1.heap.size + 1) ∧ (w1.heap.size + 1) ≠ ex) ∧ (w1.heap.size + 1) < w.heap.size) ∨ (w1.heap.size + 1) = w1.heap.size + 1 ∨ w2.heap.size ≤ (w1.heap.size + 1)); omega) (.cons (X.s _ _ _) (.cons (X.s _ _ _) (.cons (HXO.out.1.stay (w' := W) (fun b hb hl => ⟨(mvt (mvt HS0.out HS1.out) (Mv.wide (G := fun b => b = g ∨ b = w.heap.size + 1 ∨ b = (w1.heap.size + 2)) hMW (fun b k => Or.inr k))).other b hl (by intro hk; (try simp at hb); have hk : b = g ∨ b = w.heap.size + 1 ∨ b = (w1.heap.size + 2) := hk; omega), by (try simp at hb); show (((base ≤ b ∧ b ≠ ex) ∧ b < w.heap.size) ∨ b = w1.heap.size + 1 ∨ w2.heap.size ≤ b) ∧ b ≠ w1.heap.size + 1; omega⟩)) (.cons (HXO.out.2.stay (w' := W) (fun b hb hl => ⟨(mvt (mvt HS0.out HS1.out) (Mv.wide (G := fun b => b = g ∨ b = w.heap.size + 1 ∨ b = (w1.heap.size + 2)) hMW (fun b k => Or.inr k))).other b hl (by intro hk; (try simp at hb); have hk : b = g ∨ b = w.heap.size + 1 ∨ b = (w1.heap.size + 2) := hk; omega), by (try simp at hb); show (((base ≤ b ∧ b ≠ ex) ∧ b < w.heap.size) ∨ b = w1.heap.size + 1 ∨ w2.heap.size ≤ b) ∧ b ≠ w1.heap.size + 1; omega⟩)) (.cons (X.a _ _ _) .nil))))))
      have HMW := hide hMW
      have HLF := hide hLF
      have HQW := hide (HQ2.out.mv hMW (fun b hb => by have hb : b = w.heap.size + 1 ∨ b = (w1.heap.size + 2) := hb; omega))
      have hgW := HQW.out.lt
      have hWz := hMW.size
      clear hMW hLF hW
      have HRB := hide hRB
      have hrz := hRB.lt
      clear hRB
      have HLB0 := hide hLB0
      have hLz0 := hLB0.lt
      clear hLB0
      have HLB1 := hide hLB1
      have hLz1 := hLB1.lt
      clear hLB1
      obtain ⟨Ph, hPhE⟩ : ∃ Ph : Phase, Ph = (fun i vs wz => (i < 2 → MvR g W wz) ∧ match i with | 0 => Q wz g lo en dp st.tail | _ => False) := ⟨_, rfl⟩
      refine wp_region_F (by kernel_rfl) [some 20, some 21, some 22, some 23, some 24, some 25, some 26, some 27, none] [none, none, none, none, none, none, none, none, none, none, none, none, none, none, none, none, none, none, none, none, some 20, some 21, some 22, some 23, some 24, some 25, some 26, some 27] (fun U => by kernel_rfl) [fun u => u = (.pointer (some ⟨w1.heap.size + 2, 2, none⟩)), fun u => u = (.slice (some ⟨w1.heap.size + 1, 0, none⟩) 1 1), fun u => u = (.pointer (some ⟨g, 0, none⟩)), fun u => u = (.pointer (some ⟨g, 0, none⟩)), fun u => u = (.func (.func 157) #[.pointer (some ⟨g, 0, none⟩)] #[]), fun _ => True, fun _ => True, fun u => u = (.pointer (some ⟨w1.heap.size + 2, 2, none⟩)), fun _ => True] (PC [(5, some 25), (6, some 26), (8, none)] Ph) (by kernel_rfl) (by decide) (by kernel_rfl) (by kernel_rfl) (fun U => PC.start (by rw [hPhE]; exact ⟨fun _ => Sat.Mv.below (Below.refl _ _).drew, HQW.out.below (Below.refl _ _).drew⟩)) ?_ ?_
      · refine StepsF.run rfl ?_ ?_
        · intro L U wr hC hP hlk hcl haf A K hFm hK
          clear haf
          have e6 : A.tmps[6]? = some (.pointer (some ⟨w1.heap.size + 2, 0, none⟩)) := (hFm.old 6 (by decide)).trans (by kernel_rfl)
          have HC9 := hide hC
          clear hC
          refine ⟨?_⟩
          go_simp
          exact hK _ _ rfl (HC9.out.read (by decide) (by decide))
        refine StepsF.run rfl ?_ ?_
        · intro L U wr hC hP hlk hcl haf A K hFm hK
          simp [Aft, Region.binds] at haf
          have e20 : A.tmps[20]? = some (.pointer (some ⟨w1.heap.size + 2, 2, none⟩)) := hFm.is 0 20 rfl (hP 0 20 (by simp [haf]) rfl)
          have hkb : L 6 = false := by cases h : L 6 with | false => rfl | true => have h9 := hcl 6 _ rfl h; simp [Aft, Region.binds, hlk] at h9
          obtain ⟨iz, vz, hiz, hPz⟩ := hC.at_ 1 (by decide) hkb
          rw [hPhE] at hPz
          have hMz : MvR g W wr := hPz.1 (by omega)
          clear hPz hiz
          have hLk := hMz.blk HLB1.out (by omega)
          obtain ⟨b9_0, b9_1, b9_2, b9_3, b9_4, f9_0, f9_1, f9_2, f9_3, f9_4⟩ := bk5 hLk
          clear hLk
          have HC9 := hide hC
          clear hC hMz
          refine ⟨?_⟩
          go_simp
          exact hK _ _ rfl (HC9.out.read (by decide) (by decide))
        refine StepsF.run rfl ?_ ?_
        · intro L U wr hC hP hlk hcl haf A K hFm hK
          clear haf
          have e0 : A.tmps[0]? = some (.pointer (some ⟨g, 0, none⟩)) := (hFm.old 0 (by decide)).trans (by kernel_rfl)
          have HC9 := hide hC
          clear hC
          refine ⟨?_⟩
          go_simp
          exact hK _ _ rfl (HC9.out.read (by decide) (by decide))
        refine StepsF.run rfl ?_ ?_
        · intro L U wr hC hP hlk hcl haf A K hFm hK
          clear haf
          have e0 : A.tmps[0]? = some (.pointer (some ⟨g, 0, none⟩)) := (hFm.old 0 (by decide)).trans (by kernel_rfl)
          have HC9 := hide hC
          clear hC
          refine ⟨?_⟩
          go_simp
          exact hK _ _ rfl (HC9.out.read (by decide) (by decide))
        refine StepsF.run rfl ?_ ?_
        · intro L U wr hC hP hlk hcl haf A K hFm hK
          simp [Aft, Region.binds] at haf
          have e23 : A.tmps[23]? = some (.pointer (some ⟨g, 0, none⟩)) := hFm.is 3 23 rfl (hP 3 23 (by simp [haf]) rfl)
          have HC9 := hide hC
          clear hC
          refine ⟨?_⟩
          go_simp
          exact hK _ _ rfl (HC9.out.read (by decide) (by decide))
        refine StepsF.run rfl ?_ ?_
        · intro L U wr hC hP hlk hcl haf A K hFm hK
          simp [Aft, Region.binds] at haf
          obtain ⟨vs, hvs, hPh, hnx⟩ := hC.step 0 (by decide) hlk (Or.inl rfl) (by decide) (by decide)
          rw [hPhE] at hPh
          have e22 : A.tmps[22]? = some (.pointer (some ⟨g, 0, none⟩)) := hFm.is 2 22 rfl (hP 2 22 (by simp [haf]) rfl)
          have e24 : A.tmps[24]? = some (.func (.func 157) #[.pointer (some ⟨g, 0, none⟩)] #[]) := hFm.is 4 24 rfl (hP 4 24 (by simp [haf]) rfl)
          clear hC
          refine ⟨?_⟩
          have HPh := hide hPh
          have Hnx := hide hnx
          clear hPh hnx
          go_simp
          refine (HC2.out wr HPh.out.2 (fun e => by cases e)).mono ?_
          rintro e w9 ⟨m9, rfl⟩
          obtain ⟨tm9, df9⟩ := A
          have hd9 : df9 = [] := hFm.def_
          subst hd9
          clear hFm hK
          go_simp
          refine ⟨rfl, ?_⟩
          rw [HRR.out]
          exact ⟨Mv.out (mvt (mvt HS0.out HS1.out) (seg HMW.out (MvR.to (HPh.out.1 (by decide)) m9))) (fun b hb => by have hb : b = g ∨ b = w.heap.size + 1 ∨ b = (w1.heap.size + 2) := hb; omega), rfl⟩
        refine StepsF.run rfl ?_ ?_
        · intro L U wr hC hP hlk hcl haf A K hFm hK
          simp [Aft, Region.binds] at haf
          obtain ⟨vs, hvs, hPh, hnx⟩ := hC.step 1 (by decide) hlk (Or.inr (by first | exact haf | exact haf.1 | exact haf.2 | simp [chN, haf])) (by decide) (by decide)
          rw [hPhE] at hPh
          have e21 : A.tmps[21]? = some (.slice (some ⟨w1.heap.size + 1, 0, none⟩) 1 1) := hFm.is 1 21 rfl (hP 1 21 (by simp [haf]) rfl)
          have e25 : A.tmps[25]? = some (vs 0) := hFm.is 5 25 rfl (hvs 0 25 (by decide) rfl)
          clear hC
          exact hPh.2.elim
        refine StepsF.run rfl ?_ ?_
        · intro L U wr hC hP hlk hcl haf A K hFm hK
          clear haf
          have e6 : A.tmps[6]? = some (.pointer (some ⟨w1.heap.size + 2, 0, none⟩)) := (hFm.old 6 (by decide)).trans (by kernel_rfl)
          have HC9 := hide hC
          clear hC
          refine ⟨?_⟩
          go_simp
          exact hK _ _ rfl (HC9.out.read (by decide) (by decide))
        refine StepsF.run rfl ?_ StepsF.nil
        · intro L U wr hC hP hlk hcl haf A K hFm hK
          simp [Aft, Region.binds] at haf
          obtain ⟨vs, hvs, hPh, hnx⟩ := hC.step 2 (by decide) hlk (Or.inr (by first | exact haf | exact haf.1 | exact haf.2 | simp [chN, haf])) (by decide) (by decide)
          rw [hPhE] at hPh
          have e26 : A.tmps[26]? = some (vs 1) := hFm.is 6 26 rfl (hvs 1 26 (by decide) rfl)
          have e27 : A.tmps[27]? = some (.pointer (some ⟨w1.heap.size + 2, 2, none⟩)) := hFm.is 7 27 rfl (hP 7 27 (by simp [haf]) rfl)
          clear hC
          exact hPh.2.elim
      intro L U2 w3 hall hC hP
      obtain ⟨vs, hvs, hPh⟩ := hC.fin (by decide) (hall 8 (by decide))
      rw [hPhE] at hPh
      clear hPhE hC hP hall
      simp only [setM_some, setM_none, setM_nil]
      exact hPh.2.elim
    | ok r2 s2 =>
      try simp only [Res.to_ok] at hRR
      have Hx0 := hide x0
      clear x0
      have Hx1 := hide x1
      clear x1
      have HRR := hide hRR
      clear hRR
      go_enter Tryz.func193, Tryz.ntmps193
      go_wp2_with fail
      refine (step_q (fun b => b = w.heap.size + 1) (wk := w) ?_ HQ0.out (fun b hb => by have hb : b = w.heap.size + 1 := hb; omega) (fun wz qz => name_q wz g lo en dp st qz)).mono ?_
      · (repeat' (first | with_reducible exact Sat.Mv.refl _ _ | with_reducible refine Sat.Mv.alloc ?_ _ | with_reducible refine Sat.Mv.drew ?_ | with_reducible refine Sat.Mv.drewN ?_ _ | with_reducible refine Sat.Mv.set ?_ ?_ _)) <;> (first | exact Or.inl (Or.inl rfl) | exact Or.inl (Or.inr rfl) | exact Or.inl rfl | (refine Or.inr ?_; (try simp); omega) | (refine Or.inl ?_; (try simp); omega))
      rintro e w1 ⟨⟨m2, ⟨-, rfl, q2⟩ | ⟨hno, -⟩⟩, sg⟩
      case inr => exact absurd Hx0.out hno
      have z0 := m2.size
      try simp at z0
      have HS0 := hide (seg sg m2)
      have HQ1 := hide q2
      replace HS0 := hide (Mv.wide (G := fun b => b = g ∨ b = w.heap.size + 1 ∨ b = (w1.heap.size + 2)) HS0.out (fun b hb => by have hb : b = g ∨ b = w.heap.size + 1 := hb; show b = g ∨ b = w.heap.size + 1 ∨ b = (w1.heap.size + 2); omega))
      have hB : Blk 49 w1 (w.heap.size + 1) #[.string ByteArray.empty, .string ByteArray.empty, .slice none 0 0, .slice none 0 0, .int .i64 0] := m2.blk (by (repeat' (first | exact blk_new1 _ _ _ _ | with_reducible refine Blk.alloc ?_ _ | with_reducible refine Blk.drewN ?_ _ | with_reducible refine Blk.other ?_ ?_ _)) <;> (first | (simp; omega) | simp | omega)) (by omega)
      have HB := hide hB
      clear hB
      have hL : Blk 49 w1 (w.heap.size) #[.string (tx opO), .string (tx nmO), .slice qAO argsO.length cAO, .slice qBO tysO.length cBO, .int .i64 (pO : Nat)] := m2.blk (by (repeat' (first | with_reducible exact alloc2_blk _ (.cells #[] 0 (0, 0)) _ _ _ _ | with_reducible refine Blk.alloc ?_ _ | with_reducible refine Blk.drewN ?_ _ | with_reducible refine Blk.other ?_ ?_ _ | exact alloc2_blk _ (.cells #[] 0 (0, 0)) _ _ _ _)) <;> (first | (simp; omega) | simp | omega)) (by omega)
      have HL2 := hide hL
      clear hL
      obtain ⟨l2_0, l2_1, l2_2, l2_3, l2_4, f2_0, f2_1, f2_2, f2_3, f2_4⟩ := bk5 HL2.out
      have hLl2 := HL2.out.lt
      clear m2 q2 sg
      simp only [TV]
      have F10 := fun w => field_text (tx (Syn.hd en st).x) (Syn.hd en st).k (Syn.hd en st).a w
      have F20 := fun w => field_place (tx (Syn.hd en st).x) (Syn.hd en st).k (Syn.hd en st).a w
      go_wp2_with fail
      refine (step_sees (fun b => b = w.heap.size + 1 ∨ b = (w1.heap.size + 2)) ([40] : List UInt8) (wk := w1) ?_ HQ1.out (fun b hb => by have hb : b = w.heap.size + 1 ∨ b = (w1.heap.size + 2) := hb; omega) ?_).mono ?_
      · (repeat' (first | with_reducible exact Sat.Mv.refl _ _ | with_reducible refine Sat.Mv.alloc ?_ _ | with_reducible refine Sat.Mv.drew ?_ | with_reducible refine Sat.Mv.drewN ?_ _ | with_reducible refine Sat.Mv.set ?_ ?_ _)) <;> (first | exact Or.inl (Or.inl rfl) | exact Or.inl (Or.inr rfl) | exact Or.inl rfl | (refine Or.inr ?_; (try simp); omega) | (refine Or.inl ?_; (try simp); omega))
      · first | exact heap_alloc_new _ _ | exact new_at1 _ _ _ | exact new_at2 _ _ _ _ | exact new_at3 _ _ _ _ _ | (simp only [World.size_setCell]; exact heap_alloc_new _ _)
      rintro e w2 ⟨⟨he, b2⟩, sg⟩
      rw [decide_eq_true Hx1.out] at he
      subst he
      have m2 : MvR g _ w2 := Sat.Mv.below b2
      have q2 : Q w2 g lo en dp st.tail := (HQ1.out.mv sg (fun b hb => by have hb : b = w.heap.size + 1 ∨ b = (w1.heap.size + 2) := hb; omega)).below b2
      have z1 := m2.size
      try simp at z1
      have HS1 := hide (seg sg m2)
      have HQ2 := hide q2
      have hB : Blk 49 w2 (w.heap.size + 1) #[.string ByteArray.empty, .string ByteArray.empty, .slice none 0 0, .slice none 0 0, .int .i64 0] := m2.blk (by (repeat' (first | with_reducible exact HB.out | with_reducible refine Blk.alloc ?_ _ | with_reducible refine Blk.drewN ?_ _ | with_reducible refine Blk.other ?_ ?_ _ | exact HB.out)) <;> (first | (simp; omega) | simp | omega)) (by omega)
      clear HB
      have HB := hide hB
      clear hB
      have hL : Blk 49 w2 (w1.heap.size + 1) #[.string (tx opO), .string (tx nmO), .slice qAO argsO.length cAO, .slice qBO tysO.length cBO, .int .i64 (pO : Nat)] := m2.blk (by (repeat' (first | exact blk_new1 _ _ _ _ | with_reducible refine Blk.alloc ?_ _ | with_reducible refine Blk.drewN ?_ _ | with_reducible refine Blk.other ?_ ?_ _)) <;> (first | (simp; omega) | simp | omega)) (by omega)
      have HL0 := hide hL
      clear hL
      obtain ⟨l0_0, l0_1, l0_2, l0_3, l0_4, f0_0, f0_1, f0_2, f0_3, f0_4⟩ := bk5 HL0.out
      have hL : Blk 49 w2 (w1.heap.size + 2) #[.string { data := #[102, 105, 101, 108, 100] }, .string (tx (Syn.hd en st).x), .slice (some ⟨w1.heap.size + 1, 0, none⟩) 1 1, .slice none 0 0, .int .i64 ((Syn.hd en st).a : Nat)] := m2.blk (by (repeat' (first | exact blk_new2 _ _ _ _ _ | with_reducible refine Blk.alloc ?_ _ | with_reducible refine Blk.drewN ?_ _ | with_reducible refine Blk.other ?_ ?_ _)) <;> (first | (simp; omega) | simp | omega)) (by omega)
      have HL1 := hide hL
      clear hL
      obtain ⟨l1_0, l1_1, l1_2, l1_3, l1_4, f1_0, f1_1, f1_2, f1_3, f1_4⟩ := bk5 HL1.out
      have hL : Blk 49 w2 (w.heap.size) #[.string (tx opO), .string (tx nmO), .slice qAO argsO.length cAO, .slice qBO tysO.length cBO, .int .i64 (pO : Nat)] := m2.blk (by (repeat' (first | with_reducible exact HL2.out | with_reducible refine Blk.alloc ?_ _ | with_reducible refine Blk.drewN ?_ _ | with_reducible refine Blk.other ?_ ?_ _ | exact HL2.out)) <;> (first | (simp; omega) | simp | omega)) (by omega)
      clear HL2 l2_0 l2_1 l2_2 l2_3 l2_4 f2_0 f2_1 f2_2 f2_3 f2_4
      have HL2 := hide hL
      clear hL
      obtain ⟨l2_0, l2_1, l2_2, l2_3, l2_4, f2_0, f2_1, f2_2, f2_3, f2_4⟩ := bk5 HL2.out
      clear hLl2
      have hLl2 := HL2.out.lt
      clear m2 q2 sg b2
      go_wp2_with fail
      refine region_at ?_
      intro W hW
      have hMW : Sat.Mv (fun b => b = w.heap.size + 1 ∨ b = (w1.heap.size + 2)) w2 W := by rw [hW]; (repeat' (first | with_reducible exact Sat.Mv.refl _ _ | with_reducible refine Sat.Mv.alloc ?_ _ | with_reducible refine Sat.Mv.drew ?_ | with_reducible refine Sat.Mv.drewN ?_ _ | with_reducible refine Sat.Mv.set ?_ ?_ _)) <;> (first | exact Or.inl (Or.inl rfl) | exact Or.inl (Or.inr rfl) | exact Or.inl rfl | (refine Or.inr ?_; (try simp); omega) | (refine Or.inl ?_; (try simp); omega))
      have hRB : Blk 49 W (w.heap.size + 1) #[.string ByteArray.empty, .string ByteArray.empty, .slice none 0 0, .slice none 0 0, .int .i64 0] := by rw [hW]; (repeat' (first | with_reducible exact HB.out | with_reducible refine Blk.alloc ?_ _ | with_reducible refine Blk.drewN ?_ _ | with_reducible refine Blk.other ?_ ?_ _ | exact HB.out)) <;> (first | (simp; omega) | simp | omega)
      have hLB0 : Blk 49 W (w1.heap.size + 1) #[.string (tx opO), .string (tx nmO), .slice qAO argsO.length cAO, .slice qBO tysO.length cBO, .int .i64 (pO : Nat)] := by rw [hW]; (repeat' (first | with_reducible exact HL0.out | with_reducible refine Blk.alloc ?_ _ | with_reducible refine Blk.drewN ?_ _ | with_reducible refine Blk.other ?_ ?_ _ | exact HL0.out)) <;> (first | (simp; omega) | simp | omega)
      have hLB1 : Blk 49 W (w1.heap.size + 2) #[.string { data := #[99, 97, 108, 108] }, .string (tx (Syn.hd en st).x), .slice (some ⟨w1.heap.size + 1, 0, none⟩) 1 1, .slice none 0 0, .int .i64 ((Syn.hd en st).a : Nat)] := by rw [hW]; (repeat' (first | with_reducible refine Blk.alloc ?_ _ | exact Blk.set (HL1.out) 0 _ | with_reducible refine Blk.drewN ?_ _ | with_reducible refine Blk.other ?_ ?_ _)) <;> (first | (simp; omega) | simp | omega)
      obtain ⟨C0, hLF⟩ := LF.ofX (X.ofBlk (s := 0) (F := fun b => (((base ≤ b ∧ b ≠ ex) ∧ b < w.heap.size) ∨ b = w1.heap.size + 1 ∨ w2.heap.size ≤ b)) (vs := [.string (tx opO), .string (tx nmO), .slice qAO argsO.length cAO, .slice qBO tysO.length cBO, .int .i64 (pO : Nat)]) (r := (exR opO nmO argsO tysO pO)) hLB0 rfl (by show (((base ≤ (w1.heap.size + 1) ∧ (w1.heap.size + 1) ≠ ex) ∧ (w1.heap.size + 1) < w.heap.size) ∨ (w1.heap.size + 1) = w1.heap.size + 1 ∨ w2.heap.size ≤ (w1.heap.size + 1)); omega) (.cons (X.s _ _ _) (.cons (X.s _ _ _) (.cons (HXO.out.1.stay (w' := W) (fun b hb hl => ⟨(mvt (mvt HS0.out HS1.out) (Mv.wide (G := fun b => b = g ∨ b = w.heap.size + 1 ∨ b = (w1.heap.size + 2)) hMW (fun b k => Or.inr k))).other b hl (by intro hk; (try simp at hb); have hk : b = g ∨ b = w.heap.size + 1 ∨ b = (w1.heap.size + 2) := hk; omega), by (try simp at hb); show (((base ≤ b ∧ b ≠ ex) ∧ b < w.heap.size) ∨ b = w1.heap.size + 1 ∨ w2.heap.size ≤ b) ∧ b ≠ w1.heap.size + 1; omega⟩)) (.cons (HXO.out.2.stay (w' := W) (fun b hb hl => ⟨(mvt (mvt HS0.out HS1.out) (Mv.wide (G := fun b => b = g ∨ b = w.heap.size + 1 ∨ b = (w1.heap.size + 2)) hMW (fun b k => Or.inr k))).other b hl (by intro hk; (try simp at hb); have hk : b = g ∨ b = w.heap.size + 1 ∨ b = (w1.heap.size + 2) := hk; omega), by (try simp at hb); show (((base ≤ b ∧ b ≠ ex) ∧ b < w.heap.size) ∨ b = w1.heap.size + 1 ∨ w2.heap.size ≤ b) ∧ b ≠ w1.heap.size + 1; omega⟩)) (.cons (X.a _ _ _) .nil))))))
      have HMW := hide hMW
      have HLF := hide hLF
      have HQW := hide (HQ2.out.mv hMW (fun b hb => by have hb : b = w.heap.size + 1 ∨ b = (w1.heap.size + 2) := hb; omega))
      have hgW := HQW.out.lt
      have hWz := hMW.size
      clear hMW hLF hW
      have HRB := hide hRB
      have hrz := hRB.lt
      clear hRB
      have HLB0 := hide hLB0
      have hLz0 := hLB0.lt
      clear hLB0
      have HLB1 := hide hLB1
      have hLz1 := hLB1.lt
      clear hLB1
      obtain ⟨Ph, hPhE⟩ : ∃ Ph : Phase, Ph = (fun i vs wz => (i < 2 → MvR g W wz) ∧ match i with | 0 => Q wz g lo en dp st.tail | 1 => ∃ rows2 qA2 cA2, r2 = [.l 0 rows2] ∧ vs 0 = .slice qA2 rows2.length cA2 ∧ MvR g W wz ∧ Q wz g lo en dp s2 ∧ X wz (fun b => W.heap.size ≤ b) (.slice qA2 rows2.length cA2) (.l 0 rows2) | 2 => ∃ rows2, r2 = [.l 0 rows2] ∧ ∃ (q9 : Option Addr) (n9 c9 : Nat) (C9 : Nat → List Value), n9 = ([(exR opO nmO argsO tysO pO)] : List (List V)).length + rows2.length ∧ vs 1 = .slice q9 n9 c9 ∧ LF wz (fun b => (((base ≤ b ∧ b ≠ ex) ∧ b < w.heap.size) ∨ b = w1.heap.size + 1 ∨ w2.heap.size ≤ b)) 0 (.slice q9 n9 c9) ([(exR opO nmO argsO tysO pO)] ++ rows2) C9 ∧ Sat.Mv (fun b => b = g ∨ (b = w1.heap.size + 1 ∨ w2.heap.size ≤ b)) W wz ∧ Q wz g lo en dp s2 | _ => ∃ rows2, r2 = [.l 0 rows2] ∧ ∃ (q9 : Option Addr) (n9 c9 : Nat) (C9 : Nat → List Value), n9 = ([(exR opO nmO argsO tysO pO)] : List (List V)).length + rows2.length ∧ LF wz (fun b => (((base ≤ b ∧ b ≠ ex) ∧ b < w.heap.size) ∨ b = w1.heap.size + 1 ∨ w2.heap.size ≤ b)) 0 (.slice q9 n9 c9) ([(exR opO nmO argsO tysO pO)] ++ rows2) C9 ∧ Sat.Mv (fun b => b = g ∨ b = w1.heap.size + 2 ∨ (b = w1.heap.size + 1 ∨ w2.heap.size ≤ b)) W wz ∧ Q wz g lo en dp s2 ∧ Blk 49 wz (w1.heap.size + 2) #[.string { data := #[99, 97, 108, 108] }, .string (tx (Syn.hd en st).x), .slice q9 n9 c9, .slice none 0 0, .int .i64 ((Syn.hd en st).a : Nat)]) := ⟨_, rfl⟩
      refine wp_region_F (by kernel_rfl) [some 20, some 21, some 22, some 23, some 24, some 25, some 26, some 27, none] [none, none, none, none, none, none, none, none, none, none, none, none, none, none, none, none, none, none, none, none, some 20, some 21, some 22, some 23, some 24, some 25, some 26, some 27] (fun U => by kernel_rfl) [fun u => u = (.pointer (some ⟨w1.heap.size + 2, 2, none⟩)), fun u => u = (.slice (some ⟨w1.heap.size + 1, 0, none⟩) 1 1), fun u => u = (.pointer (some ⟨g, 0, none⟩)), fun u => u = (.pointer (some ⟨g, 0, none⟩)), fun u => u = (.func (.func 157) #[.pointer (some ⟨g, 0, none⟩)] #[]), fun _ => True, fun _ => True, fun u => u = (.pointer (some ⟨w1.heap.size + 2, 2, none⟩)), fun _ => True] (PC [(5, some 25), (6, some 26), (8, none)] Ph) (by kernel_rfl) (by decide) (by kernel_rfl) (by kernel_rfl) (fun U => PC.start (by rw [hPhE]; exact ⟨fun _ => Sat.Mv.below (Below.refl _ _).drew, HQW.out.below (Below.refl _ _).drew⟩)) ?_ ?_
      · refine StepsF.run rfl ?_ ?_
        · intro L U wr hC hP hlk hcl haf A K hFm hK
          clear haf
          have e6 : A.tmps[6]? = some (.pointer (some ⟨w1.heap.size + 2, 0, none⟩)) := (hFm.old 6 (by decide)).trans (by kernel_rfl)
          have HC9 := hide hC
          clear hC
          refine ⟨?_⟩
          go_simp
          exact hK _ _ rfl (HC9.out.read (by decide) (by decide))
        refine StepsF.run rfl ?_ ?_
        · intro L U wr hC hP hlk hcl haf A K hFm hK
          simp [Aft, Region.binds] at haf
          have e20 : A.tmps[20]? = some (.pointer (some ⟨w1.heap.size + 2, 2, none⟩)) := hFm.is 0 20 rfl (hP 0 20 (by simp [haf]) rfl)
          have hkb : L 6 = false := by cases h : L 6 with | false => rfl | true => have h9 := hcl 6 _ rfl h; simp [Aft, Region.binds, hlk] at h9
          obtain ⟨iz, vz, hiz, hPz⟩ := hC.at_ 1 (by decide) hkb
          rw [hPhE] at hPz
          have hMz : MvR g W wr := hPz.1 (by omega)
          clear hPz hiz
          have hLk := hMz.blk HLB1.out (by omega)
          obtain ⟨b9_0, b9_1, b9_2, b9_3, b9_4, f9_0, f9_1, f9_2, f9_3, f9_4⟩ := bk5 hLk
          clear hLk
          have HC9 := hide hC
          clear hC hMz
          refine ⟨?_⟩
          go_simp
          exact hK _ _ rfl (HC9.out.read (by decide) (by decide))
        refine StepsF.run rfl ?_ ?_
        · intro L U wr hC hP hlk hcl haf A K hFm hK
          clear haf
          have e0 : A.tmps[0]? = some (.pointer (some ⟨g, 0, none⟩)) := (hFm.old 0 (by decide)).trans (by kernel_rfl)
          have HC9 := hide hC
          clear hC
          refine ⟨?_⟩
          go_simp
          exact hK _ _ rfl (HC9.out.read (by decide) (by decide))
        refine StepsF.run rfl ?_ ?_
        · intro L U wr hC hP hlk hcl haf A K hFm hK
          clear haf
          have e0 : A.tmps[0]? = some (.pointer (some ⟨g, 0, none⟩)) := (hFm.old 0 (by decide)).trans (by kernel_rfl)
          have HC9 := hide hC
          clear hC
          refine ⟨?_⟩
          go_simp
          exact hK _ _ rfl (HC9.out.read (by decide) (by decide))
        refine StepsF.run rfl ?_ ?_
        · intro L U wr hC hP hlk hcl haf A K hFm hK
          simp [Aft, Region.binds] at haf
          have e23 : A.tmps[23]? = some (.pointer (some ⟨g, 0, none⟩)) := hFm.is 3 23 rfl (hP 3 23 (by simp [haf]) rfl)
          have HC9 := hide hC
          clear hC
          refine ⟨?_⟩
          go_simp
          exact hK _ _ rfl (HC9.out.read (by decide) (by decide))
        refine StepsF.run rfl ?_ ?_
        · intro L U wr hC hP hlk hcl haf A K hFm hK
          simp [Aft, Region.binds] at haf
          obtain ⟨vs, hvs, hPh, hnx⟩ := hC.step 0 (by decide) hlk (Or.inl rfl) (by decide) (by decide)
          rw [hPhE] at hPh
          have e22 : A.tmps[22]? = some (.pointer (some ⟨g, 0, none⟩)) := hFm.is 2 22 rfl (hP 2 22 (by simp [haf]) rfl)
          have e24 : A.tmps[24]? = some (.func (.func 157) #[.pointer (some ⟨g, 0, none⟩)] #[]) := hFm.is 4 24 rfl (hP 4 24 (by simp [haf]) rfl)
          clear hC
          refine ⟨?_⟩
          have HPh := hide hPh
          have Hnx := hide hnx
          clear hPh hnx
          go_simp
          refine (HC2.out wr HPh.out.2 (fun e => by cases e)).mono ?_
          rintro e w9 ⟨m9, q9, u, rfl, ⟨rows2, hr9, xA2⟩⟩
          obtain ⟨qA2, cA2, rfl⟩ := xA2.slice
          have m99 := MvR.to (HPh.out.1 (by decide)) m9
          have hz9 := (HPh.out.1 (by decide)).size
          go_simp
          exact hK _ _ trivial (Hnx.out _ _ (by rw [hPhE]; exact ⟨fun _ => m99, _, _, _, hr9, rfl, m99, q9, xA2.stay (fun b hb _ => ⟨rfl, Nat.le_trans hz9 hb⟩)⟩))
        refine StepsF.run rfl ?_ ?_
        · intro L U wr hC hP hlk hcl haf A K hFm hK
          simp [Aft, Region.binds] at haf
          obtain ⟨vs, hvs, hPh, hnx⟩ := hC.step 1 (by decide) hlk (Or.inr (by first | exact haf | exact haf.1 | exact haf.2 | simp [chN, haf])) (by decide) (by decide)
          rw [hPhE] at hPh
          have e21 : A.tmps[21]? = some (.slice (some ⟨w1.heap.size + 1, 0, none⟩) 1 1) := hFm.is 1 21 rfl (hP 1 21 (by simp [haf]) rfl)
          have e25 : A.tmps[25]? = some (vs 0) := hFm.is 5 25 rfl (hvs 0 25 (by decide) rfl)
          clear hC
          obtain ⟨h3, rows2, qA2, cA2, hr9, hv9, m9, q9, xA2⟩ := hPh
          rw [hv9] at e25
          obtain ⟨C2, o2, w2_, l2, x2⟩ := xA2.open
          have hcnt : rows2.length ≤ 65536 := Nat.le_trans (HP2.out r2 s2 rfl rows2 hr9) HQW.out.few
          have hlf := HLF.out.far m9 (fun b hb hl hk => by have hk : b = g := hk; have hb : (((base ≤ b ∧ b ≠ ex) ∧ b < w.heap.size) ∨ b = w1.heap.size + 1 ∨ w2.heap.size ≤ b) := hb; omega) (fun b k => k)
          have hown : ∀ b, (Value.ownBlock (.slice (some ⟨w1.heap.size + 1, 0, none⟩) 1 1)) = some b → b < W.heap.size := fun b hb => HLF.out.ol.lt hb
          have hown2 : ∀ b, (Value.ownBlock (.slice (some ⟨w1.heap.size + 1, 0, none⟩) 1 1)) = some b → (b = w1.heap.size + 1 ∨ w2.heap.size ≤ b) := fun b hb => Or.inl (by simpa [Value.ownBlock, eq_comm] using hb)
          have hz9 := m9.size
          refine ⟨?_⟩
          refine Euf.wp_append_list (.tmp 21) (.tmp 25) 45 rfl 5 49 _ 88 uE_list iE_elem (by decide) rfl (by decide) (.slice (some ⟨w1.heap.size + 1, 0, none⟩) 1 1) ([(exR opO nmO argsO tysO pO)] : List (List V)).length C0 (by simp [Act.eval, e21]) hlf.ol hlf.len (.slice qA2 rows2.length cA2) rows2.length C2 (by simp [Act.eval, e25]) o2 l2 (flat_ones rows2 C2 x2) (by show [_].length + _ ≤ _; simp; omega) (fun k => if k < ([(exR opO nmO argsO tysO pO)] : List (List V)).length then C0 k else C2 (k - ([(exR opO nmO argsO tysO pO)] : List (List V)).length)) (fun k hk => by show (if _ then _ else _) = _; rw [if_pos hk]) (fun k hk => by show (if _ then _ else _) = _; rw [if_neg (by omega)]; congr 1; omega) ?_
          intro v9 w9 hol9 hap9
          have hlf9 := LF.cat (F' := (fun b => (((base ≤ b ∧ b ≠ ex) ∧ b < w.heap.size) ∨ b = w1.heap.size + 1 ∨ w2.heap.size ≤ b))) (C2 := C2) hlf (fun b => W.heap.size ≤ b) l2 (fun k hk => (x2 k hk).stay (fun b k _ => ⟨rfl, k.1⟩)) hol9 (fun k hk => by show (if _ then _ else _) = _; rw [if_pos hk]) (fun k hk => by show (if _ then _ else _) = _; rw [if_neg (by omega)]; congr 1; omega) hap9 (fun b k => k) (fun b hb => ⟨by have hb : W.heap.size ≤ b := hb; show (((base ≤ b ∧ b ≠ ex) ∧ b < w.heap.size) ∨ b = w1.heap.size + 1 ∨ w2.heap.size ≤ b); omega, fun k => by have := hown b k; have hb : W.heap.size ≤ b := hb; omega⟩) (fun b hb => by show (((base ≤ b ∧ b ≠ ex) ∧ b < w.heap.size) ∨ b = w1.heap.size + 1 ∨ w2.heap.size ≤ b); omega)
          obtain ⟨q9v, c9v, rfl⟩ := hlf9.shape
          have hm9 : Sat.Mv (fun b => b = g ∨ (b = w1.heap.size + 1 ∨ w2.heap.size ≤ b)) W w9 := Mv.appF (F := fun b => (b = w1.heap.size + 1 ∨ w2.heap.size ≤ b)) m9 hown2 hap9
          have hq9 := Q.mv q9 (Sat.Mv.app (F := fun b => (b = w1.heap.size + 1 ∨ w2.heap.size ≤ b)) (Sat.Mv.refl _ wr) hap9 (fun b hb => Or.inl (hown2 b hb))) (fun b hb => by have hb : (b = w1.heap.size + 1 ∨ w2.heap.size ≤ b) := hb; omega)
          obtain ⟨n9v, hn9⟩ : ∃ n9v, n9v = ([(exR opO nmO argsO tysO pO)] ++ rows2).length := ⟨_, rfl⟩
          rw [← hn9] at hlf9 ⊢
          exact hK _ _ trivial (hnx _ _ (by rw [hPhE]; exact ⟨(fun h => absurd h (by decide)), _, hr9, q9v, n9v, c9v, _, by rw [hn9]; simp <;> omega, rfl, hlf9, hm9, hq9⟩))
        refine StepsF.run rfl ?_ ?_
        · intro L U wr hC hP hlk hcl haf A K hFm hK
          clear haf
          have e6 : A.tmps[6]? = some (.pointer (some ⟨w1.heap.size + 2, 0, none⟩)) := (hFm.old 6 (by decide)).trans (by kernel_rfl)
          have HC9 := hide hC
          clear hC
          refine ⟨?_⟩
          go_simp
          exact hK _ _ rfl (HC9.out.read (by decide) (by decide))
        refine StepsF.run rfl ?_ StepsF.nil
        · intro L U wr hC hP hlk hcl haf A K hFm hK
          simp [Aft, Region.binds] at haf
          obtain ⟨vs, hvs, hPh, hnx⟩ := hC.step 2 (by decide) hlk (Or.inr (by first | exact haf | exact haf.1 | exact haf.2 | simp [chN, haf])) (by decide) (by decide)
          rw [hPhE] at hPh
          have e26 : A.tmps[26]? = some (vs 1) := hFm.is 6 26 rfl (hvs 1 26 (by decide) rfl)
          have e27 : A.tmps[27]? = some (.pointer (some ⟨w1.heap.size + 2, 2, none⟩)) := hFm.is 7 27 rfl (hP 7 27 (by simp [haf]) rfl)
          clear hC
          obtain ⟨h3, rows2, hr9, q9v, n9v, c9v, C9, hn9, hv9, hlf9, hm9, hq9⟩ := hPh
          rw [hv9] at e26
          have hb9 : Blk 49 wr (w1.heap.size + 2) #[.string { data := #[99, 97, 108, 108] }, .string (tx (Syn.hd en st).x), .slice (some ⟨w1.heap.size + 1, 0, none⟩) 1 1, .slice none 0 0, .int .i64 ((Syn.hd en st).a : Nat)] := (hm9.other _ hLz1 (fun hk => by have hk : w1.heap.size + 2 = g ∨ ((w1.heap.size + 2) = w1.heap.size + 1 ∨ w2.heap.size ≤ (w1.heap.size + 2)) := hk; omega)).trans HLB1.out
          obtain ⟨b9_0, b9_1, b9_2, b9_3, b9_4, f9_0, f9_1, f9_2, f9_3, f9_4⟩ := bk5 hb9
          have HZ := hide (And.intro hr9 (And.intro hn9 (And.intro hlf9 (And.intro hm9 (And.intro hq9 hb9)))))
          have Hnx := hide hnx
          have hl9 := hb9.lt
          clear h3 hr9 hn9 hlf9 hm9 hq9 hb9 hnx hv9
          refine ⟨?_⟩
          go_simp
          exact hK undef _ trivial (Hnx.out undef _ (by rw [hPhE]; exact ⟨(fun h => absurd h (by decide)), _, HZ.out.1, q9v, n9v, c9v, C9, HZ.out.2.1, HZ.out.2.2.1.far (Sat.Mv.set (F := fun b => b = w1.heap.size + 2) (Sat.Mv.refl _ wr) (Or.inl rfl) _) (fun b hb hl hk => by have hk : b = w1.heap.size + 2 := hk; have hb : (((base ≤ b ∧ b ≠ ex) ∧ b < w.heap.size) ∨ b = w1.heap.size + 1 ∨ w2.heap.size ≤ b) := hb; omega) (fun b k => k), Sat.Mv.set (Mv.wide HZ.out.2.2.2.1 (fun b hb => by have hb : b = g ∨ (b = w1.heap.size + 1 ∨ w2.heap.size ≤ b) := hb; show b = g ∨ b = w1.heap.size + 2 ∨ (b = w1.heap.size + 1 ∨ w2.heap.size ≤ b); omega)) (Or.inl (Or.inr (Or.inl rfl))) _, HZ.out.2.2.2.2.1.set (by show lo ≤ w1.heap.size + 2; omega) _, Blk.set HZ.out.2.2.2.2.2 2 _⟩))
      intro L U2 w3 hall hC hP
      obtain ⟨vs, hvs, hPh⟩ := hC.fin (by decide) (hall 8 (by decide))
      rw [hPhE] at hPh
      clear hPhE hC hP hall
      simp only [setM_some, setM_none, setM_nil]
      obtain ⟨-, rows2, rfl, qL2, nL2, cL2, CL2, hn2, hlf9, hm9, hq9, hb9⟩ := hPh
      have HN2 := hide hn2
      clear hn2
      have z2 : w2.heap.size ≤ w3.heap.size := Nat.le_trans HMW.out.size hm9.size
      clear HLF
      have HLF := hide hlf9
      have HQ3 := hide hq9
      replace HS0 := hide (Mv.wide (G := fun b => b = g ∨ b = w.heap.size + 1 ∨ b = (w1.heap.size + 2) ∨ (b = w1.heap.size + 1 ∨ w2.heap.size ≤ b)) HS0.out (fun b hb => by have hb : b = g ∨ b = w.heap.size + 1 ∨ b = (w1.heap.size + 2) := hb; show b = g ∨ b = w.heap.size + 1 ∨ b = (w1.heap.size + 2) ∨ (b = w1.heap.size + 1 ∨ w2.heap.size ≤ b); omega))
      replace HS1 := hide (Mv.wide (G := fun b => b = g ∨ b = w.heap.size + 1 ∨ b = (w1.heap.size + 2) ∨ (b = w1.heap.size + 1 ∨ w2.heap.size ≤ b)) HS1.out (fun b hb => by have hb : b = g ∨ b = w.heap.size + 1 ∨ b = (w1.heap.size + 2) := hb; show b = g ∨ b = w.heap.size + 1 ∨ b = (w1.heap.size + 2) ∨ (b = w1.heap.size + 1 ∨ w2.heap.size ≤ b); omega))
      have HS2 := hide (mvt (Mv.wide (G := fun b => b = g ∨ b = w.heap.size + 1 ∨ b = (w1.heap.size + 2) ∨ (b = w1.heap.size + 1 ∨ w2.heap.size ≤ b)) HMW.out (fun b hb => by have hb : b = w.heap.size + 1 ∨ b = (w1.heap.size + 2) := hb; show b = g ∨ b = w.heap.size + 1 ∨ b = (w1.heap.size + 2) ∨ (b = w1.heap.size + 1 ∨ w2.heap.size ≤ b); omega)) (Mv.wide hm9 (fun b hb => by have hb : b = g ∨ b = w1.heap.size + 2 ∨ (b = w1.heap.size + 1 ∨ w2.heap.size ≤ b) := hb; show b = g ∨ b = w.heap.size + 1 ∨ b = (w1.heap.size + 2) ∨ (b = w1.heap.size + 1 ∨ w2.heap.size ≤ b); omega)))
      have hB : Blk 49 w3 (w.heap.size + 1) #[.string ByteArray.empty, .string ByteArray.empty, .slice none 0 0, .slice none 0 0, .int .i64 0] := (hm9.other _ hrz (fun hk => by have hk : w.heap.size + 1 = g ∨ w.heap.size + 1 = w1.heap.size + 2 ∨ ((w.heap.size + 1) = w1.heap.size + 1 ∨ w2.heap.size ≤ (w.heap.size + 1)) := hk; omega)).trans HRB.out
      clear HRB hrz
      clear HB
      have HB := hide hB
      clear hB
      clear HL0 l0_0 l0_1 l0_2 l0_3 l0_4 f0_0 f0_1 f0_2 f0_3 f0_4
      clear HLB0 hLz0
      clear HL1 l1_0 l1_1 l1_2 l1_3 l1_4 f1_0 f1_1 f1_2 f1_3 f1_4
      have HL1 := hide hb9
      obtain ⟨l1_0, l1_1, l1_2, l1_3, l1_4, f1_0, f1_1, f1_2, f1_3, f1_4⟩ := bk5 HL1.out
      clear HLB1 hLz1
      clear HL2 l2_0 l2_1 l2_2 l2_3 l2_4 f2_0 f2_1 f2_2 f2_3 f2_4
      clear hm9 hq9 hlf9 hb9 hvs hgW hWz HMW HQW
      go_wp2_with ((show wpList _ _ _ _ _ _); refine store_blk rfl 49 (.tmp 4) (.tmp 28) rfl (w.heap.size + 1) _ rfl rfl 49 #[.string ByteArray.empty, .string ByteArray.empty, .slice none 0 0, .slice none 0 0, .int .i64 0] (by (repeat' (first | with_reducible exact HB.out | with_reducible refine Blk.alloc ?_ _ | with_reducible refine Blk.drewN ?_ _ | with_reducible refine Blk.other ?_ ?_ _ | exact HB.out)) <;> (first | (simp; omega) | simp | omega)) (by kernel_rfl) rfl rfl ?_; intro wf b2 m2; have HE := hide (show Sat.Mv (fun b => b = w.heap.size + 1 ∨ b = (w1.heap.size + 2)) w3 wf from mvt (by (repeat' (first | with_reducible exact Sat.Mv.refl _ _ | with_reducible refine Sat.Mv.alloc ?_ _ | with_reducible refine Sat.Mv.drew ?_ | with_reducible refine Sat.Mv.drewN ?_ _ | with_reducible refine Sat.Mv.set ?_ ?_ _)) <;> (first | exact Or.inl (Or.inl rfl) | exact Or.inl (Or.inr rfl) | exact Or.inl rfl | (refine Or.inr ?_; (try simp); omega) | (refine Or.inl ?_; (try simp); omega))) (Mv.wide m2 (fun b hb => Or.inl hb))); have HM := hide m2; obtain ⟨c0, c1, c2, c3, c4, k0, k1, k2, k3, k4⟩ := bk5 b2; clear m2 b2)
      refine bodyPost_ret (v := .agg #[.string { data := #[99, 97, 108, 108] }, .string (tx (Syn.hd en st).x), .slice qL2 nL2 cL2, .slice none 0 0, .int .i64 ((Syn.hd en st).a : Nat)]) (by simp [results, Tryz.results193, go_sem, c0, c1, c2, c3, c4]) rfl ?_
      rw [HRR.out]
      have HEp := HE
      clear HE
      have HE := hide (Mv.wide (G := fun b => b = w.heap.size + 1 ∨ b = (w1.heap.size + 2) ∨ (b = w1.heap.size + 1 ∨ w2.heap.size ≤ b)) HEp.out (fun b hb => by have hb : b = w.heap.size + 1 ∨ b = (w1.heap.size + 2) := hb; show b = w.heap.size + 1 ∨ b = (w1.heap.size + 2) ∨ (b = w1.heap.size + 1 ∨ w2.heap.size ≤ b); omega))
      exact ans_finB (fun b => b = w.heap.size + 1 ∨ b = (w1.heap.size + 2) ∨ (b = w1.heap.size + 1 ∨ w2.heap.size ≤ b)) HE.out (mvt (mvt HS0.out HS1.out) HS2.out) (fun b hb => by have hb : b = g ∨ b = w.heap.size + 1 ∨ b = (w1.heap.size + 2) ∨ (b = w1.heap.size + 1 ∨ w2.heap.size ≤ b) := hb; omega) HQ3.out (fun b hb => by have hb : b = w.heap.size + 1 ∨ b = (w1.heap.size + 2) ∨ (b = w1.heap.size + 1 ∨ w2.heap.size ≤ b) := hb; omega) ⟨_, _, _, _, _, _, _, rfl, rfl, HLF.out.x.far (G := fun b => b = w.heap.size + 1 ∨ b = (w1.heap.size + 2)) HEp.out (fun b hb hl hk => by have hk : b = w.heap.size + 1 ∨ b = (w1.heap.size + 2) := hk; have hb : (((base ≤ b ∧ b ≠ ex) ∧ b < w.heap.size) ∨ b = w1.heap.size + 1 ∨ w2.heap.size ≤ b) := hb; omega) (fun b hb => by have hb : (((base ≤ b ∧ b ≠ ex) ∧ b < w.heap.size) ∨ b = w1.heap.size + 1 ∨ w2.heap.size ≤ b) := hb; show base ≤ b ∧ b ≠ ex; omega), X.nil _ _ _⟩
  rw [if_neg x1] at hRR
  try rw [decide_eq_false x1] at hRR
  have Hx0 := hide x0
  clear x0
  have Hx1 := hide x1
  clear x1
  have HRR := hide hRR
  clear hRR
  go_enter Tryz.func193, Tryz.ntmps193
  go_wp2_with fail
  refine (step_q (fun b => b = w.heap.size + 1) (wk := w) ?_ HQ0.out (fun b hb => by have hb : b = w.heap.size + 1 := hb; omega) (fun wz qz => name_q wz g lo en dp st qz)).mono ?_
  · (repeat' (first | with_reducible exact Sat.Mv.refl _ _ | with_reducible refine Sat.Mv.alloc ?_ _ | with_reducible refine Sat.Mv.drew ?_ | with_reducible refine Sat.Mv.drewN ?_ _ | with_reducible refine Sat.Mv.set ?_ ?_ _)) <;> (first | exact Or.inl (Or.inl rfl) | exact Or.inl (Or.inr rfl) | exact Or.inl rfl | (refine Or.inr ?_; (try simp); omega) | (refine Or.inl ?_; (try simp); omega))
  rintro e w1 ⟨⟨m2, ⟨-, rfl, q2⟩ | ⟨hno, -⟩⟩, sg⟩
  case inr => exact absurd Hx0.out hno
  have z0 := m2.size
  try simp at z0
  have HS0 := hide (seg sg m2)
  have HQ1 := hide q2
  replace HS0 := hide (Mv.wide (G := fun b => b = g ∨ b = w.heap.size + 1 ∨ b = (w1.heap.size + 2)) HS0.out (fun b hb => by have hb : b = g ∨ b = w.heap.size + 1 := hb; show b = g ∨ b = w.heap.size + 1 ∨ b = (w1.heap.size + 2); omega))
  have hB : Blk 49 w1 (w.heap.size + 1) #[.string ByteArray.empty, .string ByteArray.empty, .slice none 0 0, .slice none 0 0, .int .i64 0] := m2.blk (by (repeat' (first | exact blk_new1 _ _ _ _ | with_reducible refine Blk.alloc ?_ _ | with_reducible refine Blk.drewN ?_ _ | with_reducible refine Blk.other ?_ ?_ _)) <;> (first | (simp; omega) | simp | omega)) (by omega)
  have HB := hide hB
  clear hB
  have hL : Blk 49 w1 (w.heap.size) #[.string (tx opO), .string (tx nmO), .slice qAO argsO.length cAO, .slice qBO tysO.length cBO, .int .i64 (pO : Nat)] := m2.blk (by (repeat' (first | with_reducible exact alloc2_blk _ (.cells #[] 0 (0, 0)) _ _ _ _ | with_reducible refine Blk.alloc ?_ _ | with_reducible refine Blk.drewN ?_ _ | with_reducible refine Blk.other ?_ ?_ _ | exact alloc2_blk _ (.cells #[] 0 (0, 0)) _ _ _ _)) <;> (first | (simp; omega) | simp | omega)) (by omega)
  have HL2 := hide hL
  clear hL
  obtain ⟨l2_0, l2_1, l2_2, l2_3, l2_4, f2_0, f2_1, f2_2, f2_3, f2_4⟩ := bk5 HL2.out
  have hLl2 := HL2.out.lt
  clear m2 q2 sg
  simp only [TV]
  have F10 := fun w => field_text (tx (Syn.hd en st).x) (Syn.hd en st).k (Syn.hd en st).a w
  have F20 := fun w => field_place (tx (Syn.hd en st).x) (Syn.hd en st).k (Syn.hd en st).a w
  go_wp2_with fail
  refine (step_sees (fun b => b = w.heap.size + 1 ∨ b = (w1.heap.size + 2)) ([40] : List UInt8) (wk := w1) ?_ HQ1.out (fun b hb => by have hb : b = w.heap.size + 1 ∨ b = (w1.heap.size + 2) := hb; omega) ?_).mono ?_
  · (repeat' (first | with_reducible exact Sat.Mv.refl _ _ | with_reducible refine Sat.Mv.alloc ?_ _ | with_reducible refine Sat.Mv.drew ?_ | with_reducible refine Sat.Mv.drewN ?_ _ | with_reducible refine Sat.Mv.set ?_ ?_ _)) <;> (first | exact Or.inl (Or.inl rfl) | exact Or.inl (Or.inr rfl) | exact Or.inl rfl | (refine Or.inr ?_; (try simp); omega) | (refine Or.inl ?_; (try simp); omega))
  · first | exact heap_alloc_new _ _ | exact new_at1 _ _ _ | exact new_at2 _ _ _ _ | exact new_at3 _ _ _ _ _ | (simp only [World.size_setCell]; exact heap_alloc_new _ _)
  rintro e w2 ⟨⟨he, b2⟩, sg⟩
  rw [decide_eq_false Hx1.out] at he
  subst he
  have m2 : MvR g _ w2 := Sat.Mv.below b2
  have q2 : Q w2 g lo en dp st.tail := (HQ1.out.mv sg (fun b hb => by have hb : b = w.heap.size + 1 ∨ b = (w1.heap.size + 2) := hb; omega)).below b2
  have z1 := m2.size
  try simp at z1
  have HS1 := hide (seg sg m2)
  have HQ2 := hide q2
  have hB : Blk 49 w2 (w.heap.size + 1) #[.string ByteArray.empty, .string ByteArray.empty, .slice none 0 0, .slice none 0 0, .int .i64 0] := m2.blk (by (repeat' (first | with_reducible exact HB.out | with_reducible refine Blk.alloc ?_ _ | with_reducible refine Blk.drewN ?_ _ | with_reducible refine Blk.other ?_ ?_ _ | exact HB.out)) <;> (first | (simp; omega) | simp | omega)) (by omega)
  clear HB
  have HB := hide hB
  clear hB
  have hL : Blk 49 w2 (w1.heap.size + 1) #[.string (tx opO), .string (tx nmO), .slice qAO argsO.length cAO, .slice qBO tysO.length cBO, .int .i64 (pO : Nat)] := m2.blk (by (repeat' (first | exact blk_new1 _ _ _ _ | with_reducible refine Blk.alloc ?_ _ | with_reducible refine Blk.drewN ?_ _ | with_reducible refine Blk.other ?_ ?_ _)) <;> (first | (simp; omega) | simp | omega)) (by omega)
  have HL0 := hide hL
  clear hL
  obtain ⟨l0_0, l0_1, l0_2, l0_3, l0_4, f0_0, f0_1, f0_2, f0_3, f0_4⟩ := bk5 HL0.out
  have hL : Blk 49 w2 (w1.heap.size + 2) #[.string { data := #[102, 105, 101, 108, 100] }, .string (tx (Syn.hd en st).x), .slice (some ⟨w1.heap.size + 1, 0, none⟩) 1 1, .slice none 0 0, .int .i64 ((Syn.hd en st).a : Nat)] := m2.blk (by (repeat' (first | exact blk_new2 _ _ _ _ _ | with_reducible refine Blk.alloc ?_ _ | with_reducible refine Blk.drewN ?_ _ | with_reducible refine Blk.other ?_ ?_ _)) <;> (first | (simp; omega) | simp | omega)) (by omega)
  have HL1 := hide hL
  clear hL
  obtain ⟨l1_0, l1_1, l1_2, l1_3, l1_4, f1_0, f1_1, f1_2, f1_3, f1_4⟩ := bk5 HL1.out
  have hL : Blk 49 w2 (w.heap.size) #[.string (tx opO), .string (tx nmO), .slice qAO argsO.length cAO, .slice qBO tysO.length cBO, .int .i64 (pO : Nat)] := m2.blk (by (repeat' (first | with_reducible exact HL2.out | with_reducible refine Blk.alloc ?_ _ | with_reducible refine Blk.drewN ?_ _ | with_reducible refine Blk.other ?_ ?_ _ | exact HL2.out)) <;> (first | (simp; omega) | simp | omega)) (by omega)
  clear HL2 l2_0 l2_1 l2_2 l2_3 l2_4 f2_0 f2_1 f2_2 f2_3 f2_4
  have HL2 := hide hL
  clear hL
  obtain ⟨l2_0, l2_1, l2_2, l2_3, l2_4, f2_0, f2_1, f2_2, f2_3, f2_4⟩ := bk5 HL2.out
  clear hLl2
  have hLl2 := HL2.out.lt
  clear m2 q2 sg b2
  go_wp2_with ((show wpList _ _ _ _ _ _); refine store_blk rfl 49 (.tmp 4) (.tmp 28) rfl (w.heap.size + 1) _ rfl rfl 49 #[.string ByteArray.empty, .string ByteArray.empty, .slice none 0 0, .slice none 0 0, .int .i64 0] (by (repeat' (first | with_reducible exact HB.out | with_reducible refine Blk.alloc ?_ _ | with_reducible refine Blk.drewN ?_ _ | with_reducible refine Blk.other ?_ ?_ _ | exact HB.out)) <;> (first | (simp; omega) | simp | omega)) (by kernel_rfl) rfl rfl ?_; intro wf b2 m2; have HE := hide (show Sat.Mv (fun b => b = w.heap.size + 1 ∨ b = (w1.heap.size + 2)) w2 wf from mvt (by (repeat' (first | with_reducible exact Sat.Mv.refl _ _ | with_reducible refine Sat.Mv.alloc ?_ _ | with_reducible refine Sat.Mv.drew ?_ | with_reducible refine Sat.Mv.drewN ?_ _ | with_reducible refine Sat.Mv.set ?_ ?_ _)) <;> (first | exact Or.inl (Or.inl rfl) | exact Or.inl (Or.inr rfl) | exact Or.inl rfl | (refine Or.inr ?_; (try simp); omega) | (refine Or.inl ?_; (try simp); omega))) (Mv.wide m2 (fun b hb => Or.inl hb))); have HM := hide m2; obtain ⟨c0, c1, c2, c3, c4, k0, k1, k2, k3, k4⟩ := bk5 b2; clear m2 b2)
  refine bodyPost_ret (v := .agg #[.string { data := #[102, 105, 101, 108, 100] }, .string (tx (Syn.hd en st).x), .slice (some ⟨w1.heap.size + 1, 0, none⟩) 1 1, .slice none 0 0, .int .i64 ((Syn.hd en st).a : Nat)]) (by simp [results, Tryz.results193, go_sem, c0, c1, c2, c3, c4]) rfl ?_
  rw [HRR.out]
  exact ans_finB (fun b => b = w.heap.size + 1 ∨ b = (w1.heap.size + 2)) HE.out (mvt HS0.out HS1.out) (fun b hb => by have hb : b = g ∨ b = w.heap.size + 1 ∨ b = (w1.heap.size + 2) := hb; omega) HQ2.out (fun b hb => by have hb : b = w.heap.size + 1 ∨ b = (w1.heap.size + 2) := hb; omega) ⟨_, _, _, _, _, _, _, rfl, rfl, ((X.ofBlk (s := 0) (F := fun b => (base ≤ b ∧ b ≠ ex) ∧ b ≠ w.heap.size + 1 ∧ b ≠ w1.heap.size + 2) (vs := [.string (tx opO), .string (tx nmO), .slice qAO argsO.length cAO, .slice qBO tysO.length cBO, .int .i64 (pO : Nat)]) (r := (exR opO nmO argsO tysO pO)) HL0.out rfl (by show (base ≤ (w1.heap.size + 1) ∧ (w1.heap.size + 1) ≠ ex) ∧ w1.heap.size + 1 ≠ w.heap.size + 1 ∧ w1.heap.size + 1 ≠ w1.heap.size + 2; omega) (.cons (X.s _ _ _) (.cons (X.s _ _ _) (.cons (HXO.out.1.stay (fun b hb hl => ⟨(mvt HS0.out HS1.out).other b hl (by intro hk; (try simp at hb); have hk : b = g ∨ b = w.heap.size + 1 ∨ b = (w1.heap.size + 2) := hk; omega), by (try simp at hb); show ((base ≤ b ∧ b ≠ ex) ∧ b ≠ w.heap.size + 1 ∧ b ≠ w1.heap.size + 2) ∧ b ≠ w1.heap.size + 1; omega⟩)) (.cons (HXO.out.2.stay (fun b hb hl => ⟨(mvt HS0.out HS1.out).other b hl (by intro hk; (try simp at hb); have hk : b = g ∨ b = w.heap.size + 1 ∨ b = (w1.heap.size + 2) := hk; omega), by (try simp at hb); show ((base ≤ b ∧ b ≠ ex) ∧ b ≠ w.heap.size + 1 ∧ b ≠ w1.heap.size + 2) ∧ b ≠ w1.heap.size + 1; omega⟩)) (.cons (X.a _ _ _) .nil)))))).far (G := fun b => b = w.heap.size + 1 ∨ b = (w1.heap.size + 2)) HE.out (by intro b hb hl hk; have hk : b = w.heap.size + 1 ∨ b = (w1.heap.size + 2) := hk; have hb : (base ≤ b ∧ b ≠ ex) ∧ b ≠ w.heap.size + 1 ∧ b ≠ w1.heap.size + 2 := hb; omega) (fun b hb => hb.1)), X.nil _ _ _⟩
end Syn
end Go.Proofs.YtomldkljlbdnjaaGreat
