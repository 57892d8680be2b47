/- implied. No statement of the seat is proved here. -/
import Derived.Test.YtomldkljlbdnjaaGreatJoin12Binds
import Derived.Test.YtomldkljlbdnjaaGreatJoin13Binds
import Derived.Test.YtomldkljlbdnjaaGreatSynRgJBinds
import Derived.Shelf.RegionOpen
namespace Go.Proofs.YtomldkljlbdnjaaGreat
open Go.RowKit
attribute [local go_sem] Oper.semAt_some
set_option linter.unusedVariables false
set_option linter.unusedSimpArgs false
namespace Syn
open Euf (OL App Stop)
open Lex (T TL tx bs tkC FV IsNm hide)
def FR (w w2 w3 : World) (b : Nat) : Prop := w.heap.size + 1 ≤ b ∧ b ≠ w2.heap.size ∧ b ≠ w3.heap.size + 1 ∧ b ≠ w3.heap.size
def IRow (w w2 w3 : World) (ss : List (List V)) (sg : List T) (k : Nat) (W : World) (opR nmR : List UInt8) (argsR tysR : List (List V)) (pR : Nat) (qA : Option Addr) (cA : Nat) (qB : Option Addr) (cB : Nat) : Prop :=
  exR opR nmR argsR tysR pR = foldI (ss.drop (sg.length - k)) (sg.drop (sg.length - k)) ∧ Blk 49 W w2.heap.size #[.string (tx opR), .string (tx nmR), .slice qA argsR.length cA, .slice qB tysR.length cB, .int .i64 (pR : Nat)] ∧ X W (FR w w2 w3) (.slice qA argsR.length cA) (.l 0 argsR) ∧ X W (FR w w2 w3) (.slice qB tysR.length cB) (.l 1 tysR)
/-- The sign k from behind is next. -/
def ISt (w w2 w3 : World) (ss : List (List V)) (sg : List T) (k : Nat) (W : World) : Prop :=
  k ≤ sg.length ∧ Sat.Mv (fun b => b = w2.heap.size) w3 W ∧ ∃ opR nmR argsR tysR pR qA cA qB cB, IRow w w2 w3 ss sg k W opR nmR argsR tysR pR qA cA qB cB
theorem ISt.put {w w2 w3 W : World} {ss : List (List V)} {sg : List T} {k : Nat} (h : ISt w w2 w3 ss sg k W) (hs : w3.heap.size = w2.heap.size + 2) (o : Obj) : ISt w w2 w3 ss sg k (W.putObj (w3.heap.size + 1) o) := by
  obtain ⟨h1, h2, a1, a2, a3, a4, a5, a6, a7, a8, a9, h3, h4, h5, h6⟩ := h
  exact ⟨h1, mv_put h2 (by omega) o, a1, a2, a3, a4, a5, a6, a7, a8, a9, h3, blk_put h4 (by omega) o, h5.stay (fun b hb _ => ⟨World.putObj_heap_other hb.2.2.1, hb⟩) , h6.stay (fun b hb _ => ⟨World.putObj_heap_other hb.2.2.1, hb⟩)⟩
theorem ISt.below {w w2 w3 W W' : World} {ss : List (List V)} {sg : List T} {k : Nat} (h : ISt w w2 w3 ss sg k W) (hb : Below W.heap.size W W') : ISt w w2 w3 ss sg k W' := by
  obtain ⟨h1, h2, a1, a2, a3, a4, a5, a6, a7, a8, a9, h3, h4, h5, h6⟩ := h
  exact ⟨h1, mvt h2 (Mv.wide (Sat.Mv.below (F := fun _ => False) hb) (fun b hb => hb.elim)), a1, a2, a3, a4, a5, a6, a7, a8, a9, h3, h4.stay hb, h5.stay (fun b k kl => ⟨hb.block b kl, k⟩), h6.stay (fun b k kl => ⟨hb.block b kl, k⟩)⟩
set_option maxRecDepth 20000 in
set_option maxHeartbeats 8000000 in
theorem implied_try (en g lo N : Nat) (hop : ∀ m, m ≤ N → SpA 183 #[.pointer (some ⟨g, 0, none⟩), .int .i64 2] ShE (.operands 2) en g lo m) : Sp 174 ShE .implied en g lo (N + 1) := by
  intro w dp st h hne
  have hgl := h.gl
  have hlw := h.lw
  have hgw := h.lt
  have HQ0 := hide h
  have hfew := h.few
  clear h
  obtain ⟨R, hRR⟩ : ∃ R, R = P en (N + 1) .implied dp st := ⟨_, rfl⟩
  rw [← hRR] at hne ⊢
  simp only [P, wantP, nameP] at hRR
  have HC0 : Hid (∀ w1, Q w1 g lo en dp st → P en N (.operands 2) dp st ≠ .out → Calls Tryz.prog 183 #[.pointer (some ⟨g, 0, none⟩), .int .i64 2] w1 fun e w' => Ans ShE w1 g lo en dp e w' (P en N (.operands 2) dp st)) := hide fun w1 q1 hn => hop N (Nat.le_refl _) w1 dp st q1 hn
  have HL0 := hide (P_len en N (.operands 2) dp st)
  have HI0 := hide (P_isE en N (.operands 2) dp st)
  generalize P en N (.operands 2) dp st = E0 at hRR HC0 HL0 HI0
  cases E0 with
  | out => exact absurd hRR hne
  | bad cc a =>
    have HRR := hide hRR
    clear hRR
    refine (callsIn_wide (n := 8)).1 ?_
    refine callsIn_of_wp_marks Tryz.func174 rfl trivial ?_
    rw [wpIn_wide]
    simp only [Tryz.ntmps174, List.size_toArray, List.length_cons, List.length_nil, Nat.reduceAdd, Nat.reduceSub, Array.replicate_succ, Array.replicate_zero, List.push_toArray, List.append_toArray, List.nil_append, List.cons_append]
    go_wp2_with fail
    refine (step_q (fun b => b = w.heap.size) (wk := w) ?_ HQ0.out (fun b hb => by have hb : b = w.heap.size := hb; omega) (fun wz qz => HC0.out wz qz (fun e => by cases e))).mono ?_
    · exact Sat.Mv.alloc (Sat.Mv.refl _ _) _
    rintro e w1 ⟨⟨m2, rfl⟩, sg⟩
    go_wp2
    rw [HRR.out]
    exact ⟨Mv.out (seg sg m2) (fun b hb => by have hb : b = g ∨ b = w.heap.size := hb; omega), rfl⟩
  | ok r0 s0 =>
    have HRR := hide hRR
    clear hRR
    refine (callsIn_wide (n := 8)).1 ?_
    refine callsIn_of_wp_marks Tryz.func174 rfl trivial ?_
    rw [wpIn_wide]
    simp only [Tryz.ntmps174, List.size_toArray, List.length_cons, List.length_nil, Nat.reduceAdd, Nat.reduceSub, Array.replicate_succ, Array.replicate_zero, List.push_toArray, List.append_toArray, List.nil_append, List.cons_append]
    go_wp2_with fail
    refine (step_q (fun b => b = w.heap.size) (wk := w) ?_ HQ0.out (fun b hb => by have hb : b = w.heap.size := hb; omega) (fun wz qz => HC0.out wz qz (fun e => by cases e))).mono ?_
    · exact Sat.Mv.alloc (Sat.Mv.refl _ _) _
    rintro e w1 ⟨⟨m2, q2, u, rfl, op0, nm0, args0, tys0, p0, A0, B0, rfl, rfl, xA0, xB0⟩, sg⟩
    obtain ⟨qA0, cA0, rfl⟩ := xA0.slice
    obtain ⟨qB0, cB0, rfl⟩ := xB0.slice
    have hz1 := m2.size
    simp at hz1
    have HB : Hid (Blk 49 w1 w.heap.size #[.string ByteArray.empty, .string ByteArray.empty, .slice none 0 0, .slice none 0 0, .int .i64 0]) := hide (m2.blk (Blk.new _ _ _) (by omega))
    have HX0 := hide (And.intro xA0 xB0)
    have HS0 := hide (seg sg m2)
    have HQ1 := hide q2
    clear xA0 xB0 m2 q2 sg
    go_wp2
    obtain ⟨W0, hW0⟩ : ∃ W0, W0 = (w1.alloc (.cells #[.string (tx op0), .string (tx nm0), .slice qA0 args0.length cA0, .slice qB0 tys0.length cB0, .int .i64 (p0 : Nat)] 49 (0, 0))).alloc (.cells #[.slice (some ⟨w1.heap.size, 0, none⟩) 1 1] 45 (0, 0)) := ⟨_, rfl⟩
    rw [← hW0]
    have hsW : W0.heap.size = w1.heap.size + 2 := by rw [hW0]; simp
    have hbW : Below w1.heap.size w1 W0 := by rw [hW0]; go_grown
    have hB3 : Blk 45 W0 (w1.heap.size + 1) #[.slice (some ⟨w1.heap.size, 0, none⟩) 1 1] := by rw [hW0]; exact blk_new1 _ _ _ _
    have hBe : Blk 49 W0 w1.heap.size #[.string (tx op0), .string (tx nm0), .slice qA0 args0.length cA0, .slice qB0 tys0.length cB0, .int .i64 (p0 : Nat)] := by rw [hW0]; exact alloc2_blk _ (.cells #[] 0 (0, 0)) _ _ _ _
    have hxr : XR W0 (fun b => (w.heap.size + 1 ≤ b ∧ (if b = w1.heap.size + 1 then 0 else 1) = 1) ∧ b ≠ w1.heap.size) [.string (tx op0), .string (tx nm0), .slice qA0 args0.length cA0, .slice qB0 tys0.length cB0, .int .i64 (p0 : Nat)] (exR op0 nm0 args0 tys0 p0) := by
      have up : ∀ {v : Value} {t : V}, X w1 (fun b => (w.alloc (.cells #[.string { data := #[] }, .string { data := #[] }, .slice none 0 0, .slice none 0 0, .int .i64 0] 49 (0, 0))).heap.size ≤ b) v t → X W0 (fun b => (w.heap.size + 1 ≤ b ∧ (if b = w1.heap.size + 1 then 0 else 1) = 1) ∧ b ≠ w1.heap.size) v t := fun h => h.stay fun b hb hl => ⟨hbW.block b hl, by simp at hb; show (w.heap.size + 1 ≤ b ∧ (if b = w1.heap.size + 1 then 0 else 1) = 1) ∧ b ≠ w1.heap.size; rw [if_neg (by omega)]; omega⟩
      exact .cons (X.s _ _ _) (.cons (X.s _ _ _) (.cons (up HX0.out.1) (.cons (up HX0.out.2) (.cons (X.a _ _ _) .nil))))
    have hlf := LF.ofX (X.ofBlk (s := 0) (F := fun b => w.heap.size + 1 ≤ b ∧ (if b = w1.heap.size + 1 then 0 else 1) = 1) hBe rfl (by show w.heap.size + 1 ≤ w1.heap.size ∧ (if w1.heap.size = w1.heap.size + 1 then 0 else 1) = 1; rw [if_neg (by omega)]; omega) hxr)
    have HLF := hide hlf
    have HB3 := hide hB3
    have HBW := hide hbW
    clear hlf hxr hBe hB3 hbW hW0
    go_loopg [4] N (fun gk v4 wl => ∃ (ss : List (List V)) (sg : List T) (q : Option Addr) (n c : Nat) (C : Nat → List Value) (q4 : Option Addr) (c4 : Nat) (cl : Nat → Nat) (stk : List T), v4 = .slice q4 sg.length c4 ∧ gk ≤ N ∧ Hid (R = P en gk (.impl ss sg) dp stk ∧ n = ss.length ∧ ss.length = sg.length + 1 ∧ sg.length + stk.length ≤ 65536 ∧ (∀ e ∈ ss, isE e) ∧ LF wl (fun b => w.heap.size + 1 ≤ b ∧ cl b = 1) 0 (.slice q n c) ss C ∧ TL wl (.slice q4 sg.length c4) sg ∧ (∀ b, (Value.slice q4 sg.length c4).ownBlock = some b → w.heap.size + 1 ≤ b ∧ cl b = 2) ∧ Q wl g lo en dp stk ∧ Sat.Mv (fun b => b = g ∨ w.heap.size ≤ b) w wl ∧ Blk 49 wl w.heap.size #[.string ByteArray.empty, .string ByteArray.empty, .slice none 0 0, .slice none 0 0, .int .i64 0] ∧ Blk 45 wl (w1.heap.size + 1) #[.slice q n c] ∧ cl (w1.heap.size + 1) = 0))
    case atStart =>
      obtain ⟨C0, hC0⟩ := HLF.out
      have hl0 := HL0.out _ _ rfl
      simp only [kOf] at hl0
      exact ⟨[(exR op0 nm0 args0 tys0 p0)], [], some ⟨w1.heap.size, 0, none⟩, 1, 1, C0, none, 0, fun b => if b = w1.heap.size + 1 then 0 else 1, s0, rfl, Nat.le_refl _, ⟨HRR.out, rfl, rfl, by simp; omega, (fun e he => by simp at he; subst he; exact HI0.out _ _ rfl), hC0, OL.nil _ _ _ _, (fun b hb => by cases hb), HQ1.out.below HBW.out, mvt (Mv.wide HS0.out (fun b hb => by have hb : b = g ∨ b = w.heap.size := hb; show b = g ∨ w.heap.size ≤ b; omega)) (Mv.wide (Sat.Mv.below (F := fun _ => False) HBW.out) (fun b hb => hb.elim)), HB.out.stay HBW.out, HB3.out, if_pos rfl⟩⟩
    case round =>
      clear HLF HB3 HBW HX0 HQ1 HS0 HB HL0 HI0 HC0
      rename World => wl
      obtain ⟨ss, sg, q, n, c, C, q4, c4, cl, stk, rfl, hkN, HREL⟩ := hrel
      have hRR := HREL.out.1
      have HNS := hide HREL.out.2.1
      have HLN := hide HREL.out.2.2.1
      have HCT := hide HREL.out.2.2.2.1
      have HIE := hide HREL.out.2.2.2.2.1
      have HLF := hide HREL.out.2.2.2.2.2.1
      have HTL := hide HREL.out.2.2.2.2.2.2.1
      have HOW := hide HREL.out.2.2.2.2.2.2.2.1
      have HQL := hide HREL.out.2.2.2.2.2.2.2.2.1
      have HSL := hide HREL.out.2.2.2.2.2.2.2.2.2.1
      have HBL := hide HREL.out.2.2.2.2.2.2.2.2.2.2.1
      have HB3 := hide HREL.out.2.2.2.2.2.2.2.2.2.2.2.1
      have HCL := hide HREL.out.2.2.2.2.2.2.2.2.2.2.2.2
      clear HREL
      have zB := HBL.out.lt
      have z3 := HB3.out.lt
      have hfew2 := HQL.out.few
      obtain ⟨b3_0, f3_0⟩ := bk1 HB3.out
      cases gk with
      | zero => exact absurd hRR hne
      | succ m =>
      simp only [P] at hRR
      by_cases hx : (Syn.hd en stk).x = ([61, 62] : List UInt8)
      case neg =>
        rw [if_neg hx] at hRR
        have HRR := hide hRR
        clear hRR
        have Hx := hide hx
        clear hx
        go_wp2_with fail
        refine (step_sees (fun b => b < 0) ([61, 62] : List UInt8) (wk := wl) ?_ HQL.out (fun b hb => by have hb : b < 0 := hb; omega) ?_).mono ?_
        · exact Sat.Mv.alloc (Sat.Mv.refl _ _) _
        · exact heap_alloc_new _ _
        rintro e w2 ⟨⟨he, b2⟩, sg2⟩
        rw [decide_eq_false Hx.out] at he
        subst he
        have m2 : MvR g _ w2 := Sat.Mv.below b2
        have HQ2 := hide ((HQL.out.mv sg2 (fun b hb => by have hb : b < 0 := hb; omega)).below b2)
        have hM2 := seg sg2 m2
        have hz2 := hM2.size
        have hnk : ∀ b, b ≠ g → ¬ (b = g ∨ b < 0) := fun b h1 h2 => by omega
        have HLF2 := hide (HLF.out.far hM2 (fun b hb hl => hnk b (by have := hb.1; omega)) (fun b hb => hb))
        have HTL2 := hide (show TL w2 (.slice q4 sg.length c4) sg from OL.stay HTL.out fun b hb => hM2.other b (HTL.out.lt hb) (hnk b (by have := (HOW.out b hb).1; omega)))
        have HM2 := hide (show Sat.Mv (fun b => b = g ∨ w.heap.size ≤ b) w w2 from mvt HSL.out (Mv.wide hM2 (fun b hb => by have hb : b = g ∨ b < 0 := hb; show b = g ∨ w.heap.size ≤ b; omega)))
        have HB2 : Hid (Blk 49 w2 w.heap.size #[.string ByteArray.empty, .string ByteArray.empty, .slice none 0 0, .slice none 0 0, .int .i64 0]) := hide ((hM2.other _ zB (hnk _ (by omega))).trans HBL.out)
        have HB32 : Hid (Blk 45 w2 (w1.heap.size + 1) #[.slice q n c]) := hide ((hM2.other _ z3 (hnk _ (by omega))).trans HB3.out)
        clear b3_0 f3_0 m2 sg2 b2 hM2 HLF HTL HSL HBL HB3 HQL hnk
        have hn := HNS.out
        have hsl := HLN.out
        obtain ⟨bL, cL, hv, -, -⟩ := HLF2.out.ol.open sg.length (by omega)
        rw [← hn] at hv
        simp only [Value.slice.injEq] at hv
        obtain ⟨rfl, -, rfl⟩ := hv
        have hlast := HIE.out (ss.getD sg.length []) (by rw [List.getD_eq_getElem?_getD, List.getElem?_eq_getElem (by omega)]; exact List.getElem_mem _)
        obtain ⟨opL, nmL, argsL, tysL, pL, hrL, hiL⟩ := hlast
        have hel := HLF2.out.el sg.length (by omega)
        rw [hrL] at hel
        obtain ⟨qAL, cAL, qBL, cBL, hCL, xAL, xBL⟩ := XR.ex hel
        have hol := HLF2.out.ol
        rw [← hn] at hol
        have g9_0 : w2.cell? ⟨bL, sg.length * 5, none⟩ = some (.string (tx opL)) := by have h9 := hol.cell (i := sg.length) (j := 0) (by omega) (by decide); rw [hCL] at h9; exact h9
        have g9_1 : w2.cell? ⟨bL, sg.length * 5 + 1, none⟩ = some (.string (tx nmL)) := by have h9 := hol.cell (i := sg.length) (j := 1) (by omega) (by decide); rw [hCL] at h9; exact h9
        have g9_2 : w2.cell? ⟨bL, sg.length * 5 + 2, none⟩ = some (.slice qAL argsL.length cAL) := by have h9 := hol.cell (i := sg.length) (j := 2) (by omega) (by decide); rw [hCL] at h9; exact h9
        have g9_3 : w2.cell? ⟨bL, sg.length * 5 + 3, none⟩ = some (.slice qBL tysL.length cBL) := by have h9 := hol.cell (i := sg.length) (j := 3) (by omega) (by decide); rw [hCL] at h9; exact h9
        have g9_4 : w2.cell? ⟨bL, sg.length * 5 + 4, none⟩ = some (.int .i64 (pL : Nat)) := by have h9 := hol.cell (i := sg.length) (j := 4) (by omega) (by decide); rw [hCL] at h9; exact h9
        have HX2 := hide (And.intro xAL xBL)
        have HRL := hide hrL
        clear hel xAL xBL hol hiL hrL hCL
        obtain ⟨b3_0, f3_0⟩ := bk1 HB32.out
        have hiI : ((sg.length : Int) < n) := by omega
        go_wp2_with fail
        refine (backward_any _ _ rfl).mono ?_
        rintro e w3 ⟨rfl, hw3⟩
        rw [World.size_alloc]
        have hs3 : w3.heap.size = w2.heap.size + 2 := by rw [hw3]; simp
        have hb3 : Below w2.heap.size w2 w3 := by rw [hw3]; go_grown
        have hk5 : Blk 49 w3 w2.heap.size #[.string (tx opL), .string (tx nmL), .slice qAL argsL.length cAL, .slice qBL tysL.length cBL, .int .i64 (pL : Nat)] := by rw [hw3]; exact alloc2_blk _ (.cells #[] 0 (0, 0)) _ _ _ _
        have hk6 : Blk 39 w3 (w2.heap.size + 1) #[.slice q4 sg.length c4] := by rw [hw3]; exact blk_new1 _ _ _ _
        have HQ9 := hide (HQ2.out.below hb3)
        have HM9 := hide (mvt HM2.out (Mv.wide (Sat.Mv.below (F := fun _ => False) hb3) (fun b hb => hb.elim)))
        have HB9 := hide (HB2.out.stay hb3)
        have HB39 := hide (HB32.out.stay hb3)
        have HTL9 := hide (show TL w3 (.slice q4 sg.length c4) sg from OL.stay HTL2.out fun b hb => hb3.block b (HTL2.out.lt hb))
        have HLF9 := hide (HLF2.out.stay2 (F' := fun b => (w.heap.size + 1 ≤ b ∧ cl b = 1) ∧ b < w2.heap.size) (fun b hb hl => ⟨hb3.block b hl, hb, hl⟩))
        have HOW9 : Hid (∀ b, (Value.slice q4 sg.length c4).ownBlock = some b → b < w2.heap.size) := hide fun b hb => HTL2.out.lt hb
        have HXL := hide (And.intro (HX2.out.1.stay (G := fun b => w.heap.size + 1 ≤ b ∧ b < w2.heap.size) (fun b hb hl => ⟨hb3.block b hl, hb.1.1, hl⟩)) (HX2.out.2.stay (G := fun b => w.heap.size + 1 ≤ b ∧ b < w2.heap.size) (fun b hb hl => ⟨hb3.block b hl, hb.1.1, hl⟩)))
        have HK5 := hide hk5
        have HK6 := hide hk6
        have zB2 := HB2.out.lt
        have z32 := HB32.out.lt
        clear hw3 hb3 hk5 hk6 HQ2 HM2 HB2 HB32 HTL2 HLF2 HX2 b3_0 f3_0 g9_0 g9_1 g9_2 g9_3 g9_4
        go_wp2_with fail
        rw [← wpIn_wide (n := 8)]
        refine range_mid (gf := 190) (lb := #[.pointer (some ⟨w2.heap.size + 1, 0, none⟩)]) rfl (enters_of Tryz.func190 (by kernel_rfl) rfl)
          (ISt w w2 w3 ss sg)
          (fun k x W => k < sg.length ∧ x = #[.int .i64 ((sg.length - 1 - k : Nat) : Int), TV (sg.getD (sg.length - 1 - k) ⟨0, [], 0⟩)])
          (fun _ _ => False) (fun k => k = sg.length)
          (fun k x a' W => k < sg.length ∧ ISt w w2 w3 ss sg k W ∧ ∃ (b7 : Nat) (tk : T), tk = sg.getD (sg.length - 1 - k) ⟨0, [], 0⟩ ∧ w3.heap.size + 2 ≤ b7 ∧ Blk 43 W b7 #[.int .i64 (tk.k : Nat), .string (tx tk.x), .int .i64 (tk.a : Nat)] ∧ a' = { tmps := #[.pointer (some ⟨g, 0, none⟩), undef, .pointer (some ⟨w.heap.size, 0, none⟩), .pointer (some ⟨w1.heap.size + 1, 0, none⟩), .slice q4 sg.length c4, .pointer (some ⟨w2.heap.size, 0, none⟩), .int .i64 ((sg.length - 1 - k : Nat) : Int), .pointer (some ⟨b7, 0, none⟩), .pointer (some ⟨g, 0, none⟩), .agg #[.string (tx op0), .string (tx nm0), .slice qA0 args0.length cA0, .slice qB0 tys0.length cB0, .int .i64 (p0 : Nat)], .slice (some ⟨w1.heap.size, 0, none⟩) 1 1, .pointer (some ⟨g, 0, none⟩), .slice (some ⟨wl.heap.size, 0, none⟩) 1 1, .bool false, u14, u15, u16, u17, u18, u19, u20, u21, u22, u23, u24, u25, .slice (some ⟨bL, 0, none⟩) (sg.length + 1) c, .slice q4 sg.length c4, .int .i64 (sg.length : Nat), .pointer (some ⟨bL, sg.length * 5, none⟩), .agg #[.string (tx opL), .string (tx nmL), .slice qAL argsL.length cAL, .slice qBL tysL.length cBL, .int .i64 (pL : Nat)], .slice q4 sg.length c4, .func (.func 190) #[] #[.pointer (some ⟨w2.heap.size + 1, 0, none⟩)], .int .i64 ((sg.length - 1 - k : Nat) : Int), .agg #[.int .i64 (tk.k : Nat), .string (tx tk.x), .int .i64 (tk.a : Nat)], undef, undef, undef, undef, undef, undef, undef, undef], defers := [] })
          ?hsz ?hst ?hmid ?hsx ?h0 ?hassign ?hbody ?hit ?hdone ?hstop
        case hsz => rintro k x W ⟨_, rfl⟩; rfl
        case hst => exact fun k W o h => h.put hs3 o
        case hmid =>
          rintro k x a' W o ⟨h1, h2, b7, tk, h3, h4, h5, h6⟩
          exact ⟨h1, h2.put hs3 o, b7, tk, h3, h4, blk_put h5 (by omega) o, h6⟩
        case hsx => exact fun _ _ _ h => h
        case h0 =>
          intro o o'
          refine ISt.below (W := w3) ⟨Nat.zero_le _, Sat.Mv.refl _ _, opL, nmL, argsL, tysL, pL, qAL, cAL, qBL, cBL, ?_, HK5.out, HXL.out.1.stay (fun b hb hl => ⟨rfl, by show w.heap.size + 1 ≤ b ∧ b ≠ w2.heap.size ∧ b ≠ w3.heap.size + 1 ∧ b ≠ w3.heap.size; omega⟩), HXL.out.2.stay (fun b hb hl => ⟨rfl, by show w.heap.size + 1 ≤ b ∧ b ≠ w2.heap.size ∧ b ≠ w3.heap.size + 1 ∧ b ≠ w3.heap.size; omega⟩)⟩ (((Below.refl _ w3).alloc (Nat.le_refl _) _).alloc (by simp) _)
          rw [Nat.sub_zero, List.drop_length, List.drop_eq_getElem_cons (by omega), List.drop_of_length_le (by omega)]
          have h9 := HRL.out
          rw [List.getD_eq_getElem?_getD, List.getElem?_eq_getElem (by omega)] at h9
          exact h9.symm
        case hassign =>
          rintro k x W K hS ⟨hk, rfl⟩ hlt hK
          have HKK := hide hK
          have HSS := hide hS
          clear hK hS
          obtain ⟨tk, htk⟩ : ∃ tk, tk = sg.getD (sg.length - 1 - k) ⟨0, [], 0⟩ := ⟨_, rfl⟩
          rw [← htk]
          have HTK := hide htk
          clear htk
          have hbw : ∀ o, Below W.heap.size W (W.alloc o) := fun o => (Below.refl _ W).alloc (Nat.le_refl _) _
          simp only [TV]
          gi_wp2
          exact HKK.out _ _ ⟨hk, HSS.out.below (hbw _), W.heap.size, tk, HTK.out, by omega, heap_alloc_new _ _, rfl⟩ (hbw _)
        case hbody =>
          rintro k x a' W ⟨hk, ⟨hkn, hM, opR, nmR, argsR, tysR, pR, qA, cA, qB, cB, hrow, hB5, xA, xB⟩, b7, tk, htk, hb7, h7, rfl⟩ hlt
          obtain ⟨j, hj⟩ : ∃ j, j = sg.length - 1 - k := ⟨_, rfl⟩
          rw [← hj] at htk
          rw [← hj]
          have hjn : j < sg.length := by omega
          have hjs : j < ss.length := by omega
          have hjI : ((j : Int) < n) := by omega
          obtain ⟨opS, nmS, argsS, tysS, pS, hrS, hiS⟩ := HIE.out (ss.getD j []) (by rw [List.getD_eq_getElem?_getD, List.getElem?_eq_getElem hjs]; exact List.getElem_mem _)
          have hfold : betw (exR opS nmS argsS tysS pS) tk (exR opR nmR argsR tysR pR) = foldI (ss.drop (sg.length - (k + 1))) (sg.drop (sg.length - (k + 1))) := by
            rw [show sg.length - (k + 1) = j by omega, List.drop_eq_getElem_cons hjs, List.drop_eq_getElem_cons hjn, hrow, show sg.length - k = j + 1 by omega]
            rw [List.getD_eq_getElem?_getD, List.getElem?_eq_getElem hjs] at hrS
            rw [List.getD_eq_getElem?_getD, List.getElem?_eq_getElem hjn] at htk
            simp only [Option.getD_some] at hrS htk
            rw [← hrS, htk]
            rfl
          have hlf := HLF9.out.far hM (F' := fun b => (w.heap.size + 1 ≤ b ∧ cl b = 1) ∧ b < w2.heap.size) (fun b hb hl hk => by have hk : b = w2.heap.size := hk; omega) (fun b hb => hb)
          have hel := hlf.el j hjs
          rw [hrS] at hel
          obtain ⟨qAS, cAS, qBS, cBS, hCS, xAS, xBS⟩ := XR.ex hel
          have hol := hlf.ol
          rw [← hn] at hol
          have g9_0 : W.cell? ⟨bL, j * 5, none⟩ = some (.string (tx opS)) := by have h9 := hol.cell (i := j) (j := 0) (by omega) (by decide); rw [hCS] at h9; exact h9
          have g9_1 : W.cell? ⟨bL, j * 5 + 1, none⟩ = some (.string (tx nmS)) := by have h9 := hol.cell (i := j) (j := 1) (by omega) (by decide); rw [hCS] at h9; exact h9
          have g9_2 : W.cell? ⟨bL, j * 5 + 2, none⟩ = some (.slice qAS argsS.length cAS) := by have h9 := hol.cell (i := j) (j := 2) (by omega) (by decide); rw [hCS] at h9; exact h9
          have g9_3 : W.cell? ⟨bL, j * 5 + 3, none⟩ = some (.slice qBS tysS.length cBS) := by have h9 := hol.cell (i := j) (j := 3) (by omega) (by decide); rw [hCS] at h9; exact h9
          have g9_4 : W.cell? ⟨bL, j * 5 + 4, none⟩ = some (.int .i64 (pS : Nat)) := by have h9 := hol.cell (i := j) (j := 4) (by omega) (by decide); rw [hCS] at h9; exact h9
          have hW3 := hM.size
          have hB3 : Blk 45 W (w1.heap.size + 1) #[.slice (some ⟨bL, 0, none⟩) (sg.length + 1) c] := by rw [← show n = sg.length + 1 by omega]; exact (hM.other _ (by omega) (by omega)).trans HB39.out
          obtain ⟨b3_0, f3_0⟩ := bk1 hB3
          obtain ⟨b5_0, b5_1, b5_2, b5_3, b5_4, f5_0, f5_1, f5_2, f5_3, f5_4⟩ := bk5 hB5
          obtain ⟨b7_0, b7_1, b7_2, f7_0, f7_1, f7_2⟩ := bk3 h7
          have inS : ∀ b, ((w.heap.size + 1 ≤ b ∧ cl b = 1) ∧ b < w2.heap.size) → FR w w2 w3 b := fun b hb => ⟨hb.1.1, by omega, by omega, by omega⟩
          have HBT := hide (between_gen W.drew (FR w w2 w3) (fun b hb => by have hb : W.heap.size ≤ b := hb; exact ⟨by omega, by omega, by omega, by omega⟩) tk opS nmS argsS tysS pS qAS qBS cAS cBS opR nmR argsR tysR pR qA qB cA cB (xAS.stay (fun b hb _ => ⟨rfl, inS b hb.1⟩)) (xBS.stay (fun b hb _ => ⟨rfl, inS b hb.1⟩)) (xA.stay (fun b hb _ => ⟨rfl, hb⟩)) (xB.stay (fun b hb _ => ⟨rfl, hb⟩)))
          have hmx : Tryz.prog.follows .mixedOrders = true := by kernel_rfl
          simp only [TV] at HBT
          have HST := hide (And.intro hM hB5)
          have HFO := hide hfold
          have HJ := hide hj
          clear hj
          clear hM hB5 hfold hlf hel hol xAS xBS xA xB hrow htk h7 hB3 inS hrS hiS hCS
          have HFIN : Hid (∀ (W7 : World) (b9 : Nat), Below W.drew.heap.size W.drew W7 → X W7 (FR w w2 w3) (.slice (some ⟨b9, 0, none⟩) 2 2) (.l 0 [exR opS nmS argsS tysS pS, exR opR nmR argsR tysR pR]) → ((((((W7.setCell ⟨w2.heap.size, 0, none⟩ (.string (tx tk.x))).setCell ⟨w2.heap.size, 1, none⟩ (.string { data := #[] })).setCell ⟨w2.heap.size, 2, none⟩ (.slice (some ⟨b9, 0, none⟩) 2 2)).setCell ⟨w2.heap.size, 3, none⟩ (.slice none 0 0)).setCell ⟨w2.heap.size, 4, none⟩ (.int .i64 (tk.a : Nat))).heap[w3.heap.size + 1]? = W.heap[w3.heap.size + 1]? ∧ (((((W7.setCell ⟨w2.heap.size, 0, none⟩ (.string (tx tk.x))).setCell ⟨w2.heap.size, 1, none⟩ (.string { data := #[] })).setCell ⟨w2.heap.size, 2, none⟩ (.slice (some ⟨b9, 0, none⟩) 2 2)).setCell ⟨w2.heap.size, 3, none⟩ (.slice none 0 0)).setCell ⟨w2.heap.size, 4, none⟩ (.int .i64 (tk.a : Nat))).heap[w3.heap.size]? = W.heap[w3.heap.size]?) ∧ ISt w w2 w3 ss sg (k + 1) (((((W7.setCell ⟨w2.heap.size, 0, none⟩ (.string (tx tk.x))).setCell ⟨w2.heap.size, 1, none⟩ (.string { data := #[] })).setCell ⟨w2.heap.size, 2, none⟩ (.slice (some ⟨b9, 0, none⟩) 2 2)).setCell ⟨w2.heap.size, 3, none⟩ (.slice none 0 0)).setCell ⟨w2.heap.size, 4, none⟩ (.int .i64 (tk.a : Nat)))) := hide <| by
            intro W7 b9 hb7 xR
            have k5 : Blk 49 W7 w2.heap.size #[.string (tx opR), .string (tx nmR), .slice qA argsR.length cA, .slice qB tysR.length cB, .int .i64 (pR : Nat)] := Blk.stay (w := W.drew) HST.out.2 hb7
            have hd7 := Sat.Mv.below (F := fun b => b = w2.heap.size) hb7
            have hm7 : Sat.Mv (fun b => b = w2.heap.size) W W7 := ⟨hd7.os, hd7.tape, hd7.output, hd7.size, hd7.other⟩
            have h9 := Blk.set (Blk.set (Blk.set (Blk.set (Blk.set k5 0 (.string (tx tk.x))) 1 (.string { data := #[] })) 2 (.slice (some ⟨b9, 0, none⟩) 2 2)) 3 (.slice none 0 0)) 4 (.int .i64 (tk.a : Nat))
            obtain ⟨wz, hwz⟩ : ∃ wz, wz = (((((W7.setCell ⟨w2.heap.size, 0, none⟩ (.string (tx tk.x))).setCell ⟨w2.heap.size, 1, none⟩ (.string { data := #[] })).setCell ⟨w2.heap.size, 2, none⟩ (.slice (some ⟨b9, 0, none⟩) 2 2)).setCell ⟨w2.heap.size, 3, none⟩ (.slice none 0 0)).setCell ⟨w2.heap.size, 4, none⟩ (.int .i64 (tk.a : Nat))) := ⟨_, rfl⟩
            have hbz : Blk 49 wz w2.heap.size #[.string (tx tk.x), .string { data := #[] }, .slice (some ⟨b9, 0, none⟩) 2 2, .slice none 0 0, .int .i64 (tk.a : Nat)] := by rw [hwz]; simpa using h9
            rw [← hwz]
            have ms : Sat.Mv (fun b => b = w2.heap.size) W7 wz := by
              rw [hwz]
              iterate 5 refine Sat.Mv.set (F := fun b => b = w2.heap.size) ?_ (Or.inl rfl) _
              exact Sat.Mv.refl _ _
            clear h9 hwz
            have hz7 := hm7.size
            have ma := mvt hm7 ms
            exact ⟨⟨ma.other _ (by omega) (by omega), ma.other _ (by omega) (by omega)⟩, by omega, mvt HST.out.1 ma, tk.x, [], [exR opS nmS argsS tysS pS, exR opR nmR argsR tysR pR], [], tk.a, some ⟨b9, 0, none⟩, 2, none, 0, HFO.out, hbz, xR.far ms (fun b hb hl hk => hb.2.1 hk) (fun b hb => hb), X.nil _ _ _⟩
          have HB5W := hide HST.out.2
          clear HST HFO
          gi_wp2_with fail
          gi_region_with_o (refine ⟨trivial, ?_⟩; refine (CallsIn.inRound _ (callsIn_wide.2 HBT.out)).mono ?_; rintro e W7 ⟨hb7, b9, hf9, hl9, rfl, xR⟩; have k5 : Blk 49 W7 w2.heap.size #[.string (tx opR), .string (tx nmR), .slice qA argsR.length cA, .slice qB tysR.length cB, .int .i64 (pR : Nat)] := Blk.stay (w := W.drew) HB5W.out hb7; obtain ⟨y5_0, y5_1, y5_2, y5_3, y5_4, z5_0, z5_1, z5_2, z5_3, z5_4⟩ := bk5 k5; have l5 := k5.lt; have HB7 := hide hb7; have HK7 := hide k5; have HXR := hide xR; clear hb7 k5 xR)
          all_goals exact HFIN.out _ _ HB7.out HXR.out
        case hit =>
          intro Rd Dn hsz hRd hY W1 hS hR
          exact back_in (w3.heap.size + 1) (w2.heap.size + 1) q4 c4 sg (by have := HCT.out; omega) _ (fun k W h => ⟨(h.2.1.other _ (by omega) (by omega)).trans HK6.out, OL.stay HTL9.out fun b hb => h.2.1.other b (HTL9.out.lt hb) (by have := HOW9.out b hb; omega)⟩) _ (fun k W hk h => ⟨hk, rfl⟩) Rd Dn hY W1 hS hR
        case hdone =>
          rintro k W rfl ⟨-, hM, opR, nmR, argsR, tysR, pR, qA, cA, qB, cB, hrow, hB5, xA, xB⟩ hD
          rw [Nat.sub_self, List.drop_zero, List.drop_zero] at hrow
          have hB2 : Blk 49 W w.heap.size #[.string ByteArray.empty, .string ByteArray.empty, .slice none 0 0, .slice none 0 0, .int .i64 0] := (hM.other _ (by omega) (by omega)).trans HB9.out
          obtain ⟨b5_0, b5_1, b5_2, b5_3, b5_4, f5_0, f5_1, f5_2, f5_3, f5_4⟩ := bk5 hB5
          have HBW := hide hB2
          have l2 := hB2.lt
          have HST := hide (And.intro hM (And.intro hD (And.intro hrow (And.intro xA xB))))
          clear hB2 hM hD hrow xA xB hB5
          go_wp2_with ((show wpList _ _ _ _ _ _); refine store_blk rfl 49 (.tmp 2) (.tmp 42) rfl (w.heap.size) _ rfl rfl 49 #[.string ByteArray.empty, .string ByteArray.empty, .slice none 0 0, .slice none 0 0, .int .i64 0] HBW.out (by kernel_rfl) rfl rfl ?_; intro wf b2 m2; have HM2 := hide m2; have HBF := hide b2; clear m2 b2)
          have hl3 := (Array.getElem?_eq_some_iff.1 HST.out.2.1).1
          have hz3 := HST.out.1.size
          have hDf : wf.heap[w3.heap.size]? = some (.deferred (some [])) := (HM2.out.other _ hl3 (by omega)).trans HST.out.2.1
          have hBp : Blk 49 (wf.putObj w3.heap.size (.deferred none)) w.heap.size #[.string (tx opR), .string (tx nmR), .slice qA argsR.length cA, .slice qB tysR.length cB, .int .i64 (pR : Nat)] := blk_put HBF.out (by omega) _
          obtain ⟨c0, c1, c2, c3, c4, -, -, -, -, -⟩ := bk5 hBp
          have up : ∀ {v : Value} {t : V}, X W (FR w w2 w3) v t → X (wf.putObj w3.heap.size (.deferred none)) (fun b => w.heap.size ≤ b) v t := fun h => h.stay fun b hb hl => ⟨(World.putObj_heap_other hb.2.2.2).trans (HM2.out.other b hl (by have := hb.1; omega)), by have := hb.1; show w.heap.size ≤ b; omega⟩
          refine ⟨by simp [Act.put], .inl ⟨_, _, rfl, run_takeDeferred hDf, ?_⟩⟩
          refine ⟨.agg #[.string (tx opR), .string (tx nmR), .slice qA argsR.length cA, .slice qB tysR.length cB, .int .i64 (pR : Nat)], ?_, ?_⟩
          · simp [results, Act.put, Tryz.f174, go_sem, c0, c1, c2, c3, c4]
          · rw [HRR.out]
            exact ⟨Mv.out (mv_put (mvt (mvt HM9.out (Mv.wide HST.out.1 (fun b hb => by have hb : b = w2.heap.size := hb; show b = g ∨ w.heap.size ≤ b; omega))) (Mv.wide HM2.out (fun b hb => by have hb : b = w.heap.size := hb; show b = g ∨ w.heap.size ≤ b; omega))) (by omega) _) (fun b hb => hb), HQ9.out.mv (mv_put (mvt (Mv.wide (G := fun b => w.heap.size ≤ b) HST.out.1 (fun b hb => by have hb : b = w2.heap.size := hb; show w.heap.size ≤ b; omega)) (Mv.wide HM2.out (fun b hb => by have hb : b = w.heap.size := hb; show w.heap.size ≤ b; omega))) (Nat.le_refl _) _) (fun b hb => Nat.le_trans hlw hb), _, rfl, opR, nmR, argsR, tysR, pR, _, _, HST.out.2.2.1.symm, rfl, up HST.out.2.2.2.1, up HST.out.2.2.2.2⟩
        case hstop => exact fun _ _ h => h.elim
      rw [if_pos hx] at hRR
      have hlt := hd_len hx (by decide)
      have HC1 : Hid (∀ w1, Q w1 g lo en dp stk.tail → P en m (.operands 2) dp stk.tail ≠ .out → Calls Tryz.prog 183 #[.pointer (some ⟨g, 0, none⟩), .int .i64 2] w1 fun e w' => Ans ShE w1 g lo en dp e w' (P en m (.operands 2) dp stk.tail)) := hide fun w1 q1 hn => hop m (by omega) w1 dp stk.tail q1 hn
      have HL1 := hide (P_len en m (.operands 2) dp stk.tail)
      have HI1 := hide (P_isE en m (.operands 2) dp stk.tail)
      have Hx := hide hx
      clear hx
      generalize P en m (.operands 2) dp stk.tail = E1 at hRR HC1 HL1 HI1
      have HRR := hide hRR
      clear hRR
      go_wp2_with fail
      refine (step_sees (fun b => b < 0) ([61, 62] : List UInt8) (wk := wl) ?_ HQL.out (fun b hb => by have hb : b < 0 := hb; omega) ?_).mono ?_
      · exact Sat.Mv.alloc (Sat.Mv.refl _ _) _
      · exact heap_alloc_new _ _
      rintro e w2 ⟨⟨he, b2⟩, sg2⟩
      rw [decide_eq_true Hx.out] at he
      subst he
      have m2 : MvR g _ w2 := Sat.Mv.below b2
      have HQ2 := hide ((HQL.out.mv sg2 (fun b hb => by have hb : b < 0 := hb; omega)).below b2)
      have HM2 := hide (seg sg2 m2)
      have hz2 := HM2.out.size
      clear m2 sg2 b2
      have hb32 := (HM2.out.other _ z3 (fun hk => by have hk : w1.heap.size + 1 = g ∨ w1.heap.size + 1 < 0 := hk; omega)).trans HB3.out
      clear b3_0 f3_0
      obtain ⟨b3_0, f3_0⟩ := bk1 hb32
      clear hb32
      go_wp2_with fail
      refine (step_q (fun b => b < 0) (wk := w2) ?_ HQ2.out (fun b hb => by have hb : b < 0 := hb; omega) (fun wz qz => take_q wz g lo en dp stk qz (hd_ne (by decide) Hx.out))).mono ?_
      · exact Sat.Mv.refl _ _
      rintro e w3 ⟨⟨rfl, q3, m3⟩, sg3⟩
      have HM3 := hide (mvt HM2.out (seg sg3 m3))
      have HQ3 := hide q3
      have hz3 := HM3.out.size
      clear q3 m3 sg3 HM2 HQ2 b3_0 f3_0
      have HOL := hide (show OL 3 43 (w3.alloc (.cells #[.int .i64 ((Syn.hd en stk).k : Nat), .string (tx (Syn.hd en stk).x), .int .i64 ((Syn.hd en stk).a : Nat)] 43 (0, 0))) (.slice q4 sg.length c4) sg.length (Lex.tkC sg) from OL.stay HTL.out fun b hb => (Below.heap_alloc w3 _ b (Nat.lt_of_lt_of_le (HTL.out.lt hb) hz3)).trans (HM3.out.other b (HTL.out.lt hb) (fun hk => by have hk : b = g ∨ b < 0 := hk; have := (HOW.out b hb).1; omega)))
      simp only [TV]
      go_wp2_with (at_builtin; refine Stop.of ?_)
      show wpList _ _ _ _ _ _
      refine Euf.wpList_push rfl (.tmp 14) (.tmp 17) 39 rfl 3 43 _ 32 Lex.uTok Lex.iTok (by decide) rfl (by decide) (.slice q4 sg.length c4) sg.length (Lex.tkC sg) rfl [.int .i64 ((Syn.hd en stk).k : Nat), .string (tx (Syn.hd en stk).x), .int .i64 ((Syn.hd en stk).a : Nat)] 43 HOL.out (fun _ _ => rfl) 1 rfl rfl (by intro u hu; simp at hu; rcases hu with rfl | rfl | rfl <;> rfl) (by have := HCT.out; omega) (Lex.tkC (sg ++ [Syn.hd en stk])) Lex.tkC_app.1 Lex.tkC_app.2 ?_
      intro v5 w5 hol5 hap5 hne5
      have hap5' := hap5.of_alloc (fun b hb => Nat.lt_of_lt_of_le (HTL.out.lt hb) hz3)
      obtain ⟨q5, c5, rfl⟩ : ∃ a cc, v5 = .slice a (sg.length + 1) cc := by
        obtain ⟨a, cap, h2, _⟩ := hol5.shape
        exact ⟨a, cap, h2⟩
      obtain ⟨c1, hc1⟩ : ∃ c1 : Nat → Nat, ∀ b, c1 b = if w3.heap.size ≤ b then 2 else cl b := ⟨_, fun _ => rfl⟩
      have hz5 := hap5'.size
      have st : ∀ k b, k ≠ 2 → (w.heap.size + 1 ≤ b ∧ cl b = k) → b < wl.heap.size → w5.heap[b]? = wl.heap[b]? ∧ (w.heap.size + 1 ≤ b ∧ c1 b = k) := fun k b hk hb hl => by
        refine ⟨(hap5'.other b (Nat.lt_of_lt_of_le hl hz3) (fun e => hk (hb.2.symm.trans (HOW.out b e).2))).trans (HM3.out.other b hl (fun h9 => by have h9 : b = g ∨ b < 0 := h9; omega)), hb.1, ?_⟩
        rw [hc1, if_neg (by omega)]; exact hb.2
      have HLF5 := hide (HLF.out.stay2 (fun b hb hl => st 1 b (by decide) hb hl))
      have HTL5 := hide (show TL w5 (.slice q5 (sg ++ [Syn.hd en stk]).length c5) (sg ++ [Syn.hd en stk]) from by unfold Lex.TL; rw [List.length_append]; exact hol5)
      have HOW5 : Hid (∀ b, (Value.slice q5 (sg.length + 1) c5).ownBlock = some b → w.heap.size + 1 ≤ b ∧ c1 b = 2) := hide fun b hb => by
        rw [hc1]
        rcases hap5'.at_ with e | ⟨b', e, hb'⟩
        · rw [e] at hb; have h9 := HOW.out b hb; split <;> omega
        · rw [e] at hb; injection hb with hb; subst hb; rw [if_pos hb']; omega
      have own5 : ∀ b, (Value.slice q4 sg.length c4).ownBlock = some b → w.heap.size + 1 ≤ b := fun b hb => (HOW.out b hb).1
      have HQ5 := hide (HQ3.out.mv (Sat.Mv.app (F := fun b => w.heap.size + 1 ≤ b) (Sat.Mv.refl _ w3) hap5' (fun b hb => Or.inl (own5 b hb))) (fun b hb => by have hb : w.heap.size + 1 ≤ b := hb; omega))
      have HM5 := hide (show Sat.Mv (fun b => b = g ∨ w.heap.size ≤ b) w w5 from Sat.Mv.app (mvt HSL.out (Mv.wide HM3.out (fun b hb => by have hb : b = g ∨ b < 0 := hb; show b = g ∨ w.heap.size ≤ b; omega))) hap5' (fun b hb => Or.inl (Or.inr (by have := own5 b hb; omega))))
      have HB5 : Hid (Blk 49 w5 w.heap.size #[.string ByteArray.empty, .string ByteArray.empty, .slice none 0 0, .slice none 0 0, .int .i64 0]) := hide ((hap5'.other _ (Nat.lt_of_lt_of_le zB hz3) (fun e => by have := own5 _ e; omega)).trans ((HM3.out.other _ zB (fun h9 => by have h9 : w.heap.size = g ∨ w.heap.size < 0 := h9; omega)).trans HBL.out))
      have HB35 : Hid (Blk 45 w5 (w1.heap.size + 1) #[.slice q n c]) := hide ((hap5'.other _ (Nat.lt_of_lt_of_le z3 hz3) (fun e => by have h9 := (HOW.out _ e).2; rw [HCL.out] at h9; cases h9)).trans ((HM3.out.other _ z3 (fun h9 => by have h9 : w1.heap.size + 1 = g ∨ w1.heap.size + 1 < 0 := h9; omega)).trans HB3.out))
      have HC5 : Hid (c1 (w1.heap.size + 1) = 0) := hide (by rw [hc1, if_neg (by omega)]; exact HCL.out)
      have zB5 := HB5.out.lt
      have z35 := HB35.out.lt
      have hn5 := HLF5.out.ol
      have HNC := hide hc1
      clear hap5 hap5' hol5 hne5 st HLF HTL HOW HQ3 HM3 HBL HB3 HCL HOL own5 hc1 HSL HQL hn5
      go_wp2_with fail
      cases E1 with
      | out => exact absurd HRR.out hne
      | bad cc a =>
        have hn := HNS.out
        subst hn
        clear HNS
        refine wp_region_F (by kernel_rfl) [some 19, some 20, some 21, some 22, some 23, some 24, some 25, none, none] [none, none, none, none, none, none, none, none, none, none, none, none, none, none, none, none, none, none, none, some 19, some 20, some 21, some 22, some 23, some 24, some 25] (fun U => by kernel_rfl) [fun u => u = (.slice q ss.length c), fun u => u = (.pointer (some ⟨g, 0, none⟩)), fun _ => True, fun u => u = (.int .i64 (ss.length : Nat)), fun _ => True, fun _ => True, fun _ => True, fun _ => True, fun _ => True] (fun L U wr => L 2 = false ∧ MvR g w5 wr ∧ Q wr g lo en dp stk.tail) (by kernel_rfl) (by decide) (by kernel_rfl) (by kernel_rfl) (fun U => ⟨rfl, Sat.Mv.below (Below.refl _ _).drew, HQ5.out.below (Below.refl _ _).drew⟩) ?_ ?_
        · refine StepsF.run rfl ?_ ?_
          · intro L U wr hC hP hlk hcl haf A K hFm hK
            clear haf
            have e3 : A.tmps[3]? = some (.pointer (some ⟨(w1.heap.size + 1), 0, none⟩)) := (hFm.old 3 (by decide)).trans (by kernel_rfl)
            have hLk := hC.2.1.blk HB35.out (by omega)
            obtain ⟨b9_0, f9_0⟩ := bk1 hLk
            clear hLk
            have HC9 := hide hC
            clear hC
            refine ⟨?_⟩
            go_simp
            exact hK _ _ rfl ⟨by simpa using HC9.out.1, HC9.out.2⟩
          refine StepsF.run rfl ?_ ?_
          · intro L U wr hC hP hlk hcl haf A K hFm hK
            clear haf
            have e0 : A.tmps[0]? = some (.pointer (some ⟨g, 0, none⟩)) := (hFm.old 0 (by decide)).trans (by kernel_rfl)
            have HC9 := hide hC
            clear hC
            refine ⟨?_⟩
            go_simp
            exact hK _ _ rfl ⟨by simpa using HC9.out.1, HC9.out.2⟩
          refine StepsF.run rfl ?_ ?_
          · intro L U wr hC hP hlk hcl haf A K hFm hK
            simp [Aft, Region.binds] at haf
            have e20 : A.tmps[20]? = some (.pointer (some ⟨g, 0, none⟩)) := hFm.is 1 20 rfl (hP 1 20 (by simp [haf]) rfl)
            have HC9 := hide hC
            clear hC hK
            refine ⟨?_⟩
            go_simp
            refine (HC1.out wr HC9.out.2.2 (fun e => by cases e)).mono ?_
            rintro e w9 ⟨m9, rfl⟩
            obtain ⟨tm9, df9⟩ := A
            have hd9 : df9 = [] := hFm.def_
            subst hd9
            clear hFm
            go_simp
            show Ans ShE w g lo en dp _ w9 R
            rw [HRR.out]
            exact ⟨Mv.out (mvt HM5.out (Mv.wide (HC9.out.2.1.to m9) (fun b hb => Or.inl hb))) (fun b hb => hb), rfl⟩
          refine StepsF.run rfl ?_ ?_
          · intro L U wr hC hP hlk hcl haf A K hFm hK
            simp [Aft, Region.binds] at haf
            have e19 : A.tmps[19]? = some (.slice q ss.length c) := hFm.is 0 19 rfl (hP 0 19 (by simp [haf]) rfl)
            have HC9 := hide hC
            clear hC
            refine ⟨?_⟩
            go_simp
            exact hK _ _ rfl ⟨by simpa using HC9.out.1, HC9.out.2⟩
          refine StepsF.run rfl ?_ ?_
          · intro L U wr hC hP hlk hcl haf A K hFm hK
            clear haf
            have HC9 := hide hC
            clear hC
            refine ⟨?_⟩
            go_simp
            exact hK _ _ trivial ⟨by simpa using HC9.out.1, Sat.Mv.alloc HC9.out.2.1 _, HC9.out.2.2.alloc _⟩
          refine StepsF.run rfl ?_ ?_
          · intro L U wr hC hP hlk hcl haf A K hFm hK
            simp [Aft, Region.binds] at haf
            have h2 := hC.1
            exact absurd h2 (by simp [haf])
          refine StepsF.run rfl ?_ ?_
          · intro L U wr hC hP hlk hcl haf A K hFm hK
            simp [Aft, Region.binds] at haf
            have h2 := hC.1
            exact absurd h2 (by simp [haf])
          refine StepsF.run rfl ?_ ?_
          · intro L U wr hC hP hlk hcl haf A K hFm hK
            simp [Aft, Region.binds] at haf
            have h2 := hC.1
            exact absurd h2 (by simp [haf])
          refine StepsF.run rfl ?_ StepsF.nil
          · intro L U wr hC hP hlk hcl haf A K hFm hK
            simp [Aft, Region.binds] at haf
            have h2 := hC.1
            exact absurd h2 (by simp [haf])
        intro L U9 w9 hall hC hP
        exact absurd hC.1 (by rw [hall 2 (by decide)]; decide)
      | ok r1 s1 =>
        have hn := HNS.out
        subst hn
        clear HNS
        obtain ⟨op1, nm1, args1, tys1, p1, rfl, hi1⟩ := HI1.out _ _ rfl
        have HI9 := hide hi1
        clear hi1
        have hl1 := HL1.out _ _ rfl
        simp only [kOf] at hl1
        refine wp_region_F (by kernel_rfl) [some 19, some 20, some 21, some 22, some 23, some 24, some 25, none, none] [none, none, none, none, none, none, none, none, none, none, none, none, none, none, none, none, none, none, none, some 19, some 20, some 21, some 22, some 23, some 24, some 25] (fun U => by kernel_rfl) [fun u => u = (.slice q ss.length c), fun u => u = (.pointer (some ⟨g, 0, none⟩)), fun _ => True, fun u => u = (.int .i64 (ss.length : Nat)), fun _ => True, fun _ => True, fun _ => True, fun _ => True, fun _ => True] (fun L U wr => (L 5 = false → MvR g w5 wr ∧ (L 2 = false → Q wr g lo en dp stk.tail) ∧ (L 2 = true → Q wr g lo en dp s1 ∧ ∃ qA1 cA1 qB1 cB1, U 21 = .agg #[.string (tx op1), .string (tx nm1), .slice qA1 args1.length cA1, .slice qB1 tys1.length cB1, .int .i64 (p1 : Nat)] ∧ X wr (fun b => w5.heap.size ≤ b) (.slice qA1 args1.length cA1) (.l 0 args1) ∧ X wr (fun b => w5.heap.size ≤ b) (.slice qB1 tys1.length cB1) (.l 1 tys1)) ∧ (L 4 = true → ∃ b4 : Nat, U 23 = .slice (some ⟨b4, 0, none⟩) 1 1 ∧ w5.heap.size ≤ b4 ∧ Blk 49 wr b4 #[.string ByteArray.empty, .string ByteArray.empty, .slice none 0 0, .slice none 0 0, .int .i64 0])) ∧ (L 5 = true → (∀ i, i < 5 → L i = true) ∧ ∃ (b9 c9 : Nat) (C9 : Nat → List Value), U 24 = .slice (some ⟨b9, 0, none⟩) (ss.length + 1) c9 ∧ ((w.heap.size + 1 ≤ b9 ∧ c1 b9 = 1) ∨ w5.heap.size ≤ b9) ∧ Sat.Mv (fun b => b = g ∨ b = (w1.heap.size + 1) ∨ ((w.heap.size + 1 ≤ b ∧ c1 b = 1) ∨ w5.heap.size ≤ b)) w5 wr ∧ Q wr g lo en dp s1 ∧ (∃ qA1 cA1 qB1 cB1, U 21 = .agg #[.string (tx op1), .string (tx nm1), .slice qA1 args1.length cA1, .slice qB1 tys1.length cB1, .int .i64 (p1 : Nat)] ∧ X wr (fun b => w5.heap.size ≤ b ∧ b ≠ b9) (.slice qA1 args1.length cA1) (.l 0 args1) ∧ X wr (fun b => w5.heap.size ≤ b ∧ b ≠ b9) (.slice qB1 tys1.length cB1) (.l 1 tys1)) ∧ LF wr (fun b => ((w.heap.size + 1 ≤ b ∧ c1 b = 1) ∨ w5.heap.size ≤ b)) 0 (.slice (some ⟨b9, 0, none⟩) (ss.length + 1) c9) (ss ++ [if L 7 = true then (exR op1 nm1 args1 tys1 p1) else (exR [] [] [] [] 0)]) C9 ∧ (L 6 = true → U 25 = .pointer (some ⟨b9, ss.length * 5, none⟩)) ∧ (L 7 = true → L 6 = true) ∧ Blk 45 wr (w1.heap.size + 1) #[if L 8 = true then .slice (some ⟨b9, 0, none⟩) (ss.length + 1) c9 else .slice q ss.length c])) (by kernel_rfl) (by decide) (by kernel_rfl) (by kernel_rfl) (fun U => ⟨fun _ => ⟨Sat.Mv.below (Below.refl _ _).drew, fun _ => HQ5.out.below (Below.refl _ _).drew, (fun h => by cases h), (fun h => by cases h)⟩, fun h => by cases h⟩) ?_ ?_
        · refine StepsF.run rfl ?_ ?_
          · intro L U wr hC hP hlk hcl haf A K hFm hK
            clear haf
            have e3 : A.tmps[3]? = some (.pointer (some ⟨(w1.heap.size + 1), 0, none⟩)) := (hFm.old 3 (by decide)).trans (by kernel_rfl)
            have h5 : L 5 = false := by cases h : L 5 with | false => rfl | true => have h9 := (hC.2 h).1 0 (by decide); rw [hlk] at h9; cases h9
            obtain ⟨hm, hq0, hq2, hb4⟩ := hC.1 h5
            clear hC
            have HZ := hide (And.intro hm (And.intro hq0 (And.intro hq2 hb4)))
            have hLk := hm.blk HB35.out (by omega)
            obtain ⟨b9_0, f9_0⟩ := bk1 hLk
            clear hLk
            clear hm hq0 hq2 hb4
            refine ⟨?_⟩
            go_simp
            obtain ⟨hm, hq0, hq2, hb4⟩ := HZ.out
            exact hK _ _ rfl ⟨fun _ => ⟨hm, (fun h1 => hq0 (by simpa using h1)), (fun h1 => by have h9 := hq2 (by simpa using h1); simpa [updO, Go.Proofs.YtomldkljlbdnjaaGreat.upd] using h9), (fun h1 => by have h9 := hb4 (by simpa using h1); simpa [updO, Go.Proofs.YtomldkljlbdnjaaGreat.upd] using h9)⟩, fun h => absurd (show L 5 = true by simpa using h) (by rw [h5]; decide)⟩
          refine StepsF.run rfl ?_ ?_
          · intro L U wr hC hP hlk hcl haf A K hFm hK
            clear haf
            have e0 : A.tmps[0]? = some (.pointer (some ⟨g, 0, none⟩)) := (hFm.old 0 (by decide)).trans (by kernel_rfl)
            have h5 : L 5 = false := by cases h : L 5 with | false => rfl | true => have h9 := (hC.2 h).1 1 (by decide); rw [hlk] at h9; cases h9
            obtain ⟨hm, hq0, hq2, hb4⟩ := hC.1 h5
            clear hC
            have HZ := hide (And.intro hm (And.intro hq0 (And.intro hq2 hb4)))
            clear hm hq0 hq2 hb4
            refine ⟨?_⟩
            go_simp
            obtain ⟨hm, hq0, hq2, hb4⟩ := HZ.out
            exact hK _ _ rfl ⟨fun _ => ⟨hm, (fun h1 => hq0 (by simpa using h1)), (fun h1 => by have h9 := hq2 (by simpa using h1); simpa [updO, Go.Proofs.YtomldkljlbdnjaaGreat.upd] using h9), (fun h1 => by have h9 := hb4 (by simpa using h1); simpa [updO, Go.Proofs.YtomldkljlbdnjaaGreat.upd] using h9)⟩, fun h => absurd (show L 5 = true by simpa using h) (by rw [h5]; decide)⟩
          refine StepsF.run rfl ?_ ?_
          · intro L U wr hC hP hlk hcl haf A K hFm hK
            simp [Aft, Region.binds] at haf
            have e20 : A.tmps[20]? = some (.pointer (some ⟨g, 0, none⟩)) := hFm.is 1 20 rfl (hP 1 20 (by simp [haf]) rfl)
            have h5 : L 5 = false := by cases h : L 5 with | false => rfl | true => have h9 := (hC.2 h).1 2 (by decide); rw [hlk] at h9; cases h9
            obtain ⟨hm, hq0, hq2, hb4⟩ := hC.1 h5
            clear hC
            have HZ := hide (And.intro hm (And.intro hq0 (And.intro hq2 hb4)))
            have HQA := hide (hq0 hlk)
            clear hm hq0 hq2 hb4
            refine ⟨?_⟩
            go_simp
            obtain ⟨hm, hq0, hq2, hb4⟩ := HZ.out
            refine (HC1.out wr HQA.out (fun e => by cases e)).mono ?_
            rintro e w9 ⟨m9, q9, u, rfl, op9, nm9, args9, tys9, p9, A9, B9, hr9, rfl, xA9, xB9⟩
            simp only [exR, List.cons.injEq, V.s.injEq, V.l.injEq, V.a.injEq, true_and, and_true] at hr9
            obtain ⟨h91, h92, h93, h94, h95⟩ := hr9
            subst h91 h92 h93 h94 h95
            obtain ⟨qA1, cA1, rfl⟩ := xA9.slice
            obtain ⟨qB1, cB1, rfl⟩ := xB9.slice
            have hz9 := hm.size
            have HX9 := hide (And.intro xA9 xB9)
            have HM9 := hide (And.intro m9 q9)
            clear xA9 xB9 m9 q9 hm hq0 hq2 hb4
            go_simp
            obtain ⟨hm, hq0, hq2, hb4⟩ := HZ.out
            exact hK _ _ trivial ⟨fun _ => ⟨hm.to HM9.out.1, (fun h1 => by simp at h1), (fun h1 => ⟨HM9.out.2, qA1, cA1, qB1, cB1, by simp [updO, Go.Proofs.YtomldkljlbdnjaaGreat.upd], HX9.out.1.stay (fun b hb _ => ⟨rfl, Nat.le_trans hz9 hb⟩), HX9.out.2.stay (fun b hb _ => ⟨rfl, Nat.le_trans hz9 hb⟩)⟩), (fun h1 => by obtain ⟨b4, k1, k2, k3⟩ := hb4 (by simpa using h1); exact ⟨b4, by simpa [updO, Go.Proofs.YtomldkljlbdnjaaGreat.upd] using k1, k2, HM9.out.1.blk k3 (by omega)⟩)⟩, fun h => absurd (show L 5 = true by simpa using h) (by rw [h5]; decide)⟩
          refine StepsF.run rfl ?_ ?_
          · intro L U wr hC hP hlk hcl haf A K hFm hK
            simp [Aft, Region.binds] at haf
            have e19 : A.tmps[19]? = some (.slice q ss.length c) := hFm.is 0 19 rfl (hP 0 19 (by simp [haf]) rfl)
            have h5 : L 5 = false := by cases h : L 5 with | false => rfl | true => have h9 := (hC.2 h).1 3 (by decide); rw [hlk] at h9; cases h9
            obtain ⟨hm, hq0, hq2, hb4⟩ := hC.1 h5
            clear hC
            have HZ := hide (And.intro hm (And.intro hq0 (And.intro hq2 hb4)))
            clear hm hq0 hq2 hb4
            refine ⟨?_⟩
            go_simp
            obtain ⟨hm, hq0, hq2, hb4⟩ := HZ.out
            exact hK _ _ rfl ⟨fun _ => ⟨hm, (fun h1 => hq0 (by simpa using h1)), (fun h1 => by have h9 := hq2 (by simpa using h1); simpa [updO, Go.Proofs.YtomldkljlbdnjaaGreat.upd] using h9), (fun h1 => by have h9 := hb4 (by simpa using h1); simpa [updO, Go.Proofs.YtomldkljlbdnjaaGreat.upd] using h9)⟩, fun h => absurd (show L 5 = true by simpa using h) (by rw [h5]; decide)⟩
          refine StepsF.run rfl ?_ ?_
          · intro L U wr hC hP hlk hcl haf A K hFm hK
            clear haf
            have h5 : L 5 = false := by cases h : L 5 with | false => rfl | true => have h9 := (hC.2 h).1 4 (by decide); rw [hlk] at h9; cases h9
            obtain ⟨hm, hq0, hq2, hb4⟩ := hC.1 h5
            clear hC
            have HZ := hide (And.intro hm (And.intro hq0 (And.intro hq2 hb4)))
            clear hm hq0 hq2 hb4
            refine ⟨?_⟩
            go_simp
            obtain ⟨hm, hq0, hq2, hb4⟩ := HZ.out
            exact hK _ _ trivial ⟨fun _ => ⟨Sat.Mv.alloc hm _, (fun h1 => (hq0 (by simpa using h1)).alloc _), (fun h1 => by obtain ⟨k0, qA1, cA1, qB1, cB1, k1, k2, k3⟩ := hq2 (by simpa using h1); exact ⟨k0.alloc _, qA1, cA1, qB1, cB1, by simpa [updO, Go.Proofs.YtomldkljlbdnjaaGreat.upd] using k1, k2.stay (fun b hb hl => ⟨Below.heap_alloc wr _ b hl, hb⟩), k3.stay (fun b hb hl => ⟨Below.heap_alloc wr _ b hl, hb⟩)⟩), (fun h1 => ⟨wr.heap.size, by simp [updO, Go.Proofs.YtomldkljlbdnjaaGreat.upd], hm.size, heap_alloc_new wr _⟩)⟩, fun h => absurd (show L 5 = true by simpa using h) (by rw [h5]; decide)⟩
          refine StepsF.run rfl ?_ ?_
          · intro L U wr hC hP hlk hcl haf A K hFm hK
            simp [Aft, Region.binds] at haf
            have e19 : A.tmps[19]? = some (.slice q ss.length c) := hFm.is 0 19 rfl (hP 0 19 (by simp [haf]) rfl)
            obtain ⟨hm, hq0, hq2, hb4⟩ := hC.1 hlk
            clear hC
            have h6 : L 6 = false := by cases h : L 6 with | false => rfl | true => have h9 := hcl 6 _ rfl h; simp [Aft, Region.binds, hlk] at h9
            have h7 : L 7 = false := by cases h : L 7 with | false => rfl | true => have h9 := hcl 7 _ rfl h; simp [Aft, Region.binds, hlk] at h9
            have h8 : L 8 = false := by cases h : L 8 with | false => rfl | true => have h9 := hcl 8 _ rfl h; simp [Aft, Region.binds, hlk] at h9
            obtain ⟨q9, qA1, cA1, qB1, cB1, k1, xA9, xB9⟩ := hq2 (by simp [haf])
            obtain ⟨b4, k4, kb4, kB4⟩ := hb4 (by simp [haf])
            have e23 : A.tmps[23]? = some (.slice (some ⟨b4, 0, none⟩) 1 1) := hFm.is 4 23 rfl k4
            have hlf := HLF5.out.far hm (fun b hb hl hk => by have hk : b = g := hk; omega) (fun b hb => hb)
            refine ⟨?_⟩
            refine Euf.wp_push1 (.tmp 19) (.tmp 23) 45 rfl 5 49 _ 88 uE_list iE_elem (by decide) rfl (by decide) (.slice q ss.length c) ss.length C (by simp [Act.eval, e19]) hlf.ol hlf.len [.string ByteArray.empty, .string ByteArray.empty, .slice none 0 0, .slice none 0 0, .int .i64 0] 49 (.slice (some ⟨b4, 0, none⟩) 1 1) ⟨b4, rfl, kB4⟩ (by simp [Act.eval, e23]) rfl (by intro u hu; simp at hu; rcases hu with rfl | rfl | rfl | rfl | rfl <;> rfl) (by have := HCT.out; have := HLN.out; omega) (putC C ss.length [.string ByteArray.empty, .string ByteArray.empty, .slice none 0 0, .slice none 0 0, .int .i64 0]) (fun k hk => by unfold putC; rw [if_neg (by omega)]) (by unfold putC; rw [if_pos rfl]) ?_
            intro v9 w9 hol9 hap9 hne9
            have hz9 := hm.size
            have hxz : XR wr (fun _ => False) [.string ByteArray.empty, .string ByteArray.empty, .slice none 0 0, .slice none 0 0, .int .i64 0] (exR [] [] [] [] 0) := .cons (X.s _ _ []) (.cons (X.s _ _ []) (.cons (X.nil _ _ _) (.cons (X.nil _ _ _) (.cons (X.a _ _ 0) .nil))))
            have hlf9 := LF.push1 (F' := (fun b => ((w.heap.size + 1 ≤ b ∧ c1 b = 1) ∨ w5.heap.size ≤ b))) hlf (fun _ => False) rfl hxz hol9 hap9 (fun b hb => Or.inl hb) (fun b hb => hb.elim) (fun b hb => Or.inr (Nat.le_trans hz9 hb))
            obtain ⟨b9, c9, cur9, e9, -⟩ := hol9.resolve_left (fun h => hne9 h.1)
            subst e9
            have hown : ∀ b, (Value.slice q ss.length c).ownBlock = some b → w.heap.size + 1 ≤ b ∧ c1 b = 1 := fun b hb => HLF5.out.own b hb
            have hb9 : ((w.heap.size + 1 ≤ b9 ∧ c1 b9 = 1) ∨ w5.heap.size ≤ b9) := hlf9.own b9 rfl
            have hn9 : ∀ b, w5.heap.size ≤ b → b < wr.heap.size → b ≠ b9 ∧ (Value.slice q ss.length c).ownBlock ≠ some b := fun b hb hl => ⟨fun e => by
              rcases hap9.at_ with h | ⟨b2, h, hb2⟩
              · have := HLF5.out.ol.lt (b := b9) h.symm; omega
              · have h : some b9 = some b2 := h; injection h with h; omega, fun e => by have := HLF5.out.ol.lt e; omega⟩
            have hm9 : Sat.Mv (fun b => b = g ∨ b = (w1.heap.size + 1) ∨ ((w.heap.size + 1 ≤ b ∧ c1 b = 1) ∨ w5.heap.size ≤ b)) w5 w9 := Sat.Mv.app (Mv.wide hm (fun b hb => Or.inl hb)) hap9 (fun b hb => Or.inl (Or.inr (Or.inr (Or.inl (hown b hb)))))
            have hq9 := q9.mv (Sat.Mv.app (F := fun b => w.heap.size + 1 ≤ b) (Sat.Mv.refl _ wr) hap9 (fun b hb => Or.inl (hown b hb).1)) (fun b hb => by have hb : w.heap.size + 1 ≤ b := hb; omega)
            have hB9 : Blk 45 w9 (w1.heap.size + 1) #[.slice q ss.length c] := (hap9.other _ (by omega) (fun e => by have h9 := (hown _ e).2; rw [HC5.out] at h9; cases h9)).trans (hm.blk HB35.out (by omega))
            refine hK _ _ trivial ⟨(fun h => by simp at h), fun _ => ⟨fun i hi => ?_, b9, c9, _, by simp [updO, Go.Proofs.YtomldkljlbdnjaaGreat.upd], hb9, hm9, hq9, ⟨qA1, cA1, qB1, cB1, by simpa [updO, Go.Proofs.YtomldkljlbdnjaaGreat.upd] using k1, xA9.stay (fun b hb hl => ⟨hap9.other b hl (hn9 b hb hl).2, hb, (hn9 b hb hl).1⟩), xB9.stay (fun b hb hl => ⟨hap9.other b hl (hn9 b hb hl).2, hb, (hn9 b hb hl).1⟩)⟩, by simpa [h7] using hlf9, (fun h => absurd h (by simp [h6])), (fun h => absurd h (by simp [h7])), by simpa [h8] using hB9⟩⟩
            obtain rfl | rfl | rfl | rfl | rfl : i = 0 ∨ i = 1 ∨ i = 2 ∨ i = 3 ∨ i = 4 := by omega
            all_goals simp [haf]
          refine StepsF.run rfl ?_ ?_
          · intro L U wr hC hP hlk hcl haf A K hFm hK
            simp [Aft, Region.binds] at haf
            have e22 : A.tmps[22]? = some (.int .i64 (ss.length : Nat)) := hFm.is 3 22 rfl (hP 3 22 (by simp [haf]) rfl)
            obtain ⟨ha, b9, c9, C9, k24, hb9, hm9, hq9, hx9, hlf9, h25, h76, hB9⟩ := hC.2 (by simp [haf])
            have e24 : A.tmps[24]? = some (.slice (some ⟨b9, 0, none⟩) (ss.length + 1) c9) := hFm.is 5 24 rfl k24
            have HZ := hide (And.intro hm9 (And.intro hq9 (And.intro hx9 (And.intro hlf9 hB9))))
            clear hC hm9 hq9 hx9 hlf9 hB9
            refine ⟨?_⟩
            go_simp
            obtain ⟨hm9, hq9, hx9, hlf9, hB9⟩ := HZ.out
            have hgo := hK (.pointer (some ⟨b9, ss.length * 5, none⟩)) wr trivial ⟨(fun h => absurd (show (L 5) = false by simpa using h) (by rw [(show L 5 = true by simp [haf])]; decide)), fun _ => ⟨(fun i hi => by simp [ha i hi]), b9, c9, C9, by simpa [updO, Go.Proofs.YtomldkljlbdnjaaGreat.upd] using k24, hb9, hm9, hq9, by simpa [updO, Go.Proofs.YtomldkljlbdnjaaGreat.upd] using hx9, by simpa using hlf9, (fun _ => by simp [updO, Go.Proofs.YtomldkljlbdnjaaGreat.upd]), (fun h => by simp), by simpa using hB9⟩⟩
            rw [if_pos (show ((ss.length : Int) < ss.length + 1) by omega)]
            first | exact hgo | (go_simp; exact hgo)
          refine StepsF.run rfl ?_ ?_
          · intro L U wr hC hP hlk hcl haf A K hFm hK
            simp [Aft, Region.binds] at haf
            have e22 : A.tmps[22]? = some (.int .i64 (ss.length : Nat)) := hFm.is 3 22 rfl (hP 3 22 (by simp [haf]) rfl)
            obtain ⟨ha, b9, c9, C9, k24, hb9, hm9, hq9, hx9, hlf9, h25, h76, hB9⟩ := hC.2 (by simp [haf])
            have h6 : L 6 = true := by simp [haf]
            have e25 : A.tmps[25]? = some (.pointer (some ⟨b9, ss.length * 5, none⟩)) := hFm.is 6 25 rfl (h25 h6)
            obtain ⟨qA1, cA1, qB1, cB1, k1, xA9, xB9⟩ := hx9
            have e21 : A.tmps[21]? = some (.agg #[.string (tx op1), .string (tx nm1), .slice qA1 args1.length cA1, .slice qB1 tys1.length cB1, .int .i64 (p1 : Nat)]) := hFm.is 2 21 rfl k1
            rw [if_neg (by rw [hlk]; decide)] at hlf9
            have hll : (ss ++ [(exR [] [] [] [] 0)]).length = ss.length + 1 := by simp
            have ho := hlf9.ol
            rw [hll] at ho
            have hl5 : (C9 ss.length).length = 5 := hlf9.len ss.length (by rw [hll]; omega)
            obtain ⟨y0, y1, y2, y3, y4, hy⟩ : ∃ y0 y1 y2 y3 y4, C9 ss.length = [y0, y1, y2, y3, y4] := by
              match h9 : C9 ss.length, hl5 with
              | [a0, a1, a2, a3, a4], _ => exact ⟨a0, a1, a2, a3, a4, rfl⟩
            have g9_0 : wr.cell? ⟨b9, ss.length * 5, none⟩ = some y0 := by have h9 := ho.cell (i := ss.length) (j := 0) (by omega) (by decide); rw [hy] at h9; exact h9
            have f9_0 := ho.frozen (ss.length * 5)
            have g9_1 : wr.cell? ⟨b9, ss.length * 5 + 1, none⟩ = some y1 := by have h9 := ho.cell (i := ss.length) (j := 1) (by omega) (by decide); rw [hy] at h9; exact h9
            have f9_1 := ho.frozen (ss.length * 5 + 1)
            have g9_2 : wr.cell? ⟨b9, ss.length * 5 + 2, none⟩ = some y2 := by have h9 := ho.cell (i := ss.length) (j := 2) (by omega) (by decide); rw [hy] at h9; exact h9
            have f9_2 := ho.frozen (ss.length * 5 + 2)
            have g9_3 : wr.cell? ⟨b9, ss.length * 5 + 3, none⟩ = some y3 := by have h9 := ho.cell (i := ss.length) (j := 3) (by omega) (by decide); rw [hy] at h9; exact h9
            have f9_3 := ho.frozen (ss.length * 5 + 3)
            have g9_4 : wr.cell? ⟨b9, ss.length * 5 + 4, none⟩ = some y4 := by have h9 := ho.cell (i := ss.length) (j := 4) (by omega) (by decide); rw [hy] at h9; exact h9
            have f9_4 := ho.frozen (ss.length * 5 + 4)
            have HZ := hide (And.intro hm9 (And.intro hq9 (And.intro hlf9 (And.intro hB9 (And.intro xA9 xB9)))))
            clear hC hm9 hq9 hlf9 hB9 xA9 xB9 ho
            refine ⟨?_⟩
            go_simp
            obtain ⟨hm9, hq9, hlf9, hB9, xA9, xB9⟩ := HZ.out
            have hlf := LF.put5 (r := (exR op1 nm1 args1 tys1 p1)) (.string (tx op1)) (.string (tx nm1)) (.slice qA1 args1.length cA1) (.slice qB1 tys1.length cB1) (.int .i64 (p1 : Nat)) hlf9 rfl (.cons (X.s _ _ _) (.cons (X.s _ _ _) (.cons (xA9.stay (fun b hb _ => ⟨rfl, Or.inr hb.1, hb.2⟩)) (.cons (xB9.stay (fun b hb _ => ⟨rfl, Or.inr hb.1, hb.2⟩)) (.cons (X.a _ _ _) .nil)))))
            obtain ⟨wz, hwz⟩ : ∃ wz, wz = (((((wr.setCell ⟨b9, ss.length * 5, none⟩ (.string (tx op1))).setCell ⟨b9, ss.length * 5 + 1, none⟩ (.string (tx nm1))).setCell ⟨b9, ss.length * 5 + 2, none⟩ (.slice qA1 args1.length cA1)).setCell ⟨b9, ss.length * 5 + 3, none⟩ (.slice qB1 tys1.length cB1)).setCell ⟨b9, ss.length * 5 + 4, none⟩ (.int .i64 (p1 : Nat))) := ⟨_, rfl⟩
            rw [← hwz] at hlf ⊢
            have ms : Sat.Mv (fun b => b = b9) wr wz := by
              rw [hwz]
              iterate 5 refine Sat.Mv.set (F := fun b => b = b9) ?_ (Or.inl rfl) _
              exact Sat.Mv.refl _ _
            clear hwz
            have hz9 := hm9.size
            have hne : b9 ≠ (w1.heap.size + 1) := by rintro rfl; have h9 := HC5.out; omega
            exact hK undef _ trivial ⟨(fun h => absurd (show (L 5) = false by simpa using h) (by rw [(show L 5 = true by simp [haf])]; decide)), fun _ => ⟨(fun i hi => by simp [ha i hi]), b9, c9, _, by simpa [updO, Go.Proofs.YtomldkljlbdnjaaGreat.upd] using k24, hb9, mvt hm9 (Mv.wide ms (fun b hb => by have hb : b = b9 := hb; subst hb; exact Or.inr (Or.inr hb9))), hq9.mv ms (fun b hb => by have hb : b = b9 := hb; omega), ⟨qA1, cA1, qB1, cB1, by simpa [updO, Go.Proofs.YtomldkljlbdnjaaGreat.upd] using k1, xA9.far ms (fun b hb hl hk => hb.2 hk) (fun b hb => hb), xB9.far ms (fun b hb hl hk => hb.2 hk) (fun b hb => hb)⟩, by simpa using hlf, (fun _ => by simpa [updO, Go.Proofs.YtomldkljlbdnjaaGreat.upd] using h25 h6), (fun _ => by simp [h6]), by
              have h9 : Blk 45 wz (w1.heap.size + 1) #[if L 8 = true then .slice (some ⟨b9, 0, none⟩) (ss.length + 1) c9 else .slice q ss.length c] := (ms.other _ (by omega) (fun hk => hne hk.symm)).trans hB9
              simpa using h9⟩⟩
          refine StepsF.run rfl ?_ StepsF.nil
          · intro L U wr hC hP hlk hcl haf A K hFm hK
            simp [Aft, Region.binds] at haf
            have e22 : A.tmps[22]? = some (.int .i64 (ss.length : Nat)) := hFm.is 3 22 rfl (hP 3 22 (by simp [haf]) rfl)
            have e3 : A.tmps[3]? = some (.pointer (some ⟨(w1.heap.size + 1), 0, none⟩)) := (hFm.old 3 (by decide)).trans (by kernel_rfl)
            obtain ⟨ha, b9, c9, C9, k24, hb9, hm9, hq9, hx9, hlf9, h25, h76, hB9⟩ := hC.2 (by simp [haf])
            have e24 : A.tmps[24]? = some (.slice (some ⟨b9, 0, none⟩) (ss.length + 1) c9) := hFm.is 5 24 rfl k24
            rw [if_neg (by rw [hlk]; decide)] at hB9
            obtain ⟨b9_0, f9_0⟩ := bk1 hB9
            have HZ := hide (And.intro hm9 (And.intro hq9 (And.intro hx9 (And.intro hlf9 hB9))))
            clear hC hm9 hq9 hx9 hlf9 hB9
            refine ⟨?_⟩
            go_simp
            obtain ⟨hm9, hq9, hx9, hlf9, hB9⟩ := HZ.out
            have hz9 := hm9.size
            have ms : Sat.Mv (fun b => b = (w1.heap.size + 1)) wr (wr.setCell ⟨(w1.heap.size + 1), 0, none⟩ (.slice (some ⟨b9, 0, none⟩) (ss.length + 1) c9)) := Sat.Mv.set (F := fun b => b = (w1.heap.size + 1)) (Sat.Mv.refl _ wr) (Or.inl rfl) _
            have hlf := hlf9.far ms (fun b hb hl hk => by have hk : b = (w1.heap.size + 1) := hk; subst hk; have h9 := HC5.out; omega) (fun b hb => hb)
            have hxx := hx9
            obtain ⟨qA1, cA1, qB1, cB1, k1, xA9, xB9⟩ := hx9
            exact hK undef _ trivial ⟨(fun h => absurd (show (L 5) = false by simpa using h) (by rw [(show L 5 = true by simp [haf])]; decide)), fun _ => ⟨(fun i hi => by simp [ha i hi]), b9, c9, C9, by simpa [updO, Go.Proofs.YtomldkljlbdnjaaGreat.upd] using k24, hb9, mvt hm9 (Mv.wide ms (fun b hb => Or.inr (Or.inl hb))), hq9.mv ms (fun b hb => by have hb : b = (w1.heap.size + 1) := hb; omega), ⟨qA1, cA1, qB1, cB1, by simpa [updO, Go.Proofs.YtomldkljlbdnjaaGreat.upd] using k1, xA9.far ms (fun b hb hl hk => by have hk : b = (w1.heap.size + 1) := hk; omega) (fun b hb => hb), xB9.far ms (fun b hb hl hk => by have hk : b = (w1.heap.size + 1) := hk; omega) (fun b hb => hb)⟩, by simpa using hlf, (fun h => by simpa [updO, Go.Proofs.YtomldkljlbdnjaaGreat.upd] using h25 (by simpa using h)), (fun h => by have := h76 (by simpa using h); simpa using this), by simpa using Blk.set hB9 0 _⟩⟩
        intro L U9 w9 hall hC hP
        obtain ⟨-, b9, c9, C9, -, hb9, hm9, hq9, -, hlf9, -, -, hB9⟩ := hC.2 (hall 5 (by decide))
        rw [if_pos (hall 7 (by decide))] at hlf9
        rw [if_pos (hall 8 (by decide))] at hB9
        clear hC hP hall
        simp only [setM_some, setM_none, setM_nil]
        obtain ⟨c2, hc2⟩ : ∃ c2 : Nat → Nat, ∀ b, c2 b = if w5.heap.size ≤ b then 1 else c1 b := ⟨_, fun _ => rfl⟩
        have HLF9 := hide (hlf9.stay2 (F' := fun b => w.heap.size + 1 ≤ b ∧ c2 b = 1) (fun b hb hl => ⟨rfl, by
          have hb : ((w.heap.size + 1 ≤ b ∧ c1 b = 1) ∨ w5.heap.size ≤ b) := hb
          show w.heap.size + 1 ≤ b ∧ c2 b = 1
          rw [hc2]
          split <;> omega⟩))
        have own9 : ∀ b, (Value.slice q5 (sg.length + 1) c5).ownBlock = some b → b < w5.heap.size := fun b hb => HTL5.out.lt (b := b) (by rw [List.length_append]; exact hb)
        have HTL9 : Hid (TL w9 (.slice q5 (sg ++ [Syn.hd en stk]).length c5) (sg ++ [Syn.hd en stk])) := hide (OL.stay HTL5.out fun b hb => hm9.other b (HTL5.out.lt hb) (fun hk => by
          have hk : b = g ∨ b = (w1.heap.size + 1) ∨ ((w.heap.size + 1 ≤ b ∧ c1 b = 1) ∨ w5.heap.size ≤ b) := hk
          rw [List.length_append] at hb
          have h9 := HOW5.out b hb
          have h8 := own9 b hb
          rcases hk with hk | hk | hk | hk
          · omega
          · subst hk; have h7 := HC5.out; omega
          · omega
          · omega))
        have HOW9 : Hid (∀ b, (Value.slice q5 (sg ++ [Syn.hd en stk]).length c5).ownBlock = some b → w.heap.size + 1 ≤ b ∧ c2 b = 2) := hide fun b hb => by
          rw [List.length_append] at hb
          have h9 := HOW5.out b hb
          have h8 := own9 b hb
          rw [hc2, if_neg (by omega)]
          exact h9
        have HM9 := hide (mvt HM5.out (Mv.wide (G := fun b => b = g ∨ w.heap.size ≤ b) hm9 (fun b hb => by have hb : b = g ∨ b = (w1.heap.size + 1) ∨ ((w.heap.size + 1 ≤ b ∧ c1 b = 1) ∨ w5.heap.size ≤ b) := hb; show b = g ∨ w.heap.size ≤ b; omega)))
        have HB9 : Hid (Blk 49 w9 w.heap.size #[.string ByteArray.empty, .string ByteArray.empty, .slice none 0 0, .slice none 0 0, .int .i64 0]) := hide ((hm9.other _ zB5 (fun hk => by have hk : w.heap.size = g ∨ w.heap.size = (w1.heap.size + 1) ∨ ((w.heap.size + 1 ≤ w.heap.size ∧ c1 w.heap.size = 1) ∨ w5.heap.size ≤ w.heap.size) := hk; omega)).trans HB5.out)
        have HC9 : Hid (c2 (w1.heap.size + 1) = 0) := hide (by rw [hc2, if_neg (by omega)]; exact HC5.out)
        have HQ9 := hide hq9
        have HB39 := hide hB9
        clear hlf9 hm9 hq9 hB9 own9 hb9 hc2
        go_wp2
        go_roundg m
        case measure => omega
        case rel => exact ⟨ss ++ [(exR op1 nm1 args1 tys1 p1)], sg ++ [Syn.hd en stk], some ⟨b9, 0, none⟩, ss.length + 1, c9, C9, q5, c5, c2, s1, by rw [List.length_append]; rfl, by omega, ⟨HRR.out, by simp, by simp; exact HLN.out, by have := HCT.out; simp; omega, (fun e he => by
          rcases List.mem_append.1 he with he | he
          · exact HIE.out e he
          · simp at he
            subst he
            exact ⟨_, _, _, _, _, rfl, HI9.out⟩), HLF9.out, HTL9.out, HOW9.out, HQ9.out, HM9.out, HB9.out, HB39.out, HC9.out⟩⟩
end Syn
end Go.Proofs.YtomldkljlbdnjaaGreat
