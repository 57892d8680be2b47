/- awake: the page's example is read and printed. No statement of the seat is proved here. -/
import Derived.Test.YtomldkljlbdnjaaGreatSynGaCutJBinds
import Derived.Test.YtomldkljlbdnjaaGreatPrFCutJBinds
namespace Go.Proofs.YtomldkljlbdnjaaGreat
open Go Go.RowKit
set_option linter.unusedVariables false
set_option linter.unusedSimpArgs false
namespace Syn
open Lex (T TL tx bs tkC FV IsNm hide)
open Prn (eq_t eq_f sC kPrint mainT pL pS XR_sm)
open Euf (OL)
theorem X.all {w : World} {F : Nat → Prop} {v : Value} {t : V} (h : X w F v t) : X w (fun b => b < w.heap.size) v t := h.stay fun b _ kl => ⟨rfl, kl⟩
abbrev exX : List UInt8 := [9, 112, 114, 105, 110, 116, 32, 49, 32, 43, 32, 50, 32, 42, 32, 51, 59, 10]
theorem exM_print : pL (pS 3 1) exM = some exX := by rfl
set_option maxHeartbeats 4000000 in
set_option maxRecDepth 4000 in
theorem awake11 (w : World) : Calls Tryz.prog 9 #[] w fun e w' => e = .returned (.bool true) ∧ Hid (Below w.heap.size w w') := by
  have HP : Hid _ := hide (parse_ok (tx Lex.exT) w Lex.exTs (by decide) (by rw [Lex.bs_tx]; exact Lex.lexF_lx 20 _ 0 _ Lex.exT_lex) (n := 60) (cls := []) (mn := exM) (st := []) exT_P)
  go_enter Tryz.func9, Tryz.ntmps9
  go_wp2_with fail
  refine HP.out.mono ?_
  rintro e w1 ⟨qA, cA, qB, cB, rfl, HX⟩
  have hXB := HX.out.2.1
  obtain ⟨C, hol, hF, hlen, hel⟩ := hXB.open
  obtain ⟨b, cap, hv, hc1, hc2⟩ := hol.open 0 (by decide)
  simp only [Value.slice.injEq] at hv
  obtain ⟨rfl, -, rfl⟩ := hv
  have hXR := (hel 0 (by decide)).stay (G := fun b => w.heap.size ≤ b) (w' := w1) fun b k _ => ⟨rfl, k.1⟩
  obtain ⟨qT, cT, qE, cE, qC, cC, qL, cL, hC, -, -, -, -⟩ := XR_sm (show XR w1 _ (C 0) (smR kPrint [] [] [exE] [] [] 7) from hXR)
  have c0 := OL.cell hol (i := 0) (by decide) (j := 0) (by decide)
  rw [hC] at c0
  simp only [Syn.wd, Nat.add_zero, Nat.zero_mul, List.getElem?_cons_zero] at c0
  have hbl := hol.lt (b := b) rfl
  have e0 := eq_t (show kPrint = ([112, 114, 105, 110, 116] : List UInt8) from rfl)
  obtain ⟨W, hW⟩ : ∃ W, W = (w1.alloc (.cells #[.slice qA 0 cA, .slice (some ⟨b, 0, none⟩) 1 cB] 26 (0, 0))).alloc (.cells #[.int .i64 0, .int .i64 0] 29 (0, 0)) := ⟨_, rfl⟩
  have hbW : Below w1.heap.size w1 W := by rw [hW]; go_grown
  have HPR := hide (Prn.Print_print 3 W qA cA (some ⟨b, 0, none⟩) cB exM exX ((hXB.stay (w' := W) (G := fun _ => True) fun b _ kl => ⟨hbW.block b kl, trivial⟩).all) exM_print (by decide))
  have e1 := eq_t (show mainT exX = ([109, 97, 105, 110, 32, 123, 10, 9, 112, 114, 105, 110, 116, 32, 49, 32, 43, 32, 50, 32, 42, 32, 51, 59, 10, 125, 10] : List UInt8) from rfl)
  have HB := hide (HX.out.2.2.trans (hbW.mono HX.out.2.2.size))
  clear hXB hol hF hlen hel hXR hC HX HP hbW
  generalize hkP : tx kPrint = kP at *
  generalize hkM : tx (mainT exX) = kM at *
  simp only [FV, show exM.length = 1 from rfl, List.length_nil]
  go_wp2_with fail
  rw [← hW]
  refine HPR.out.mono ?_
  rintro e w2 ⟨rfl, hb2⟩
  have HF : Hid (Below w.heap.size w w2) := by exact HB.out.trans (hb2.mono HB.out.size)
  clear HPR hW HB hb2 c0 hbl
  go_wp2
  go_ret
  exact ⟨rfl, HF⟩
end Syn
end Go.Proofs.YtomldkljlbdnjaaGreat
