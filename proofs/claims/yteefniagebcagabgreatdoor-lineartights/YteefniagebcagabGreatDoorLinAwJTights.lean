/- Contract of suretylaw03's awake; they prove no statement of the seat. -/
import Derived.Test.YteefniagebcagabGreatDoorLinRdJTights
import Derived.Test.YteefniagebcagabGreatDoorLinVJTights
namespace Go.Proofs.YteefniagebcagabGreatDoor
open Go.RowKit
set_option linter.unusedVariables false

theorem nT_pos (d : Nat) (h : d < 10) : nT (d : Int) = ⟨#[UInt8.ofNat (48 + d)]⟩ := by
  unfold nT Lib.itoa
  rw [if_neg (by omega), show ((d : Int)).toNat = d by omega, Lib.decDigits_one h]
theorem nT_neg (d : Nat) (h : d < 10) (h0 : 0 < d) : nT (-(d : Int)) = ⟨#[45, UInt8.ofNat (48 + d)]⟩ := by
  unfold nT Lib.itoa
  rw [if_pos (by omega), show (-(d : Int)).natAbs = d by omega, Lib.decDigits_one h]
theorem text_l (v : Value) (z : Int) (S : ByteArray) (w : World) (hv : AInt w v z) (h : nT z = S) :
    Calls Tryz.prog 29 #[v] w fun e w' => e = .returned (.string S) ∧ Below w.heap.size w w' := by
  subst h
  exact text_h v z w hv
theorem ltext_l (v : Value) (a : List (Nat × Int)) (r : Int) (S : ByteArray) (w : World) (hX : TermR w v a r) (ht : Tab w) (h : tT a r = S) :
    Calls Tryz.prog 30 #[v] w fun e w' => e = .returned (.string S) ∧ Below w.heap.size w w' := by
  subst h
  exact ltext_any v a r w hX ht
theorem row_open {w : World} {v : Value} {ps : List (Nat × Int)} {m : Int} (h : RowR w v ps m) : ∃ p q r x a n c y d l f,  v = .agg #[.slice p q r, .bool x, .slice a n c, .bool y, .slice d l f] ∧ TP w p q r x a n c ps 0 ∧ AInt w (.agg #[.bool y, .slice d l f]) m := h
theorem aw_read (ao : Option Addr) (w : World) (hm : MArr w ao [(0, ⟨#[50]⟩), (1, ⟨#[45, 52]⟩)]) :
    Calls Tryz.prog 16 #[.agg #[.slice ao 2 2, .string ⟨#[51]⟩]] w fun e w' => ∃ p q r x a n c y d l f,  e = .returned (.tuple #[.agg #[.slice p q r, .bool x, .slice a n c, .bool y, .slice d l f], .int .i64 0]) ∧ TP w' p q r x a n c [(0, 2), (1, -4)] 0 ∧ AInt w' (.agg #[.bool y, .slice d l f]) 3 ∧ Below w.heap.size w w' := by
  refine (lread_any ao 2 2 ⟨#[51]⟩ [(0, ⟨#[50]⟩), (1, ⟨#[45, 52]⟩)] w hm rfl (fun _ p hp => by simp at hp; rcases hp with rfl | rfl <;> decide) (by decide)).mono ?_
  rintro e w' ⟨v, rfl, hr, hb⟩
  have e1 : rdE [(0, ⟨#[50]⟩), (1, ⟨#[45, 52]⟩)] ⟨#[51]⟩ = 0 := by decide +kernel
  have e2 : rdP [(0, ⟨#[50]⟩), (1, ⟨#[45, 52]⟩)] ⟨#[51]⟩ = [(0, 2), (1, -4)] := by decide +kernel
  have e3 : rdM [(0, ⟨#[50]⟩), (1, ⟨#[45, 52]⟩)] ⟨#[51]⟩ = 3 := by decide +kernel
  rw [e2, e3] at hr
  rw [e1]
  obtain ⟨p, q, r, x, a, n, c, y, d, l, f, rfl, h1, h2⟩ := hr
  exact ⟨p, q, r, x, a, n, c, y, d, l, f, rfl, h1, h2, hb⟩
theorem aw_not (v : Value) (w : World) (hX : RowR w v [(0, 2), (1, -4)] 3) :
    Calls Tryz.prog 21 #[v] w fun e w' => ∃ p q r x a n c y d l f,  e = .returned (.tuple #[.agg #[.slice p q r, .bool x, .slice a n c, .bool y, .slice d l f], .int .i64 0]) ∧ TP w' p q r x a n c [(0, -2), (1, 4)] 0 ∧ AInt w' (.agg #[.bool y, .slice d l f]) (-4) ∧ Below w.heap.size w w' := by
  refine (lnot_any v _ _ w hX).mono ?_
  rintro e w' ⟨u, k, rfl, hr, hb⟩
  rcases hr with ⟨_, rfl, hr⟩ | ⟨h0, _⟩
  · obtain ⟨p, q, r, x, a, n, c, y, d, l, f, rfl, h1, h2⟩ := hr
    exact ⟨p, q, r, x, a, n, c, y, d, l, f, rfl, h1, h2, hb⟩
  · exact absurd (by decide +kernel) h0
theorem aw_tight (v : Value) (w : World) (hX : RowR w v [(0, 2), (1, -4)] 3) :
    Calls Tryz.prog 27 #[v] w fun e w' => ∃ p q r x a n c y d l f,  e = .returned (.agg #[.slice p q r, .bool x, .slice a n c, .bool y, .slice d l f]) ∧ TP w' p q r x a n c [(0, 1), (1, -2)] 0 ∧ AInt w' (.agg #[.bool y, .slice d l f]) 1 ∧ Below w.heap.size w w' := by
  refine (tight_any v _ _ w hX).mono ?_
  rintro e w' ⟨u, rfl, hr, hb⟩
  rw [show tgP [(0, 2), (1, -4)] = [(0, 1), (1, -2)] by decide +kernel, show tgM [(0, 2), (1, -4)] 3 = 1 by decide +kernel] at hr
  obtain ⟨p, q, r, x, a, n, c, y, d, l, f, rfl, h1, h2⟩ := hr
  exact ⟨p, q, r, x, a, n, c, y, d, l, f, rfl, h1, h2, hb⟩
theorem aw_n1 : nT 1 = ⟨#[49]⟩ := nT_pos 1 (by decide)
theorem aw_m4 : nT (-4) = ⟨#[45, 52]⟩ := nT_neg 4 (by decide) (by decide)
theorem aw_t1 : tT [(0, 1), (1, -2)] 0 = ⟨#[49, 42, 120, 48, 32, 43, 32, 45, 50, 42, 120, 49]⟩ := by
  unfold tT lT
  simp only [List.map_cons, List.map_nil, pT]
  rw [aw_n1, show nT (-2) = ⟨#[45, 50]⟩ from nT_neg 2 (by decide) (by decide), show nT ((0 : Nat) : Int) = ⟨#[48]⟩ from nT_pos 0 (by decide), show nT ((1 : Nat) : Int) = ⟨#[49]⟩ from nT_pos 1 (by decide)]
  rfl
theorem aw_t2 : tT [(0, -2), (1, 4)] 0 = ⟨#[45, 50, 42, 120, 48, 32, 43, 32, 52, 42, 120, 49]⟩ := by
  unfold tT lT
  simp only [List.map_cons, List.map_nil, pT]
  rw [show nT 4 = ⟨#[52]⟩ from nT_pos 4 (by decide), show nT (-2) = ⟨#[45, 50]⟩ from nT_neg 2 (by decide) (by decide), show nT ((0 : Nat) : Int) = ⟨#[48]⟩ from nT_pos 0 (by decide), show nT ((1 : Nat) : Int) = ⟨#[49]⟩ from nT_pos 1 (by decide)]
  rfl

set_option maxRecDepth 20000 in
set_option maxHeartbeats 8000000 in
theorem awake3_any (w : World) (ht : Tab w) :
    Calls Tryz.prog 7 #[] w fun e w' => e = .returned (.bool true) ∧ Below w.heap.size w w' := by
  have HTB : Hid (Tab w) := ht
  clear ht
  have hbw := Below.refl w.heap.size w
  go_enter Tryz.func7, Tryz.ntmps7
  have hn := below_new w (.cells #[.int .i64 0, .string ⟨#[50]⟩, .int .i64 1, .string ⟨#[45, 52]⟩] 67 (0, 0))
  have oA := Blk.new w 67 #[.int .i64 0, .string ⟨#[50]⟩, .int .i64 1, .string ⟨#[45, 52]⟩]
  have lwA : w.heap.size ≤ w.heap.size := by have := hbw.size; (try simp at this); omega
  replace hbw := hbw.step hn (Nat.le_refl _)
  clear hn
  have ltA := oA.lt
  have HMA : Hid (MArr (w.alloc (.cells #[.int .i64 0, .string ⟨#[50]⟩, .int .i64 1, .string ⟨#[45, 52]⟩] 67 (0, 0))) (some ⟨w.heap.size, 0, none⟩) [(0, ⟨#[50]⟩), (1, ⟨#[45, 52]⟩)]) := Or.inr ⟨w.heap.size, 0, rfl, fun i hi => by match i, hi with | 0, _ => exact ⟨oA.cell 0, oA.cell 1⟩ | 1, _ => exact ⟨oA.cell 2, oA.cell 3⟩ | i + 2, hi => simp at hi; omega⟩
  go_wp2_with fail
  refine (aw_read _ _ HMA.out).mono ?_
  rintro e w1 ⟨pR, qR, rR, xR, aR, nR, cR, yR, dR, lR, fR, rfl, hR, hRm, hb⟩
  replace oA := oA.stay hb
  replace ltA := oA.lt
  replace hbw := hbw.step hb (Nat.le_refl _)
  clear hb
  have hn := below_new w1 (.cells #[.slice pR qR rR, .bool xR, .slice aR nR cR, .bool yR, .slice dR lR fR] 42 (0, 0))
  have oR := Blk.new w1 42 #[.slice pR qR rR, .bool xR, .slice aR nR cR, .bool yR, .slice dR lR fR]
  have neAR : w.heap.size ≠ w1.heap.size := by have := ltA; (try simp at this); omega
  have lwR : w.heap.size ≤ w1.heap.size := by have := hbw.size; (try simp at this); omega
  replace oA := oA.stay hn
  replace ltA := oA.lt
  replace hR := hR.below hn
  replace hRm := hRm.below hn
  replace hbw := hbw.step hn (Nat.le_refl _)
  clear hn
  have ltR := oR.lt
  obtain ⟨Rc0, Rc1, Rc2, Rc3, Rc4⟩ := oR.five
  obtain ⟨Rk0, Rk1, Rk2, Rk3, Rk4⟩ := oR.frozen5
  go_wp2_with fail
  refine (aw_not _ _ ⟨_, _, _, _, _, _, _, _, _, _, _, rfl, hR, hRm⟩).mono ?_
  rintro e w2 ⟨pN, qN, rN, xN, aN, nN, cN, yN, dN, lN, fN, rfl, hN, hNm, hb⟩
  clear Rc0 Rc1 Rc2 Rc3 Rc4 Rk0 Rk1 Rk2 Rk3 Rk4
  replace oA := oA.stay hb
  replace ltA := oA.lt
  replace oR := oR.stay hb
  replace ltR := oR.lt
  replace hR := hR.below hb
  replace hRm := hRm.below hb
  replace hbw := hbw.step hb (Nat.le_refl _)
  clear hb
  have hn := below_new w2 (.cells #[.slice pN qN rN, .bool xN, .slice aN nN cN, .bool yN, .slice dN lN fN] 42 (0, 0))
  have oN := Blk.new w2 42 #[.slice pN qN rN, .bool xN, .slice aN nN cN, .bool yN, .slice dN lN fN]
  have neAN : w.heap.size ≠ w2.heap.size := by have := ltA; (try simp at this); omega
  have neRN : w1.heap.size ≠ w2.heap.size := by have := ltR; (try simp at this); omega
  have lwN : w.heap.size ≤ w2.heap.size := by have := hbw.size; (try simp at this); omega
  replace oA := oA.stay hn
  replace ltA := oA.lt
  replace oR := oR.stay hn
  replace ltR := oR.lt
  replace hR := hR.below hn
  replace hRm := hRm.below hn
  replace hN := hN.below hn
  replace hNm := hNm.below hn
  replace hbw := hbw.step hn (Nat.le_refl _)
  clear hn
  have ltN := oN.lt
  obtain ⟨Rc0, Rc1, Rc2, Rc3, Rc4⟩ := oR.five
  obtain ⟨Rk0, Rk1, Rk2, Rk3, Rk4⟩ := oR.frozen5
  go_wp2_with fail
  refine (aw_tight _ _ ⟨_, _, _, _, _, _, _, _, _, _, _, rfl, hR, hRm⟩).mono ?_
  rintro e w3 ⟨pT, qT, rT, xT, aT, nT, cT, yT, dT, lT, fT, rfl, hT, hTm, hb⟩
  clear Rc0 Rc1 Rc2 Rc3 Rc4 Rk0 Rk1 Rk2 Rk3 Rk4
  replace oA := oA.stay hb
  replace ltA := oA.lt
  replace oR := oR.stay hb
  replace ltR := oR.lt
  replace oN := oN.stay hb
  replace ltN := oN.lt
  replace hR := hR.below hb
  replace hRm := hRm.below hb
  replace hN := hN.below hb
  replace hNm := hNm.below hb
  replace hbw := hbw.step hb (Nat.le_refl _)
  clear hb
  have hn := below_new w3 (.cells #[.slice pT qT rT, .bool xT, .slice aT nT cT, .bool yT, .slice dT lT fT] 42 (0, 0))
  have oT := Blk.new w3 42 #[.slice pT qT rT, .bool xT, .slice aT nT cT, .bool yT, .slice dT lT fT]
  have neAT : w.heap.size ≠ w3.heap.size := by have := ltA; (try simp at this); omega
  have neRT : w1.heap.size ≠ w3.heap.size := by have := ltR; (try simp at this); omega
  have neNT : w2.heap.size ≠ w3.heap.size := by have := ltN; (try simp at this); omega
  have lwT : w.heap.size ≤ w3.heap.size := by have := hbw.size; (try simp at this); omega
  replace oA := oA.stay hn
  replace ltA := oA.lt
  replace oR := oR.stay hn
  replace ltR := oR.lt
  replace oN := oN.stay hn
  replace ltN := oN.lt
  replace hR := hR.below hn
  replace hRm := hRm.below hn
  replace hN := hN.below hn
  replace hNm := hNm.below hn
  replace hT := hT.below hn
  replace hTm := hTm.below hn
  replace hbw := hbw.step hn (Nat.le_refl _)
  clear hn
  have ltT := oT.lt
  obtain ⟨Tc0, Tc1, Tc2, Tc3, Tc4⟩ := oT.five
  obtain ⟨Tk0, Tk1, Tk2, Tk3, Tk4⟩ := oT.frozen5
  go_wp2_with fail
  refine (ltext_l _ _ _ _ _ hT.val (HTB.out.below hbw) aw_t1).mono ?_
  rintro e w4 ⟨rfl, hb⟩
  clear Tc0 Tc1 Tc2 Tc3 Tc4 Tk0 Tk1 Tk2 Tk3 Tk4
  replace oA := oA.stay hb
  replace ltA := oA.lt
  replace oR := oR.stay hb
  replace ltR := oR.lt
  replace oN := oN.stay hb
  replace ltN := oN.lt
  replace oT := oT.stay hb
  replace ltT := oT.lt
  replace hR := hR.below hb
  replace hRm := hRm.below hb
  replace hN := hN.below hb
  replace hNm := hNm.below hb
  replace hT := hT.below hb
  replace hTm := hTm.below hb
  replace hbw := hbw.step hb (Nat.le_refl _)
  clear hb
  obtain ⟨Tc0, Tc1, Tc2, Tc3, Tc4⟩ := oT.five
  obtain ⟨Tk0, Tk1, Tk2, Tk3, Tk4⟩ := oT.frozen5
  go_wp2_with fail
  refine (text_l _ _ _ _ hTm aw_n1).mono ?_
  rintro e w5 ⟨rfl, hb⟩
  clear Tc0 Tc1 Tc2 Tc3 Tc4 Tk0 Tk1 Tk2 Tk3 Tk4
  replace oA := oA.stay hb
  replace ltA := oA.lt
  replace oR := oR.stay hb
  replace ltR := oR.lt
  replace oN := oN.stay hb
  replace ltN := oN.lt
  replace oT := oT.stay hb
  replace ltT := oT.lt
  replace hR := hR.below hb
  replace hRm := hRm.below hb
  replace hN := hN.below hb
  replace hNm := hNm.below hb
  replace hT := hT.below hb
  replace hTm := hTm.below hb
  replace hbw := hbw.step hb (Nat.le_refl _)
  clear hb
  obtain ⟨Nc0, Nc1, Nc2, Nc3, Nc4⟩ := oN.five
  obtain ⟨Nk0, Nk1, Nk2, Nk3, Nk4⟩ := oN.frozen5
  go_wp2_with fail
  refine (ltext_l _ _ _ _ _ hN.val (HTB.out.below hbw) aw_t2).mono ?_
  rintro e w6 ⟨rfl, hb⟩
  clear Nc0 Nc1 Nc2 Nc3 Nc4 Nk0 Nk1 Nk2 Nk3 Nk4
  replace oA := oA.stay hb
  replace ltA := oA.lt
  replace oR := oR.stay hb
  replace ltR := oR.lt
  replace oN := oN.stay hb
  replace ltN := oN.lt
  replace oT := oT.stay hb
  replace ltT := oT.lt
  replace hR := hR.below hb
  replace hRm := hRm.below hb
  replace hN := hN.below hb
  replace hNm := hNm.below hb
  replace hT := hT.below hb
  replace hTm := hTm.below hb
  replace hbw := hbw.step hb (Nat.le_refl _)
  clear hb
  obtain ⟨Nc0, Nc1, Nc2, Nc3, Nc4⟩ := oN.five
  obtain ⟨Nk0, Nk1, Nk2, Nk3, Nk4⟩ := oN.frozen5
  go_wp2_with fail
  refine (text_l _ _ _ _ hNm aw_m4).mono ?_
  rintro e w7 ⟨rfl, hb⟩
  clear Nc0 Nc1 Nc2 Nc3 Nc4 Nk0 Nk1 Nk2 Nk3 Nk4
  replace oA := oA.stay hb
  replace ltA := oA.lt
  replace oR := oR.stay hb
  replace ltR := oR.lt
  replace oN := oN.stay hb
  replace ltN := oN.lt
  replace oT := oT.stay hb
  replace ltT := oT.lt
  replace hR := hR.below hb
  replace hRm := hRm.below hb
  replace hN := hN.below hb
  replace hNm := hNm.below hb
  replace hT := hT.below hb
  replace hTm := hTm.below hb
  replace hbw := hbw.step hb (Nat.le_refl _)
  clear hb
  go_wp2
  go_ret
  exact ⟨rfl, hbw⟩

end Go.Proofs.YteefniagebcagabGreatDoor
